
-- NmLetter's walk.
import Derived.Test.YtnajnfnkpcpacaaLC
import Derived.Test.YtnajnfnkpcpacaaAZ
namespace Go.Proofs.Ytnajnfnkpcpacaa
open Go.ChangeShapes Go.WideShapes Go.ChangeAt Go.RowKit
set_option linter.unusedVariables false
set_option maxRecDepth 100000
theorem nmLetter_w (nm : ByteArray) (bd ty ot sc va sz : Int) (v : Value) (S : List Se) (w : World) (hS : RowG seL w v S) (hn : S.length ≤ 1048576) :
    Calls Try.prog 4 #[.agg #[.string nm, .int .i64 bd, .int .i64 ty, .int .i64 ot, .int .i64 sc, .int .u64 va, .int .u64 sz], v] w
      fun e w' => e = .returned (.bool true) ∧ Below w.heap.size w w' := by
  have hB := bup0 w (.cells #[.string nm, .int .i64 bd, .int .i64 ty, .int .i64 ot, .int .i64 sc, .int .u64 va, .int .u64 sz] 28)
  obtain ⟨W, hW⟩ : ∃ W, W = w.alloc (.cells #[.string nm, .int .i64 bd, .int .i64 ty, .int .i64 ot, .int .i64 sc, .int .u64 va, .int .u64 sz] 28) := ⟨_, rfl⟩
  have c0 : W.cell? ⟨w.heap.size, 0, none⟩ = some (.string nm) := by rw [hW]; exact cell_rowK (heap_alloc_new _ _) 0 _ rfl
  have c1 : W.cell? ⟨w.heap.size, 1, none⟩ = some (.int .i64 bd) := by rw [hW]; exact cell_rowK (heap_alloc_new _ _) 1 _ rfl
  have c2 : W.cell? ⟨w.heap.size, 2, none⟩ = some (.int .i64 ty) := by rw [hW]; exact cell_rowK (heap_alloc_new _ _) 2 _ rfl
  have c3 : W.cell? ⟨w.heap.size, 3, none⟩ = some (.int .i64 ot) := by rw [hW]; exact cell_rowK (heap_alloc_new _ _) 3 _ rfl
  have c4 : W.cell? ⟨w.heap.size, 4, none⟩ = some (.int .i64 sc) := by rw [hW]; exact cell_rowK (heap_alloc_new _ _) 4 _ rfl
  have c5 : W.cell? ⟨w.heap.size, 5, none⟩ = some (.int .u64 va) := by rw [hW]; exact cell_rowK (heap_alloc_new _ _) 5 _ rfl
  have c6 : W.cell? ⟨w.heap.size, 6, none⟩ = some (.int .u64 sz) := by rw [hW]; exact cell_rowK (heap_alloc_new _ _) 6 _ rfl
  rw [← hW] at hB
  have hS1 := hS.on hB
  go_enter Try.func4, Try.ntmps4
  go_upto_region 1 with fail
  rw [← hW]
  have HY := hidK hW
  clear hW
  go_upto_region 2 with (refine wpZ_all elSe rfl (.const (.slice none 0 0)) (.tmp 8) rfl W W.heap.size _ _ [] S rfl rfl (ownZ_nil _ _) hS1 (by rw [List.length_nil]; omega) (Nat.le_refl _) (Below.refl _ _) ?_; intro v1 w1 o1 b1)
  have r1 := o1.row elSe
  rw [List.nil_append] at r1
  have HC1 := hidK (letter_c nm bd ty ot sc va sz v1 S w1 r1)
  have g0 := cell_onG c0 b1
  have g1 := cell_onG c1 b1
  have g2 := cell_onG c2 b1
  have g3 := cell_onG c3 b1
  have g4 := cell_onG c4 b1
  have g5 := cell_onG c5 b1
  have g6 := cell_onG c6 b1
  have hB1 := bel3K hB b1
  clear c0 c1 c2 c3 c4 c5 c6 o1 r1
  go_upto_region 3 with (go_at_call 9; refine HC1.out.mono ?_; rintro e w2 ⟨rfl, b2⟩)
  have f0 := cell_onG g0 b2
  have f1 := cell_onG g1 b2
  have f2 := cell_onG g2 b2
  have f3 := cell_onG g3 b2
  have f4 := cell_onG g4 b2
  have f5 := cell_onG g5 b2
  have f6 := cell_onG g6 b2
  have hB2 := bel3K hB1 b2
  have HC2 := hidK (rletter20_c nm bd ty ot sc va sz v S w2 (hS.on hB2))
  clear g0 g1 g2 g3 g4 g5 g6 HC1
  go_wp2_with (go_at_call 10; refine HC2.out.mono ?_; rintro e w3 ⟨rfl, b3⟩)
  go_ret
  exact ⟨by simp, bel3K hB2 b3⟩
end Go.Proofs.Ytnajnfnkpcpacaa
