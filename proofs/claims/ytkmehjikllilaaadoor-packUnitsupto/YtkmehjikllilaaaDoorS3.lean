
-- elf.Content: contracts.
import Derived.Test.YtkmehjikllilaaaDoorS2
namespace Go.Proofs.YtkmehjikllilaaaDoor
open Go.ChangeShapes Go.WideShapes Go.ChangeAt Go.RowKit
set_option linter.unusedVariables false
set_option maxRecDepth 100000
theorem cell_kept2 {w w1 : World} {o : Obj} {v : Value} {t : TypeId} (hb : Below ((w.alloc o).alloc (.cells #[v] t)).heap.size ((w.alloc o).alloc (.cells #[v] t)) w1) : w1.cell? ⟨w.heap.size + 1, 0, none⟩ = some v := by
  have h := cell_kept hb; rw [size_alloc] at h; exact h
theorem frozen_kept2 {w w1 : World} {o : Obj} {v : Value} {t : TypeId} (hb : Below ((w.alloc o).alloc (.cells #[v] t)).heap.size ((w.alloc o).alloc (.cells #[v] t)) w1) : w1.frozen? ⟨w.heap.size + 1, 0, none⟩ = false := by
  have h := frozen_kept hb; rw [size_alloc] at h; exact h
theorem below_kept2 {w w1 : World} {o p : Obj} (hb : Below ((w.alloc o).alloc p).heap.size ((w.alloc o).alloc p) w1) : Below w.heap.size w w1 :=
  below_kept (below_kept hb)
theorem Content_ok (s : ByteArray) (a b c d e' f g h : Int) (v : ByteArray) (w : World)
    (hC : ∀ w : World, Calls Tryd.prog 55 #[.string s, .agg #[.int .i64 a, .int .i64 b, .int .u64 c, .int .i64 d, .int .i64 e', .int .u64 f, .int .u64 g, .int .u64 h]] w fun r w' => r = .returned (.string v) ∧ Below w.heap.size w w') :
    Calls Tryd.prog 43 #[.string s, .agg #[.int .i64 a, .int .i64 b, .int .u64 c, .int .i64 d, .int .i64 e', .int .u64 f, .int .u64 g, .int .u64 h]] w fun r w' => r = .returned (.tuple #[.string v, .int .i64 0]) ∧ Below w.heap.size w w' := by
  have hmf : ∀ (fn : Fn) (first cap : Array Value) (w : World), (Instr.makeFunc fn first cap).run Tryd.prog w = .ok (.func fn first cap) w := fun _ _ _ _ => rfl
  have HP := Hid.mk' hC
  clear hC
  go_enter_defers Tryd.func43, Tryd.ntmps43
  go_wp2_with (first | (go_at_call 55; refine (HP.out _).mono ?_; rintro r w1 ⟨rfl, hb⟩; have hc : w1.cell? ⟨w.heap.size + 1, 0, none⟩ = some (.int .i64 0) := cell_kept2 hb; have hz : w1.frozen? ⟨w.heap.size + 1, 0, none⟩ = false := frozen_kept2 hb))
  have hc2 : (w1.setCell ⟨w.heap.size + 1, 0, none⟩ (.int .i64 0)).cell? ⟨w.heap.size + 1, 0, none⟩ = some (.int .i64 0) := World.cell?_setCell_same _ _ _ hc
  have hz2 : (w1.setCell ⟨w.heap.size + 1, 0, none⟩ (.int .i64 0)).frozen? ⟨w.heap.size + 1, 0, none⟩ = false := (World.frozen?_setCell _ _ _ _).trans hz
  have hs : ((w1.setCell ⟨w.heap.size + 1, 0, none⟩ (.int .i64 0)).setCell ⟨w.heap.size + 1, 0, none⟩ (.int .i64 0)).cell? ⟨w.heap.size + 1, 0, none⟩ = some (.int .i64 0) := World.cell?_setCell_same _ _ _ hc2
  have hB : Below w.heap.size w ((w1.setCell ⟨w.heap.size + 1, 0, none⟩ (.int .i64 0)).setCell ⟨w.heap.size + 1, 0, none⟩ (.int .i64 0)) := Below.setCell (Below.setCell (below_kept2 hb) (Nat.le_succ _) _) (Nat.le_succ _) _
  refine leaves_cons (f := 54) (args := #[.pointer (some ⟨w.heap.size + 1, 0, none⟩)]) (by simp) (by simp [go_sem]) ?_
  refine (idle_Content ⟨w.heap.size + 1, 0, none⟩ _ _ hc2 hz2).mono ?_
  rintro r u' w'' ⟨rfl, rfl, rfl⟩
  generalize ((w1.setCell ⟨w.heap.size + 1, 0, none⟩ (.int .i64 0)).setCell ⟨w.heap.size + 1, 0, none⟩ (.int .i64 0)) = wz at hs hB
  simp [Leaves, settle, results, Tryd.results43, go_sem, hs]
  exact hB
theorem Content_no (s : ByteArray) (a b c d e' f g h : Int) (e : Int) (w : World)
    (hC : ∀ w : World, Calls Tryd.prog 55 #[.string s, .agg #[.int .i64 a, .int .i64 b, .int .u64 c, .int .i64 d, .int .i64 e', .int .u64 f, .int .u64 g, .int .u64 h]] w fun r w' => r = .panicked (gives e) ∧ Below w.heap.size w w') :
    Calls Tryd.prog 43 #[.string s, .agg #[.int .i64 a, .int .i64 b, .int .u64 c, .int .i64 d, .int .i64 e', .int .u64 f, .int .u64 g, .int .u64 h]] w fun r w' => r = .returned (.tuple #[.string .empty, .int .i64 e]) ∧ Below w.heap.size w w' := by
  have hmf : ∀ (fn : Fn) (first cap : Array Value) (w : World), (Instr.makeFunc fn first cap).run Tryd.prog w = .ok (.func fn first cap) w := fun _ _ _ _ => rfl
  have HP := Hid.mk' hC
  clear hC
  go_enter_defers Tryd.func43, Tryd.ntmps43
  go_wp2_with (first | (go_at_call 55; refine (HP.out _).mono ?_; rintro r w1 ⟨rfl, hb⟩; have hc : w1.cell? ⟨w.heap.size + 1, 0, none⟩ = some (.int .i64 0) := cell_kept2 hb; have hz : w1.frozen? ⟨w.heap.size + 1, 0, none⟩ = false := frozen_kept2 hb))
  have hs : (w1.setCell ⟨w.heap.size + 1, 0, none⟩ (.int .i64 e)).cell? ⟨w.heap.size + 1, 0, none⟩ = some (.int .i64 e) := World.cell?_setCell_same _ _ _ hc
  have hB : Below w.heap.size w (w1.setCell ⟨w.heap.size + 1, 0, none⟩ (.int .i64 e)) := Below.setCell (below_kept2 hb) (Nat.le_succ _) _
  refine leaves_cons (f := 54) (args := #[.pointer (some ⟨w.heap.size + 1, 0, none⟩)]) (by simp) (by simp [go_sem]) ?_
  refine (catch_Content ⟨w.heap.size + 1, 0, none⟩ _ _ _ hc hz).mono ?_
  rintro r u' w'' ⟨rfl, rfl, rfl⟩
  generalize (w1.setCell ⟨w.heap.size + 1, 0, none⟩ (.int .i64 e)) = wz at hs hB
  simp [Leaves, settle, results, Tryd.results43, go_sem, hs]
  exact ⟨rfl, hB⟩
end Go.Proofs.YtkmehjikllilaaaDoor
