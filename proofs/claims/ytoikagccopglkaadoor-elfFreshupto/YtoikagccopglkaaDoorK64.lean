
-- elf: a section's numbers in class 64.
import Derived.Test.YtoikagccopglkaaDoorK0
import Derived.Deep.RegionHeld3
namespace Go.Proofs.YtoikagccopglkaaDoor
open Go.ChangeShapes Go.WideShapes Go.ChangeAt Go.RowKit
set_option linter.unusedVariables false
set_option maxRecDepth 100000
set_option maxHeartbeats 8000000 in
theorem section_64 (b s : ByteArray) (k : Nat) (o : Int) (w : World) (hF : w.heap[k]? = some (.cells (fileCells 64 o b) 62 (0, 0))) (hs : s.size = 64) (ho : o = 0 ∨ o = 1) :
    Calls Tryd.prog 30 #[.pointer (some ⟨k, 0, none⟩), .string s] w fun r w' => r = .returned (.agg #[.int .i64 (numI s 0 4 o), .int .i64 (numI s 4 4 o), .int .u64 (numI s 8 8 o), .int .i64 (numI s 40 4 o), .int .i64 (numI s 44 4 o), .int .u64 (numI s 24 8 o), .int .u64 (numI s 32 8 o), .int .u64 (numI s 56 8 o)]) ∧ Below w.heap.size w w' := by
  have hk : k < w.heap.size := (Array.getElem?_eq_some_iff.1 hF).1
  have cell (i : Nat) (v : Value) (h : (fileCells 64 o b)[i]? = some v) (w' : World) (hb : Below w.heap.size w w') : w'.cell? ⟨k, i, none⟩ = some v := by
    rw [cell_of_row _ _ _ _ _ _ ((hb.block k hk).trans hF)]; exact h
  have hb1 : Below w.heap.size w (w.alloc (.cells #[.int .i64 0, .int .i64 0, .int .u64 0, .int .i64 0, .int .i64 0, .int .u64 0, .int .u64 0, .int .u64 0] 48)) := Below.alloc (Below.refl _ _) (Nat.le_refl _) _
  have HN : Hid (∀ (wx : World) (a K : Int), Below w.heap.size w wx → RowS w.heap.size wx → (0 ≤ a ∧ (K = 2 ∨ K = 4 ∨ K = 8) ∧ a + K ≤ 64) → Calls Tryd.prog 29 #[.pointer (some ⟨k, 0, none⟩), .string s, .agg #[.int .i64 a, .int .i64 K]] wx fun e w' => e = .returned (.int .u64 (numI s a K o)) ∧ Below w.heap.size w w' ∧ RowS w.heap.size w') := by
    intro wx a K hb hR hc
    obtain ⟨A, rfl⟩ := Int.eq_ofNat_of_zero_le hc.1
    obtain ⟨N, rfl⟩ := Int.eq_ofNat_of_zero_le (show 0 ≤ K by omega)
    refine (number_c s k A N o wx ho (by omega) (by rw [hs]; omega) (by rw [hs]; unfold maxLen; omega) (cell 32 _ rfl wx hb)).mono fun e w' ⟨h1, h2⟩ => ?_
    have hb' : Below w.heap.size w w' := hb.trans (h2.mono hb.size)
    exact ⟨h1, hb', hR.kept h2⟩
  have hw0 : IntKind.i64.wrap (numI s 0 4 o) = numI s 0 4 o := wrap_numI s 0 4 o (by decide)
  have hx0 : wrap64 (numI s 0 4 o) = numI s 0 4 o := wrap_numI64 s 0 4 o (by decide)
  have hw1 : IntKind.i64.wrap (numI s 4 4 o) = numI s 4 4 o := wrap_numI s 4 4 o (by decide)
  have hx1 : wrap64 (numI s 4 4 o) = numI s 4 4 o := wrap_numI64 s 4 4 o (by decide)
  have hw3 : IntKind.i64.wrap (numI s 40 4 o) = numI s 40 4 o := wrap_numI s 40 4 o (by decide)
  have hx3 : wrap64 (numI s 40 4 o) = numI s 40 4 o := wrap_numI64 s 40 4 o (by decide)
  have hw4 : IntKind.i64.wrap (numI s 44 4 o) = numI s 44 4 o := wrap_numI s 44 4 o (by decide)
  have hx4 : wrap64 (numI s 44 4 o) = numI s 44 4 o := wrap_numI64 s 44 4 o (by decide)
  have hR1 : RowS w.heap.size (w.alloc (.cells #[.int .i64 0, .int .i64 0, .int .u64 0, .int .i64 0, .int .i64 0, .int .u64 0, .int .u64 0, .int .u64 0] 48)) := RowS.new w
  have d32 : ∀ w' : World, Below w.heap.size w w' → w'.cell? ⟨k, 32, none⟩ = some (.int .i64 o) := cell 32 _ rfl
  have d15 : ∀ w' : World, Below w.heap.size w w' → w'.cell? ⟨k, 15, none⟩ = some (.int .i64 0) := cell 15 _ rfl
  have d16 : ∀ w' : World, Below w.heap.size w w' → w'.cell? ⟨k, 16, none⟩ = some (.int .i64 4) := cell 16 _ rfl
  have d17 : ∀ w' : World, Below w.heap.size w w' → w'.cell? ⟨k, 17, none⟩ = some (.int .i64 4) := cell 17 _ rfl
  have d18 : ∀ w' : World, Below w.heap.size w w' → w'.cell? ⟨k, 18, none⟩ = some (.int .i64 4) := cell 18 _ rfl
  have d19 : ∀ w' : World, Below w.heap.size w w' → w'.cell? ⟨k, 19, none⟩ = some (.int .i64 8) := cell 19 _ rfl
  have d20 : ∀ w' : World, Below w.heap.size w w' → w'.cell? ⟨k, 20, none⟩ = some (.int .i64 8) := cell 20 _ rfl
  have d21 : ∀ w' : World, Below w.heap.size w w' → w'.cell? ⟨k, 21, none⟩ = some (.int .i64 24) := cell 21 _ rfl
  have d22 : ∀ w' : World, Below w.heap.size w w' → w'.cell? ⟨k, 22, none⟩ = some (.int .i64 8) := cell 22 _ rfl
  have d23 : ∀ w' : World, Below w.heap.size w w' → w'.cell? ⟨k, 23, none⟩ = some (.int .i64 32) := cell 23 _ rfl
  have d24 : ∀ w' : World, Below w.heap.size w w' → w'.cell? ⟨k, 24, none⟩ = some (.int .i64 8) := cell 24 _ rfl
  have d25 : ∀ w' : World, Below w.heap.size w w' → w'.cell? ⟨k, 25, none⟩ = some (.int .i64 40) := cell 25 _ rfl
  have d26 : ∀ w' : World, Below w.heap.size w w' → w'.cell? ⟨k, 26, none⟩ = some (.int .i64 4) := cell 26 _ rfl
  have d27 : ∀ w' : World, Below w.heap.size w w' → w'.cell? ⟨k, 27, none⟩ = some (.int .i64 44) := cell 27 _ rfl
  have d28 : ∀ w' : World, Below w.heap.size w w' → w'.cell? ⟨k, 28, none⟩ = some (.int .i64 4) := cell 28 _ rfl
  have d29 : ∀ w' : World, Below w.heap.size w w' → w'.cell? ⟨k, 29, none⟩ = some (.int .i64 56) := cell 29 _ rfl
  have d30 : ∀ w' : World, Below w.heap.size w w' → w'.cell? ⟨k, 30, none⟩ = some (.int .i64 8) := cell 30 _ rfl
  clear hF hs ho cell
  go_enter Tryd.func30, Tryd.ntmps30
  go_wp2_with fail
  simp only [List.append]
  go_region_held3 (fun w' => Below w.heap.size w w') (first | (with_reducible assumption) | (with_reducible exact Below.drew (by with_reducible assumption)) | (with_reducible refine below_store8 ?_ (Nat.le_refl _); with_reducible assumption)) (first
    | (go_at_call_of 29 (Value.int IntKind.i64 56); refine (HN.out _ _ _ (by first | assumption | exact hb1.drew) (by first | assumption | exact hR1) (by decide)).mono ?_; rintro e w' ⟨rfl, hB', hR'⟩; obtain ⟨r0, r1, r2, r3, r4, r5, r6, r7, y0, y1, y2, y3, y4, y5, y6, y7⟩ := hR'.cells)
    | (go_at_call 29; refine (HN.out _ _ _ (by first | assumption | exact hb1.drew) (by first | assumption | exact hR1) (by decide)).mono ?_; rintro e w' ⟨rfl, hB', hR'⟩))
  all_goals
    go_wp2
    refine bodyPost_ret (results_cell_row rfl _ _ w.heap.size _ _ _ _ rfl (RowS.store8 hR') Tryd.underlying48 rfl (by kernel_rfl)) rfl ⟨?_, below_store8 (by with_reducible assumption) (Nat.le_refl _)⟩
    first | (with_reducible rfl) | (simp only [hx0, hx1, hx3, hx4])
end Go.Proofs.YtoikagccopglkaaDoor
