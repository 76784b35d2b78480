
-- elf: the header's numbers in class 32.
import Derived.Test.YtoikagccopglkaaDoorH0
import Derived.Deep.RegionHeld3
namespace Go.Proofs.YtoikagccopglkaaDoor
open Go.ChangeShapes Go.WideShapes Go.ChangeAt Go.RowKit
set_option linter.unusedVariables false
set_option maxRecDepth 100000
set_option maxHeartbeats 8000000 in
theorem header_32 (b : ByteArray) (k : Nat) (o : Int) (w : World) (hF : w.heap[k]? = some (.cells (fileCells 32 o b) 62 (0, 0))) (hs : 52 ≤ b.size) (hm : b.size ≤ maxLen) (ho : o = 0 ∨ o = 1) :
    Calls Tryd.prog 19 #[.pointer (some ⟨k, 0, none⟩)] w fun r w' => r = .returned (.agg #[.int .i64 32, .int .i64 o, .int .i64 (numI b 16 2 o), .int .i64 (numI b 18 2 o), .int .u64 (numI b 32 4 o), .int .i64 (numI b 46 2 o), .int .i64 (numI b 48 2 o), .int .i64 (numI b 50 2 o)]) ∧ Below w.heap.size w w' := by
  have hk : k < w.heap.size := (Array.getElem?_eq_some_iff.1 hF).1
  have cell (i : Nat) (v : Value) (h : (fileCells 32 o b)[i]? = some v) (w' : World) (hb : Below w.heap.size w w') : w'.cell? ⟨k, i, none⟩ = some v := by
    rw [cell_of_row _ _ _ _ _ _ ((hb.block k hk).trans hF)]; exact h
  have hb0 : Below w.heap.size w (w.alloc (.cells #[.int .i64 0, .int .i64 0, .int .i64 0, .int .i64 0, .int .u64 0, .int .i64 0, .int .i64 0, .int .i64 0] 42)) := Below.alloc (Below.refl _ _) (Nat.le_refl _) _
  have c31 := cell 31 _ rfl _ hb0
  have c1 := cell 1 _ rfl _ hb0
  have HP : Hid (∀ w, Calls Tryd.prog 22 #[.string b, .int .u64 0, .int .u64 52] w fun r w' => r = .returned (.string (b.extract 0 52)) ∧ w' = w) := fun w => piece_ok b 0 52 w (by omega) (by omega) hm
  have HN : Hid (∀ (wx : World) (a K : Int), Below w.heap.size w wx → RowE w.heap.size wx → (0 ≤ a ∧ (K = 2 ∨ K = 4 ∨ K = 8) ∧ a + K ≤ 52) → Calls Tryd.prog 29 #[.pointer (some ⟨k, 0, none⟩), .string (b.extract 0 52), .agg #[.int .i64 a, .int .i64 K]] wx fun e w' => e = .returned (.int .u64 (numI b a K o)) ∧ Below w.heap.size w w' ∧ RowE w.heap.size w') := by
    intro wx a K hb hR hc
    obtain ⟨A, rfl⟩ := Int.eq_ofNat_of_zero_le hc.1
    obtain ⟨N, rfl⟩ := Int.eq_ofNat_of_zero_le (show 0 ≤ K by omega)
    have hsz : (b.extract 0 52).size = 52 := by rw [ByteArray.size_extract]; omega
    refine (number_c (b.extract 0 52) k A N o wx ho (by omega) (by rw [hsz]; omega) (by rw [hsz]; unfold maxLen; omega) (cell 32 _ rfl wx hb)).mono fun e w' ⟨h1, h2⟩ => ?_
    have hb' : Below w.heap.size w w' := hb.trans (h2.mono hb.size)
    refine ⟨?_, hb', hR.kept h2⟩
    rw [h1, num_ext b 0 52 A N o (by omega), Nat.zero_add]
    rfl
  have hw0 : IntKind.i64.wrap (numI b 16 2 o) = numI b 16 2 o := wrap_numI b 16 2 o (by decide)
  have hx0 : wrap64 (numI b 16 2 o) = numI b 16 2 o := wrap_numI64 b 16 2 o (by decide)
  have hw1 : IntKind.i64.wrap (numI b 18 2 o) = numI b 18 2 o := wrap_numI b 18 2 o (by decide)
  have hx1 : wrap64 (numI b 18 2 o) = numI b 18 2 o := wrap_numI64 b 18 2 o (by decide)
  have hw3 : IntKind.i64.wrap (numI b 46 2 o) = numI b 46 2 o := wrap_numI b 46 2 o (by decide)
  have hx3 : wrap64 (numI b 46 2 o) = numI b 46 2 o := wrap_numI64 b 46 2 o (by decide)
  have hw4 : IntKind.i64.wrap (numI b 48 2 o) = numI b 48 2 o := wrap_numI b 48 2 o (by decide)
  have hx4 : wrap64 (numI b 48 2 o) = numI b 48 2 o := wrap_numI64 b 48 2 o (by decide)
  have hw5 : IntKind.i64.wrap (numI b 50 2 o) = numI b 50 2 o := wrap_numI b 50 2 o (by decide)
  have hx5 : wrap64 (numI b 50 2 o) = numI b 50 2 o := wrap_numI64 b 50 2 o (by decide)
  have hR0 : RowE w.heap.size (w.alloc (.cells #[.int .i64 0, .int .i64 0, .int .i64 0, .int .i64 0, .int .u64 0, .int .i64 0, .int .i64 0, .int .i64 0] 42)) := RowE.new w
  have d0 : ∀ w' : World, Below w.heap.size w w' → w'.cell? ⟨k, 0, none⟩ = some (.int .i64 32) := cell 0 _ rfl
  have d32 : ∀ w' : World, Below w.heap.size w w' → w'.cell? ⟨k, 32, none⟩ = some (.int .i64 o) := cell 32 _ rfl
  have d2 : ∀ w' : World, Below w.heap.size w w' → w'.cell? ⟨k, 2, none⟩ = some (.int .i64 16) := cell 2 _ rfl
  have d3 : ∀ w' : World, Below w.heap.size w w' → w'.cell? ⟨k, 3, none⟩ = some (.int .i64 2) := cell 3 _ rfl
  have d4 : ∀ w' : World, Below w.heap.size w w' → w'.cell? ⟨k, 4, none⟩ = some (.int .i64 18) := cell 4 _ rfl
  have d5 : ∀ w' : World, Below w.heap.size w w' → w'.cell? ⟨k, 5, none⟩ = some (.int .i64 2) := cell 5 _ rfl
  have d6 : ∀ w' : World, Below w.heap.size w w' → w'.cell? ⟨k, 6, none⟩ = some (.int .i64 32) := cell 6 _ rfl
  have d7 : ∀ w' : World, Below w.heap.size w w' → w'.cell? ⟨k, 7, none⟩ = some (.int .i64 4) := cell 7 _ rfl
  have d8 : ∀ w' : World, Below w.heap.size w w' → w'.cell? ⟨k, 8, none⟩ = some (.int .i64 46) := cell 8 _ rfl
  have d9 : ∀ w' : World, Below w.heap.size w w' → w'.cell? ⟨k, 9, none⟩ = some (.int .i64 2) := cell 9 _ rfl
  have d10 : ∀ w' : World, Below w.heap.size w w' → w'.cell? ⟨k, 10, none⟩ = some (.int .i64 48) := cell 10 _ rfl
  have d11 : ∀ w' : World, Below w.heap.size w w' → w'.cell? ⟨k, 11, none⟩ = some (.int .i64 2) := cell 11 _ rfl
  have d12 : ∀ w' : World, Below w.heap.size w w' → w'.cell? ⟨k, 12, none⟩ = some (.int .i64 50) := cell 12 _ rfl
  have d13 : ∀ w' : World, Below w.heap.size w w' → w'.cell? ⟨k, 13, none⟩ = some (.int .i64 2) := cell 13 _ rfl
  clear hF hs hm ho cell
  generalize hbe : b.extract 0 52 = hd at HP HN
  clear hbe
  go_enter Tryd.func19, Tryd.ntmps19
  go_wp2_with fail
  go_quiet ((go_at_call 22; exact Calls.quiet_of_same (HP.out _)))
  have hb1 : Below w.heap.size w ((w.alloc (.cells #[.int .i64 0, .int .i64 0, .int .i64 0, .int .i64 0, .int .u64 0, .int .i64 0, .int .i64 0, .int .i64 0] 42)).drewN nq) := below_drewN hb0 _
  have hR1 : RowE w.heap.size ((w.alloc (.cells #[.int .i64 0, .int .i64 0, .int .i64 0, .int .i64 0, .int .u64 0, .int .i64 0, .int .i64 0, .int .i64 0] 42)).drewN nq) := hR0
  clear c31 c1 hR0 hb0 HP
  generalize ((w.alloc (.cells #[.int .i64 0, .int .i64 0, .int .i64 0, .int .i64 0, .int .u64 0, .int .i64 0, .int .i64 0, .int .i64 0] 42)).drewN nq) = wq at hb1 hR1
  go_wp2_with fail
  simp only [List.append]
  go_region_held3 (fun w' => Below w.heap.size w w') (first | (with_reducible assumption) | (with_reducible exact Below.drew (by with_reducible assumption)) | (with_reducible refine below_store8 ?_ (Nat.le_refl _); with_reducible assumption)) (first
    | (go_at_call_of 29 (Value.int IntKind.i64 50); refine (HN.out _ _ _ (by first | assumption | exact hb1.drew) (by first | assumption | exact hR1) (by decide)).mono ?_; rintro e w' ⟨rfl, hB', hR'⟩; obtain ⟨r0, r1, r2, r3, r4, r5, r6, r7, y0, y1, y2, y3, y4, y5, y6, y7⟩ := hR'.cells)
    | (go_at_call 29; refine (HN.out _ _ _ (by first | assumption | exact hb1.drew) (by first | assumption | exact hR1) (by decide)).mono ?_; rintro e w' ⟨rfl, hB', hR'⟩))
  all_goals
    go_wp2
    refine bodyPost_ret (results_cell_row rfl _ _ w.heap.size _ _ _ _ rfl (RowE.store8 hR') Tryd.underlying42 rfl (by kernel_rfl)) rfl ⟨?_, below_store8 (by with_reducible assumption) (Nat.le_refl _)⟩
    first | (with_reducible rfl) | (simp only [hx0, hx1, hx3, hx4, hx5])
end Go.Proofs.YtoikagccopglkaaDoor
