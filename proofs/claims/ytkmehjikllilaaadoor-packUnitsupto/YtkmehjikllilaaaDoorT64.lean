
-- syms: an entry of a symbol table in class 64.
import Derived.Test.YtkmehjikllilaaaDoorT2
import Derived.Deep.RegionHeld3
namespace Go.Proofs.YtkmehjikllilaaaDoor
open Go.ChangeShapes Go.WideShapes Go.ChangeAt Go.RowKit
set_option linter.unusedVariables false
set_option maxRecDepth 100000
set_option maxHeartbeats 8000000 in
theorem symbol_64 (s t names nm : ByteArray) (k : Nat) (o : Int) (w : World) (hF : w.heap[k]? = some (.cells (tabCells col64 o t names) 72 (0, 0))) (hs : s.size = 24) (hm : names.size ≤ maxLen) (ho : o = 0 ∨ o = 1) (hN : nameOf names (num s 0 4 o) = some nm) :
    Calls Tryd.prog 45 #[.pointer (some ⟨k, 0, none⟩), .string s] w fun r w' => r = .returned (.tuple #[.agg #[.string nm, .int .i64 (((num s 4 1 o / 16 : Nat)) : Int), .int .i64 (((num s 4 1 o % 16 : Nat)) : Int), .int .i64 (numI s 5 1 o), .int .i64 (numI s 6 2 o), .int .u64 (numI s 8 8 o), .int .u64 (numI s 16 8 o)], .int .i64 0]) ∧ Below w.heap.size w w' := by
  have hk : k < w.heap.size := (Array.getElem?_eq_some_iff.1 hF).1
  have cell (i : Nat) (v : Value) (h : (tabCells col64 o t names)[i]? = some v) (w' : World) (hb : Below w.heap.size w w') : w'.cell? ⟨k, i, none⟩ = some v := by
    rw [cell_of_row _ _ _ _ _ _ ((hb.block k hk).trans hF)]; exact h
  have hb0 : Below w.heap.size w (w.alloc (.cells #[.string ⟨#[]⟩, .int .i64 0, .int .i64 0, .int .i64 0, .int .i64 0, .int .u64 0, .int .u64 0] 42)) := Below.alloc (Below.refl _ _) (Nat.le_refl _) _
  have HN : Hid (∀ (wx : World) (a K : Int), Below w.heap.size w wx → RowY w.heap.size wx → (0 ≤ a ∧ (K = 1 ∨ K = 2 ∨ K = 4 ∨ K = 8) ∧ a + K ≤ 24) → Calls Tryd.prog 57 #[.pointer (some ⟨k, 0, none⟩), .string s, .agg #[.int .i64 a, .int .i64 K]] wx fun e w' => e = .returned (.int .u64 (numI s a K o)) ∧ Below w.heap.size w w' ∧ RowY w.heap.size w') := by
    intro wx a K hb hR hc
    obtain ⟨A, rfl⟩ := Int.eq_ofNat_of_zero_le hc.1
    obtain ⟨N, rfl⟩ := Int.eq_ofNat_of_zero_le (show 0 ≤ K by omega)
    refine (snumber_c s k A N o wx ho (by omega) (by rw [hs]; omega) (by rw [hs]; unfold maxLen; omega) (cell 13 _ rfl wx hb)).mono fun e w' ⟨h1, h2⟩ => ?_
    have hb' : Below w.heap.size w w' := hb.trans (h2.mono hb.size)
    exact ⟨h1, hb', hR.kept h2⟩
  have HA : Hid (∀ wx : World, Below w.heap.size w wx → RowY w.heap.size wx → Calls Tryd.prog 56 #[.pointer (some ⟨k, 0, none⟩), .int .i64 (numI s 0 4 o)] wx fun r w' => r = .returned (.tuple #[.string nm, .int .i64 0]) ∧ Below w.heap.size w w' ∧ RowY w.heap.size w') := by
    intro wx hb hR
    refine (nameAt_ok names nm k (num s 0 4 o) wx (num_lt4 _ _ _) hm (cell 15 _ rfl wx hb) hN).mono fun e w' ⟨h1, h2⟩ => ?_
    exact ⟨h1, hb.trans (h2.mono hb.size), hR.kept h2⟩
  have hwn : IntKind.i64.wrap (numI s 0 4 o) = numI s 0 4 o := wrap_numI s 0 4 o (by decide)
  have hxn : wrap64 (numI s 0 4 o) = numI s 0 4 o := wrap_numI64 s 0 4 o (by decide)
  have hwo : IntKind.i64.wrap (numI s 5 1 o) = (numI s 5 1 o) := wrap_numI1 s _ o
  have hxo : wrap64 (numI s 5 1 o) = (numI s 5 1 o) := wrap_numI1' s _ o
  have hws : IntKind.i64.wrap (numI s 6 2 o) = (numI s 6 2 o) := wrap_numI s _ 2 o (by decide)
  have hxs : wrap64 (numI s 6 2 o) = (numI s 6 2 o) := wrap_numI64 s _ 2 o (by decide)
  have hR0 : RowY w.heap.size (w.alloc (.cells #[.string ⟨#[]⟩, .int .i64 0, .int .i64 0, .int .i64 0, .int .i64 0, .int .u64 0, .int .u64 0] 42)) := RowY.new w
  have d1 : ∀ w' : World, Below w.heap.size w w' → w'.cell? ⟨k, 1, none⟩ = some (.int .i64 0) := cell 1 _ rfl
  have d2 : ∀ w' : World, Below w.heap.size w w' → w'.cell? ⟨k, 2, none⟩ = some (.int .i64 4) := cell 2 _ rfl
  have d3 : ∀ w' : World, Below w.heap.size w w' → w'.cell? ⟨k, 3, none⟩ = some (.int .i64 8) := cell 3 _ rfl
  have d4 : ∀ w' : World, Below w.heap.size w w' → w'.cell? ⟨k, 4, none⟩ = some (.int .i64 8) := cell 4 _ rfl
  have d5 : ∀ w' : World, Below w.heap.size w w' → w'.cell? ⟨k, 5, none⟩ = some (.int .i64 16) := cell 5 _ rfl
  have d6 : ∀ w' : World, Below w.heap.size w w' → w'.cell? ⟨k, 6, none⟩ = some (.int .i64 8) := cell 6 _ rfl
  have d7 : ∀ w' : World, Below w.heap.size w w' → w'.cell? ⟨k, 7, none⟩ = some (.int .i64 4) := cell 7 _ rfl
  have d8 : ∀ w' : World, Below w.heap.size w w' → w'.cell? ⟨k, 8, none⟩ = some (.int .i64 1) := cell 8 _ rfl
  have d9 : ∀ w' : World, Below w.heap.size w w' → w'.cell? ⟨k, 9, none⟩ = some (.int .i64 5) := cell 9 _ rfl
  have d10 : ∀ w' : World, Below w.heap.size w w' → w'.cell? ⟨k, 10, none⟩ = some (.int .i64 1) := cell 10 _ rfl
  have d11 : ∀ w' : World, Below w.heap.size w w' → w'.cell? ⟨k, 11, none⟩ = some (.int .i64 6) := cell 11 _ rfl
  have d12 : ∀ w' : World, Below w.heap.size w w' → w'.cell? ⟨k, 12, none⟩ = some (.int .i64 2) := cell 12 _ rfl
  have c1 := d1 _ hb0
  have c2 := d2 _ hb0
  have hi256 := num_lt1 s 4 o
  have HI : Hid (∀ wx : World, Below w.heap.size w wx → RowY w.heap.size wx → Calls Tryd.prog 57 #[.pointer (some ⟨k, 0, none⟩), .string s, .agg #[.int .i64 4, .int .i64 1]] wx fun e w' => e = .returned (.int .u64 ((num s 4 1 o : Nat) : Int)) ∧ Below w.heap.size w w' ∧ RowY w.heap.size w') := fun wx hb hR => HN.out wx 4 1 hb hR (by decide)
  generalize num s 4 1 o = z at hi256 HI ⊢
  have hwi : IntKind.i64.wrap (z : Int) = (z : Int) := (wrap_small z hi256).1
  have hxi : wrap64 (z : Int) = (z : Int) := (wrap_small z hi256).2
  have hz0 : (0 : Int) ≤ (z : Int) := Int.natCast_nonneg _
  have hz1 : (z : Int) ≤ 255 := Int.ofNat_le.2 (Nat.le_of_lt_succ hi256)
  have HZ := Hid.mk' hi256
  clear hF hs hm ho cell hN hi256
  go_enter Tryd.func45, Tryd.ntmps45
  go_wp2_with (first
    | (go_at_call_of 57 (Value.int IntKind.i64 1); refine (HI.out _ (by first | assumption | exact hb0) (by first | assumption | exact hR0)).mono ?_; rintro e w2 ⟨rfl, hb2, hR2⟩)
    | (go_at_call 57; refine (HN.out _ _ _ (by first | assumption | exact hb0) (by first | assumption | exact hR0) (by decide)).mono ?_; rintro e w0 ⟨rfl, hbz, hRz⟩)
    | (go_at_call 56; refine (HA.out _ (by first | assumption | exact hb0) (by first | assumption | exact hR0)).mono ?_; rintro e w1 ⟨rfl, hb1, hR1⟩; have c7 := d7 _ hb1; have c8 := d8 _ hb1))
  clear HA HI hbz hRz hb1 hR1 hb0 hR0 c1 c2 c7 c8 d1 d2 d7 d8
  go_region_held3 (fun w' => Below w.heap.size w w') (first | (with_reducible assumption) | (with_reducible exact Below.drew (by with_reducible assumption)) | (with_reducible refine below_store7 ?_ (Nat.le_refl _); with_reducible assumption)) (first
    | (go_at_call_of 57 (Value.int IntKind.i64 16); refine (HN.out _ _ _ (by first | assumption | exact hb2.drew) (by first | assumption | exact hR2) (by decide)).mono ?_; rintro e w' ⟨rfl, hB', hR'⟩; obtain ⟨r0, r1, r2, r3, r4, r5, r6, y0, y1, y2, y3, y4, y5, y6⟩ := hR'.cells)
    | (go_at_call 57; refine (HN.out _ _ _ (by first | assumption | exact hb2.drew) (by first | assumption | exact hR2) (by decide)).mono ?_; rintro e w' ⟨rfl, hB', hR'⟩))
  all_goals
    go_wp2
    refine bodyPost_ret (results_cell_tmp_row rfl _ _ w.heap.size _ _ _ _ rfl (RowY.store7 hR') Tryd.underlying42 rfl (by kernel_rfl)) rfl ⟨?_, below_store7 (by with_reducible assumption) (Nat.le_refl _)⟩
    simp only [div16 z HZ.out, mod16 z]
    try rfl
end Go.Proofs.YtkmehjikllilaaaDoor
