
-- elf: one entry of the table: contracts.
import Derived.Test.YtoikagccopglkaaDoorK0
import Derived.Deep.RegionHeld3
import Derived.Deep.RegionWith
namespace Go.Proofs.YtoikagccopglkaaDoor
open Go.ChangeShapes Go.WideShapes Go.ChangeAt Go.RowKit
set_option linter.unusedVariables false
set_option maxRecDepth 100000
theorem below_store {B R : Nat} {a w' : World} {v0 v1 v2 v3 v4 v5 v6 v7 : Value} (h : Below B a w') (hR : B ≤ R) : Below B a ((((((((w'.setCell ⟨R, 0, none⟩ v0).setCell ⟨R, 1, none⟩ v1).setCell ⟨R, 2, none⟩ v2).setCell ⟨R, 3, none⟩ v3).setCell ⟨R, 4, none⟩ v4).setCell ⟨R, 5, none⟩ v5).setCell ⟨R, 6, none⟩ v6).setCell ⟨R, 7, none⟩ v7) :=
  Below.setCell (Below.setCell (Below.setCell (Below.setCell (Below.setCell (Below.setCell (Below.setCell (Below.setCell h hR _) hR _) hR _) hR _) hR _) hR _) hR _) hR _
theorem at_no (k cnt i : Int) (p : Value) (ent : ByteArray) (nm : Int) (w : World) (h : i < 0 ∨ cnt ≤ i) :
    Calls Tryd.prog 23 #[.agg #[p, .string ent, .int .i64 cnt, .int .i64 nm], .int .i64 i] w fun r w' => r = .panicked (gives 57) ∧ Below w.heap.size w w' := by
  by_cases h1 : i < 0
  · have h2 : ¬ 0 ≤ i := by omega
    go_enter Tryd.func23, Tryd.ntmps23
    go_wp2_with (first | (go_at_call 20; refine (require_no _ _ _ (by first | rfl | exact decide_eq_false (by omega))).mono ?_; rintro r w1 ⟨rfl, hw⟩; subst w1))
    exact ⟨rfl, rfl, Below.alloc (Below.alloc (Below.refl _ _) (Nat.le_refl _) _) (by rw [size_alloc]; omega) _⟩
  · have h2 : 0 ≤ i := by omega
    have h3 : ¬ i < cnt := by omega
    go_enter Tryd.func23, Tryd.ntmps23
    go_wp2_with (first | (go_at_call 20; refine (require_no _ _ _ (by first | rfl | exact decide_eq_false (by omega))).mono ?_; rintro r w1 ⟨rfl, hw⟩; subst w1))
    exact ⟨rfl, rfl, Below.alloc (Below.alloc (Below.refl _ _) (Nat.le_refl _) _) (by rw [size_alloc]; omega) _⟩
set_option maxHeartbeats 1000000 in
theorem at_ok (ent : ByteArray) (k cnt i L : Nat) (nm : Int) (fc : Array Value) (x0 x1 x2 x3 x4 x5 x6 x7 : Int) (w : World) (hF : w.heap[k]? = some (.cells fc 62 (0, 0))) (f14 : fc[14]? = some (.int .u64 L)) (hL : L ≤ 64) (hi : i < cnt) (hcn : cnt ≤ maxLen) (hc : cnt * L ≤ ent.size) (hm : ent.size ≤ maxLen)
    (hS : ∀ w' : World, w'.heap[k]? = some (.cells fc 62 (0, 0)) → Calls Tryd.prog 30 #[.pointer (some ⟨k, 0, none⟩), .string (ent.extract (i * L) (i * L + L))] w' fun r w'' => r = .returned (.agg #[.int .i64 x0, .int .i64 x1, .int .u64 x2, .int .i64 x3, .int .i64 x4, .int .u64 x5, .int .u64 x6, .int .u64 x7]) ∧ Below w'.heap.size w' w'') :
    Calls Tryd.prog 23 #[.agg #[.pointer (some ⟨k, 0, none⟩), .string ent, .int .i64 cnt, .int .i64 nm], .int .i64 i] w fun r w' => r = .returned (.agg #[.int .i64 x0, .int .i64 x1, .int .u64 x2, .int .i64 x3, .int .i64 x4, .int .u64 x5, .int .u64 x6, .int .u64 x7]) ∧ Below w.heap.size w w' := by
  have h2 : (0 : Int) ≤ (i : Int) := by omega
  have h3 : (i : Int) < (cnt : Int) := by omega
  have hk : k < w.heap.size := (Array.getElem?_eq_some_iff.1 hF).1
  have hil : i * L + L ≤ ent.size := by
    have : (i + 1) * L ≤ cnt * L := Nat.mul_le_mul_right _ hi
    rw [Nat.add_mul, Nat.one_mul] at this
    omega
  have hSw : Below (w.heap.size + 1) (w.alloc (.cells #[.pointer (some ⟨k, 0, none⟩), .string ent, .int .i64 cnt, .int .i64 nm] 36)) ((w.alloc (.cells #[.pointer (some ⟨k, 0, none⟩), .string ent, .int .i64 cnt, .int .i64 nm] 36)).alloc (.cells #[.int .i64 0, .int .i64 0, .int .u64 0, .int .i64 0, .int .i64 0, .int .u64 0, .int .u64 0, .int .u64 0] 48)) := Below.alloc (Below.refl _ _) (by rw [size_alloc]; exact Nat.le_refl _) _
  have hR0 : RowS (w.heap.size + 1) ((w.alloc (.cells #[.pointer (some ⟨k, 0, none⟩), .string ent, .int .i64 cnt, .int .i64 nm] 36)).alloc (.cells #[.int .i64 0, .int .i64 0, .int .u64 0, .int .i64 0, .int .i64 0, .int .u64 0, .int .u64 0, .int .u64 0] 48)) := heap_alloc2_new w _ _
  have file (w' : World) (hb : Below (w.heap.size + 1) (w.alloc (.cells #[.pointer (some ⟨k, 0, none⟩), .string ent, .int .i64 cnt, .int .i64 nm] 36)) w') : w'.heap[k]? = some (.cells fc 62 (0, 0)) := (hb.block k (by omega)).trans ((Below.heap_alloc w _ k hk).trans hF)
  have tab (w' : World) (hb : Below (w.heap.size + 1) (w.alloc (.cells #[.pointer (some ⟨k, 0, none⟩), .string ent, .int .i64 cnt, .int .i64 nm] 36)) w') : w'.heap[w.heap.size]? = some (.cells #[.pointer (some ⟨k, 0, none⟩), .string ent, .int .i64 cnt, .int .i64 nm] 36 (0, 0)) := (hb.block _ (by omega)).trans (heap_alloc_new w _)
  have d14 : ∀ w' : World, Below (w.heap.size + 1) (w.alloc (.cells #[.pointer (some ⟨k, 0, none⟩), .string ent, .int .i64 cnt, .int .i64 nm] 36)) w' → w'.cell? ⟨k, 14, none⟩ = some (.int .u64 L) := fun w' hb => (cell_of_row _ _ _ _ _ _ (file w' hb)).trans f14
  have e0 : ∀ w' : World, Below (w.heap.size + 1) (w.alloc (.cells #[.pointer (some ⟨k, 0, none⟩), .string ent, .int .i64 cnt, .int .i64 nm] 36)) w' → w'.cell? ⟨w.heap.size, 0, none⟩ = some (.pointer (some ⟨k, 0, none⟩)) := fun w' hb => cell_of_row _ _ 0 _ _ _ (tab w' hb)
  have e1 : ∀ w' : World, Below (w.heap.size + 1) (w.alloc (.cells #[.pointer (some ⟨k, 0, none⟩), .string ent, .int .i64 cnt, .int .i64 nm] 36)) w' → w'.cell? ⟨w.heap.size, 1, none⟩ = some (.string ent) := fun w' hb => cell_of_row _ _ 1 _ _ _ (tab w' hb)
  have HP : Hid (∀ wx, Below (w.heap.size + 1) (w.alloc (.cells #[.pointer (some ⟨k, 0, none⟩), .string ent, .int .i64 cnt, .int .i64 nm] 36)) wx → RowS (w.heap.size + 1) wx → Calls Tryd.prog 22 #[.string ent, .int .u64 ((i : Int) * (L : Int)), .int .u64 (L : Int)] wx fun r w' => r = .returned (.string (ent.extract (i * L) (i * L + L))) ∧ Below (w.heap.size + 1) (w.alloc (.cells #[.pointer (some ⟨k, 0, none⟩), .string ent, .int .i64 cnt, .int .i64 nm] 36)) w' ∧ RowS (w.heap.size + 1) w') := fun wx hb hR => by
    have h := piece_ok ent (i * L) L wx (by omega) (by omega) hm
    rw [Int.natCast_mul] at h
    exact h.mono fun r w' ⟨h1, h2⟩ => ⟨h1, by rw [h2]; exact hb, by rw [h2]; exact hR⟩
  have HS : Hid (∀ wx, Below (w.heap.size + 1) (w.alloc (.cells #[.pointer (some ⟨k, 0, none⟩), .string ent, .int .i64 cnt, .int .i64 nm] 36)) wx → RowS (w.heap.size + 1) wx → Calls Tryd.prog 30 #[.pointer (some ⟨k, 0, none⟩), .string (ent.extract (i * L) (i * L + L))] wx fun r w' => r = .returned (.agg #[.int .i64 x0, .int .i64 x1, .int .u64 x2, .int .i64 x3, .int .i64 x4, .int .u64 x5, .int .u64 x6, .int .u64 x7]) ∧ Below (w.heap.size + 1) (w.alloc (.cells #[.pointer (some ⟨k, 0, none⟩), .string ent, .int .i64 cnt, .int .i64 nm] 36)) w' ∧ RowS (w.heap.size + 1) w') := fun wx hb hR =>
    (hS wx (file wx hb)).mono fun r w' ⟨h1, h2⟩ => ⟨h1, hb.trans (h2.mono (by have := hb.size; rw [size_alloc] at this; exact this)), hR.kept h2⟩
  have hmul : (i : Int) * (L : Int) < 18446744073709551616 ∧ 0 ≤ (i : Int) * (L : Int) := by
    have : ((i * L : Nat) : Int) = (i : Int) * L := Int.natCast_mul i L
    unfold maxLen at hm
    omega
  have hwm : IntKind.u64.wrap ((i : Int) * (L : Int)) = (i : Int) * (L : Int) := by rw [IntKind.wrap_u64]; exact Int.emod_eq_of_lt hmul.2 hmul.1
  have hwi : IntKind.u64.wrap (i : Int) = (i : Int) := by rw [IntKind.wrap_u64]; unfold maxLen at hcn; omega
  have hB0 : Below w.heap.size w (w.alloc (.cells #[.pointer (some ⟨k, 0, none⟩), .string ent, .int .i64 cnt, .int .i64 nm] 36)) := Below.alloc (Below.refl _ _) (Nat.le_refl _) _
  clear hF f14 hc hm hS file tab hil hmul hL
  generalize ent.extract (i * L) (i * L + L) = pc at HP HS
  go_enter Tryd.func23, Tryd.ntmps23
  go_wp2_with (first | (go_at_call 20; refine (require_ok _ _ _ (by first | (with_reducible rfl) | exact decide_eq_true (by omega))).mono ?_; rintro r w1 ⟨rfl, hw⟩; subst w1))
  go_region_held3 (fun w' => Below (w.heap.size + 1) (w.alloc (.cells #[.pointer (some ⟨k, 0, none⟩), .string ent, .int .i64 cnt, .int .i64 nm] 36)) w') (first | (with_reducible assumption) | (with_reducible exact Below.drew (by with_reducible assumption)) | (with_reducible refine below_store ?_ (Nat.le_refl _); with_reducible assumption)) (first
    | (go_at_call 22; refine (HP.out _ (by first | assumption | exact hSw.drew) (by first | assumption | exact hR0)).mono ?_; rintro e w' ⟨rfl, hB', hR'⟩)
    | (go_at_call 30; refine (HS.out _ (by first | assumption | exact hSw.drew) (by first | assumption | exact hR0)).mono ?_; rintro e w' ⟨rfl, hB', hR'⟩; obtain ⟨r0, r1, r2, r3, r4, r5, r6, r7, y0, y1, y2, y3, y4, y5, y6, y7⟩ := hR'.cells))
  all_goals
    go_wp2
    exact bodyPost_ret (results_cell_row rfl _ _ (w.heap.size + 1) _ _ _ _ rfl (RowS.store8 hR') Tryd.underlying48 rfl (by kernel_rfl)) rfl ⟨rfl, hB0.trans ((below_store hB' (Nat.le_refl _)).mono (Nat.le_succ _))⟩
end Go.Proofs.YtoikagccopglkaaDoor
