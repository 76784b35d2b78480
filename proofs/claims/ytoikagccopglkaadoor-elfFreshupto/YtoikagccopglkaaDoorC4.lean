
-- elf: identify where the class or the order is refused.
import Derived.Test.YtoikagccopglkaaDoorC3
import Derived.Laws.NewBlocks
import Derived.Deep.RegionHeld3
import Derived.Deep.RegionWith
namespace Go.Proofs.YtoikagccopglkaaDoor
open Go.ChangeShapes Go.WideShapes Go.ChangeAt Go.RowKit
set_option linter.unusedVariables false
set_option maxRecDepth 100000
set_option maxHeartbeats 1000000 in
theorem identify_51' (b : ByteArray) (w : World) (sh fc : Array Value) (o : Int) (hM : Magic w) (h16 : 16 ≤ b.size) (hm : b.size ≤ maxLen) (hS : signs b = true) (h41 : ((byt b 4 : Int) == 1) = false) (h42 : ((byt b 4 : Int) == 2) = false) (hsz : sh.size = 31) (hfold : Array.foldl (fun (cs : Array Value) (x : Value × Nat) => cs.setIfInBounds x.snd x.fst) #[.int .i64 0, .int .u64 0, .int .i64 0, .int .i64 0, .int .i64 0, .int .i64 0, .int .i64 0, .int .i64 0, .int .i64 0, .int .i64 0, .int .i64 0, .int .i64 0, .int .i64 0, .int .i64 0, .int .u64 0, .int .i64 0, .int .i64 0, .int .i64 0, .int .i64 0, .int .i64 0, .int .i64 0, .int .i64 0, .int .i64 0, .int .i64 0, .int .i64 0, .int .i64 0, .int .i64 0, .int .i64 0, .int .i64 0, .int .i64 0, .int .i64 0, .string b, .int .i64 0] sh.zipIdx 0 31 = fc) (hfc : fc.size = 33) :
    Calls Tryd.prog 18 #[.string b] w fun r w' => r = .panicked (gives 51) ∧ Below w.heap.size w w' := by
  have HS := Hid.mk' hS
  obtain ⟨xs, x1, x2, x3⟩ := copy_first b w
  obtain rfl := x2 h16
  clear x1 x2 hS
  unfold maxLen at hm
  obtain ⟨m0, m1, m2, m3⟩ := hM
  have h0 : 0 < w.heap.size := block_lt_of_cell m0
  have k (i : Nat) (v : Value) (h : w.cell? ⟨0, i, none⟩ = some v) : (w.alloc (.cells #[.int .u8 (byt b 0), .int .u8 (byt b 1), .int .u8 (byt b 2), .int .u8 (byt b 3)] 70)).cell? ⟨0, i, none⟩ = some v := by
    rw [World.cell?_alloc_past _ _ _ h0]; exact h
  have k0 := k _ _ m0
  have k1 := k _ _ m1
  have k2 := k _ _ m2
  have k3 := k _ _ m3
  clear k m0 m1 m2 m3
  have heq : ∀ w, (Op.equalIn 10000 70 (.agg #[.int .u8 (byt b 0), .int .u8 (byt b 1), .int .u8 (byt b 2), .int .u8 (byt b 3)]) (.agg #[.int .u8 127, .int .u8 69, .int .u8 76, .int .u8 70])).run Tryd.prog w = .ok (signs b) w := fun w => eq4 _ _ _ _ 127 69 76 70 w
  have i4 : ∀ w : World, (Instr.index 9 (.string b) (.int .i64 4)).run Tryd.prog w = .ok (.int .u8 (byt b 4)) w := fun w => idx_byt b 4 (by omega) w
  have i5 : ∀ w : World, (Instr.index 9 (.string b) (.int .i64 5)).run Tryd.prog w = .ok (.int .u8 (byt b 5)) w := fun w => idx_byt b 5 (by omega) w
  have i6 : ∀ w : World, (Instr.index 9 (.string b) (.int .i64 6)).run Tryd.prog w = .ok (.int .u8 (byt b 6)) w := fun w => idx_byt b 6 (by omega) w
  have hSw : Below w.heap.size w (w.alloc (.cells #[.int .u8 (byt b 0), .int .u8 (byt b 1), .int .u8 (byt b 2), .int .u8 (byt b 3)] 70)) := Below.alloc (Below.refl _ _) (Nat.le_refl _) _
  have HA : Hid (∀ wx, Below w.heap.size w wx → Calls Tryd.prog 27 #[.int .u8 (byt b 4)] wx fun e w' => (e = .panicked (gives 51) ∧ Below w.heap.size w w') ∨ (Hid False ∧ e = .returned (.agg sh) ∧ Below w.heap.size w w')) := fun wx hb => (shapeOf_no _ wx h41 h42).mono fun e w' ⟨he, h⟩ => Or.inl ⟨he, hb.trans (h.mono hb.size)⟩
  have HB : Hid (∀ wx, Hid False → Calls Tryd.prog 28 #[.int .u8 (byt b 5)] wx fun e w' => e = .returned (.int .i64 o) ∧ Below w.heap.size w w') := fun wx hf => hf.out.elim
  clear h41 h42
  go_enter Tryd.func18, Tryd.ntmps18
  go_wp2_with (first | (go_at_call 20; refine (require_ok _ _ _ HS.out).mono ?_; rintro r w1 ⟨rfl, hw⟩; subst w1))
  go_region_with (first
    | (go_at_call 27; refine (HA.out _ (by first | assumption | exact Below.drew (by assumption))).mono ?_; rintro e w' (⟨rfl, hS'⟩ | ⟨hF, rfl, hS'⟩); · exact ⟨rfl, rfl, hS'⟩)
    | (go_at_call 28; refine (HB.out _ hF).mono ?_; rintro e w' ⟨rfl, hS'⟩))
  all_goals exact hF.out.elim
set_option maxHeartbeats 1000000 in
theorem identify_52' (b : ByteArray) (w : World) (sh fc : Array Value) (o : Int) (hM : Magic w) (h16 : 16 ≤ b.size) (hm : b.size ≤ maxLen) (hS : signs b = true)
    (hA : ∀ w : World, Calls Tryd.prog 27 #[.int .u8 (byt b 4)] w fun e w' => e = .returned (.agg sh) ∧ Below w.heap.size w w')
    (h51 : ((byt b 5 : Int) == 1) = false) (h52 : ((byt b 5 : Int) == 2) = false) (hsz : sh.size = 31) (hfold : Array.foldl (fun (cs : Array Value) (x : Value × Nat) => cs.setIfInBounds x.snd x.fst) #[.int .i64 0, .int .u64 0, .int .i64 0, .int .i64 0, .int .i64 0, .int .i64 0, .int .i64 0, .int .i64 0, .int .i64 0, .int .i64 0, .int .i64 0, .int .i64 0, .int .i64 0, .int .i64 0, .int .u64 0, .int .i64 0, .int .i64 0, .int .i64 0, .int .i64 0, .int .i64 0, .int .i64 0, .int .i64 0, .int .i64 0, .int .i64 0, .int .i64 0, .int .i64 0, .int .i64 0, .int .i64 0, .int .i64 0, .int .i64 0, .int .i64 0, .string b, .int .i64 0] sh.zipIdx 0 31 = fc) (hfc : fc.size = 33) :
    Calls Tryd.prog 18 #[.string b] w fun r w' => r = .panicked (gives 52) ∧ Below w.heap.size w w' := by
  have HS := Hid.mk' hS
  obtain ⟨xs, x1, x2, x3⟩ := copy_first b w
  obtain rfl := x2 h16
  clear x1 x2 hS
  unfold maxLen at hm
  obtain ⟨m0, m1, m2, m3⟩ := hM
  have h0 : 0 < w.heap.size := block_lt_of_cell m0
  have k (i : Nat) (v : Value) (h : w.cell? ⟨0, i, none⟩ = some v) : (w.alloc (.cells #[.int .u8 (byt b 0), .int .u8 (byt b 1), .int .u8 (byt b 2), .int .u8 (byt b 3)] 70)).cell? ⟨0, i, none⟩ = some v := by
    rw [World.cell?_alloc_past _ _ _ h0]; exact h
  have k0 := k _ _ m0
  have k1 := k _ _ m1
  have k2 := k _ _ m2
  have k3 := k _ _ m3
  clear k m0 m1 m2 m3
  have heq : ∀ w, (Op.equalIn 10000 70 (.agg #[.int .u8 (byt b 0), .int .u8 (byt b 1), .int .u8 (byt b 2), .int .u8 (byt b 3)]) (.agg #[.int .u8 127, .int .u8 69, .int .u8 76, .int .u8 70])).run Tryd.prog w = .ok (signs b) w := fun w => eq4 _ _ _ _ 127 69 76 70 w
  have i4 : ∀ w : World, (Instr.index 9 (.string b) (.int .i64 4)).run Tryd.prog w = .ok (.int .u8 (byt b 4)) w := fun w => idx_byt b 4 (by omega) w
  have i5 : ∀ w : World, (Instr.index 9 (.string b) (.int .i64 5)).run Tryd.prog w = .ok (.int .u8 (byt b 5)) w := fun w => idx_byt b 5 (by omega) w
  have i6 : ∀ w : World, (Instr.index 9 (.string b) (.int .i64 6)).run Tryd.prog w = .ok (.int .u8 (byt b 6)) w := fun w => idx_byt b 6 (by omega) w
  have hSw : Below w.heap.size w (w.alloc (.cells #[.int .u8 (byt b 0), .int .u8 (byt b 1), .int .u8 (byt b 2), .int .u8 (byt b 3)] 70)) := Below.alloc (Below.refl _ _) (Nat.le_refl _) _
  have HA : Hid (∀ wx, Below w.heap.size w wx → Calls Tryd.prog 27 #[.int .u8 (byt b 4)] wx fun e w' => e = .returned (.agg sh) ∧ Below w.heap.size w w') := fun wx hb => (hA wx).mono fun e w' ⟨he, h⟩ => ⟨he, hb.trans (h.mono hb.size)⟩
  have HB : Hid (∀ wx, Below w.heap.size w wx → Calls Tryd.prog 28 #[.int .u8 (byt b 5)] wx fun e w' => (e = .panicked (gives 52) ∧ Below w.heap.size w w') ∨ (Hid False ∧ e = .returned (.int .i64 o) ∧ Below w.heap.size w w')) := fun wx hb => (orderOf_no _ wx h51 h52).mono fun e w' ⟨he, h⟩ => Or.inl ⟨he, by rw [h]; exact hb⟩
  clear hA h51 h52
  go_enter Tryd.func18, Tryd.ntmps18
  go_wp2_with (first | (go_at_call 20; refine (require_ok _ _ _ HS.out).mono ?_; rintro r w1 ⟨rfl, hw⟩; subst w1))
  go_region_with (first
    | (go_at_call 27; refine (HA.out _ (by first | assumption | exact Below.drew (by assumption))).mono ?_; rintro e w' ⟨rfl, hS'⟩)
    | (go_at_call 28; refine (HB.out _ (by first | assumption | exact Below.drew (by assumption))).mono ?_; rintro e w' (⟨rfl, hS'⟩ | ⟨hF, rfl, hS'⟩); · exact ⟨rfl, rfl, hS'⟩))
  all_goals exact hF.out.elim
end Go.Proofs.YtoikagccopglkaaDoor
