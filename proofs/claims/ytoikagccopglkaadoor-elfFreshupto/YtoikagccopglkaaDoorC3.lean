
-- elf: what the first bytes say: identify's contracts.
import Derived.Test.YtoikagccopglkaaDoorC1
import Derived.Test.YtoikagccopglkaaDoorC2
import Derived.Test.YtoikagccopglkaaDoorN4
import Derived.Test.YtoikagccopglkaaDoorQ1
import Derived.Laws.NewBlocks
import Derived.Deep.RegionHeld3
import Derived.Deep.RegionWith
namespace Go.Proofs.YtoikagccopglkaaDoor
open Go.ChangeShapes Go.WideShapes Go.ChangeAt Go.RowKit
set_option linter.unusedVariables false
set_option maxRecDepth 100000
/-- the four signs that every file begins with, as the program lays them -/
def Magic (w : World) : Prop := w.cell? ⟨0, 0, none⟩ = some (.int .u8 127) ∧ w.cell? ⟨0, 1, none⟩ = some (.int .u8 69) ∧ w.cell? ⟨0, 2, none⟩ = some (.int .u8 76) ∧ w.cell? ⟨0, 3, none⟩ = some (.int .u8 70)
/-- the first four bytes are the signs -/
def signs (b : ByteArray) : Bool := ((byt b 0 : Int) == 127 && ((byt b 1 : Int) == 69 && ((byt b 2 : Int) == 76 && (byt b 3 : Int) == 70)))
theorem idx_byt (b : ByteArray) (k : Nat) (h : k < b.size) (w : World) : (Instr.index 9 (.string b) (.int .i64 (k : Int))).run Tryd.prog w = .ok (.int .u8 (byt b k)) w := by
  have e := idx b k h w
  rw [byt_at] at e
  exact e
set_option maxHeartbeats 1000000 in
theorem identify_ok (b : ByteArray) (w : World) (sh fc : Array Value) (o : Int) (hM : Magic w) (h16 : 16 ≤ b.size) (hm : b.size ≤ maxLen) (hS : signs b = true)
    (hA : ∀ w : World, Calls Tryd.prog 27 #[.int .u8 (byt b 4)] w fun e w' => e = .returned (.agg sh) ∧ Below w.heap.size w w')
    (hB : ∀ w : World, Calls Tryd.prog 28 #[.int .u8 (byt b 5)] w fun e w' => e = .returned (.int .i64 o) ∧ w' = w)
    (hsz : sh.size = 31) (hfold : Array.foldl (fun (cs : Array Value) (x : Value × Nat) => cs.setIfInBounds x.snd x.fst) #[.int .i64 0, .int .u64 0, .int .i64 0, .int .i64 0, .int .i64 0, .int .i64 0, .int .i64 0, .int .i64 0, .int .i64 0, .int .i64 0, .int .i64 0, .int .i64 0, .int .i64 0, .int .i64 0, .int .u64 0, .int .i64 0, .int .i64 0, .int .i64 0, .int .i64 0, .int .i64 0, .int .i64 0, .int .i64 0, .int .i64 0, .int .i64 0, .int .i64 0, .int .i64 0, .int .i64 0, .int .i64 0, .int .i64 0, .int .i64 0, .int .i64 0, .string b, .int .i64 0] sh.zipIdx 0 31 = fc) (hfc : fc.size = 33) (h6 : ((byt b 6 : Int) == 1) = true) :
    Calls Tryd.prog 18 #[.string b] w fun r w' => ∃ k, r = .returned (.pointer (some ⟨k, 0, none⟩)) ∧ w.heap.size ≤ k ∧ w'.heap[k]? = some (.cells (fc.setIfInBounds 32 (.int .i64 o)) 62 (0, 0)) ∧ Below w.heap.size w w' := by
  have HS := Hid.mk' hS
  obtain ⟨xs, x1, x2, x3⟩ := copy_first b w
  obtain rfl := x2 h16
  clear x1 x2 hS
  unfold maxLen at hm
  obtain ⟨m0, m1, m2, m3⟩ := hM
  have h0 : 0 < w.heap.size := block_lt_of_cell m0
  have k (i : Nat) (v : Value) (h : w.cell? ⟨0, i, none⟩ = some v) : (w.alloc (.cells #[.int .u8 (byt b 0), .int .u8 (byt b 1), .int .u8 (byt b 2), .int .u8 (byt b 3)] 70)).cell? ⟨0, i, none⟩ = some v := by
    rw [World.cell?_alloc_past _ _ _ h0]; exact h
  have k0 := k _ _ m0
  have k1 := k _ _ m1
  have k2 := k _ _ m2
  have k3 := k _ _ m3
  clear k m0 m1 m2 m3
  have heq : ∀ w, (Op.equalIn 10000 70 (.agg #[.int .u8 (byt b 0), .int .u8 (byt b 1), .int .u8 (byt b 2), .int .u8 (byt b 3)]) (.agg #[.int .u8 127, .int .u8 69, .int .u8 76, .int .u8 70])).run Tryd.prog w = .ok (signs b) w := fun w => eq4 _ _ _ _ 127 69 76 70 w
  have i4 : ∀ w : World, (Instr.index 9 (.string b) (.int .i64 4)).run Tryd.prog w = .ok (.int .u8 (byt b 4)) w := fun w => idx_byt b 4 (by omega) w
  have i5 : ∀ w : World, (Instr.index 9 (.string b) (.int .i64 5)).run Tryd.prog w = .ok (.int .u8 (byt b 5)) w := fun w => idx_byt b 5 (by omega) w
  have i6 : ∀ w : World, (Instr.index 9 (.string b) (.int .i64 6)).run Tryd.prog w = .ok (.int .u8 (byt b 6)) w := fun w => idx_byt b 6 (by omega) w
  have hSw : Below w.heap.size w (w.alloc (.cells #[.int .u8 (byt b 0), .int .u8 (byt b 1), .int .u8 (byt b 2), .int .u8 (byt b 3)] 70)) := Below.alloc (Below.refl _ _) (Nat.le_refl _) _
  have HA : Hid (∀ wx, Below w.heap.size w wx → Calls Tryd.prog 27 #[.int .u8 (byt b 4)] wx fun e w' => e = .returned (.agg sh) ∧ Below w.heap.size w w') := fun wx hb => (hA wx).mono fun e w' ⟨he, h⟩ => ⟨he, hb.trans (h.mono hb.size)⟩
  have HB : Hid (∀ wx, Below w.heap.size w wx → Calls Tryd.prog 28 #[.int .u8 (byt b 5)] wx fun e w' => e = .returned (.int .i64 o) ∧ Below w.heap.size w w') := fun wx hb => (hB wx).mono fun e w' ⟨he, h⟩ => ⟨he, by rw [h]; exact hb⟩
  clear hA hB
  go_enter Tryd.func18, Tryd.ntmps18
  go_wp2_with (first | (go_at_call 20; refine (require_ok _ _ _ HS.out).mono ?_; rintro r w1 ⟨rfl, hw⟩; subst w1))
  go_region_held3 (fun w' => Below w.heap.size w w') (first | assumption | exact Below.drew (by assumption) | exact Below.drew (Below.alloc (by assumption) (Below.size (by assumption)) _) | exact Below.alloc (by assumption) (Below.size (by assumption)) _) (first
    | (go_at_call 27; refine (HA.out _ (by assumption)).mono ?_; rintro e w' ⟨rfl, hS'⟩)
    | (go_at_call 28; refine (HB.out _ (by assumption)).mono ?_; rintro e w' ⟨rfl, hS'⟩))
  all_goals
    go_wp2_with (first | (go_at_call 20; refine (require_ok _ _ _ (by first | exact h6 | rfl)).mono ?_; rintro r w1 ⟨rfl, hw⟩; subst w1))
    go_ret
    exact ⟨_, rfl, Below.size (by assumption), heap_alloc_new _ _, by assumption⟩
set_option maxHeartbeats 1000000 in
theorem identify_53 (b : ByteArray) (w : World) (sh fc : Array Value) (o : Int) (hM : Magic w) (h16 : 16 ≤ b.size) (hm : b.size ≤ maxLen) (hS : signs b = true)
    (hA : ∀ w : World, Calls Tryd.prog 27 #[.int .u8 (byt b 4)] w fun e w' => e = .returned (.agg sh) ∧ Below w.heap.size w w')
    (hB : ∀ w : World, Calls Tryd.prog 28 #[.int .u8 (byt b 5)] w fun e w' => e = .returned (.int .i64 o) ∧ w' = w)
    (hsz : sh.size = 31) (hfold : Array.foldl (fun (cs : Array Value) (x : Value × Nat) => cs.setIfInBounds x.snd x.fst) #[.int .i64 0, .int .u64 0, .int .i64 0, .int .i64 0, .int .i64 0, .int .i64 0, .int .i64 0, .int .i64 0, .int .i64 0, .int .i64 0, .int .i64 0, .int .i64 0, .int .i64 0, .int .i64 0, .int .u64 0, .int .i64 0, .int .i64 0, .int .i64 0, .int .i64 0, .int .i64 0, .int .i64 0, .int .i64 0, .int .i64 0, .int .i64 0, .int .i64 0, .int .i64 0, .int .i64 0, .int .i64 0, .int .i64 0, .int .i64 0, .int .i64 0, .string b, .int .i64 0] sh.zipIdx 0 31 = fc) (hfc : fc.size = 33) (h6 : ((byt b 6 : Int) == 1) = false) :
    Calls Tryd.prog 18 #[.string b] w fun r w' => r = .panicked (gives 53) ∧ Below w.heap.size w w' := by
  have HS := Hid.mk' hS
  obtain ⟨xs, x1, x2, x3⟩ := copy_first b w
  obtain rfl := x2 h16
  clear x1 x2 hS
  unfold maxLen at hm
  obtain ⟨m0, m1, m2, m3⟩ := hM
  have h0 : 0 < w.heap.size := block_lt_of_cell m0
  have k (i : Nat) (v : Value) (h : w.cell? ⟨0, i, none⟩ = some v) : (w.alloc (.cells #[.int .u8 (byt b 0), .int .u8 (byt b 1), .int .u8 (byt b 2), .int .u8 (byt b 3)] 70)).cell? ⟨0, i, none⟩ = some v := by
    rw [World.cell?_alloc_past _ _ _ h0]; exact h
  have k0 := k _ _ m0
  have k1 := k _ _ m1
  have k2 := k _ _ m2
  have k3 := k _ _ m3
  clear k m0 m1 m2 m3
  have heq : ∀ w, (Op.equalIn 10000 70 (.agg #[.int .u8 (byt b 0), .int .u8 (byt b 1), .int .u8 (byt b 2), .int .u8 (byt b 3)]) (.agg #[.int .u8 127, .int .u8 69, .int .u8 76, .int .u8 70])).run Tryd.prog w = .ok (signs b) w := fun w => eq4 _ _ _ _ 127 69 76 70 w
  have i4 : ∀ w : World, (Instr.index 9 (.string b) (.int .i64 4)).run Tryd.prog w = .ok (.int .u8 (byt b 4)) w := fun w => idx_byt b 4 (by omega) w
  have i5 : ∀ w : World, (Instr.index 9 (.string b) (.int .i64 5)).run Tryd.prog w = .ok (.int .u8 (byt b 5)) w := fun w => idx_byt b 5 (by omega) w
  have i6 : ∀ w : World, (Instr.index 9 (.string b) (.int .i64 6)).run Tryd.prog w = .ok (.int .u8 (byt b 6)) w := fun w => idx_byt b 6 (by omega) w
  have hSw : Below w.heap.size w (w.alloc (.cells #[.int .u8 (byt b 0), .int .u8 (byt b 1), .int .u8 (byt b 2), .int .u8 (byt b 3)] 70)) := Below.alloc (Below.refl _ _) (Nat.le_refl _) _
  have HA : Hid (∀ wx, Below w.heap.size w wx → Calls Tryd.prog 27 #[.int .u8 (byt b 4)] wx fun e w' => e = .returned (.agg sh) ∧ Below w.heap.size w w') := fun wx hb => (hA wx).mono fun e w' ⟨he, h⟩ => ⟨he, hb.trans (h.mono hb.size)⟩
  have HB : Hid (∀ wx, Below w.heap.size w wx → Calls Tryd.prog 28 #[.int .u8 (byt b 5)] wx fun e w' => e = .returned (.int .i64 o) ∧ Below w.heap.size w w') := fun wx hb => (hB wx).mono fun e w' ⟨he, h⟩ => ⟨he, by rw [h]; exact hb⟩
  clear hA hB
  go_enter Tryd.func18, Tryd.ntmps18
  go_wp2_with (first | (go_at_call 20; refine (require_ok _ _ _ HS.out).mono ?_; rintro r w1 ⟨rfl, hw⟩; subst w1))
  go_region_held3 (fun w' => Below w.heap.size w w') (first | assumption | exact Below.drew (by assumption) | exact Below.drew (Below.alloc (by assumption) (Below.size (by assumption)) _) | exact Below.alloc (by assumption) (Below.size (by assumption)) _) (first
    | (go_at_call 27; refine (HA.out _ (by assumption)).mono ?_; rintro e w' ⟨rfl, hS'⟩)
    | (go_at_call 28; refine (HB.out _ (by assumption)).mono ?_; rintro e w' ⟨rfl, hS'⟩))
  all_goals
    go_wp2_with (first | (go_at_call 20; refine (require_no _ _ _ (by first | exact h6 | rfl)).mono ?_; rintro r w1 ⟨rfl, hw⟩; subst w1))
    exact ⟨rfl, rfl, by assumption⟩
set_option maxHeartbeats 1000000 in
theorem identify_50 (b : ByteArray) (w : World) (hM : Magic w) (h16 : 16 ≤ b.size) (hm : b.size ≤ maxLen) (hS : signs b = false) :
    Calls Tryd.prog 18 #[.string b] w fun r w' => r = .panicked (gives 50) ∧ Below w.heap.size w w' := by
  have HS := Hid.mk' hS
  obtain ⟨xs, x1, x2, x3⟩ := copy_first b w
  obtain rfl := x2 h16
  clear x1 x2 hS
  unfold maxLen at hm
  obtain ⟨m0, m1, m2, m3⟩ := hM
  have h0 : 0 < w.heap.size := block_lt_of_cell m0
  have k (i : Nat) (v : Value) (h : w.cell? ⟨0, i, none⟩ = some v) : (w.alloc (.cells #[.int .u8 (byt b 0), .int .u8 (byt b 1), .int .u8 (byt b 2), .int .u8 (byt b 3)] 70)).cell? ⟨0, i, none⟩ = some v := by
    rw [World.cell?_alloc_past _ _ _ h0]; exact h
  have k0 := k _ _ m0
  have k1 := k _ _ m1
  have k2 := k _ _ m2
  have k3 := k _ _ m3
  clear k m0 m1 m2 m3
  have heq : ∀ w, (Op.equalIn 10000 70 (.agg #[.int .u8 (byt b 0), .int .u8 (byt b 1), .int .u8 (byt b 2), .int .u8 (byt b 3)]) (.agg #[.int .u8 127, .int .u8 69, .int .u8 76, .int .u8 70])).run Tryd.prog w = .ok (signs b) w := fun w => eq4 _ _ _ _ 127 69 76 70 w
  have i4 : ∀ w : World, (Instr.index 9 (.string b) (.int .i64 4)).run Tryd.prog w = .ok (.int .u8 (byt b 4)) w := fun w => idx_byt b 4 (by omega) w
  have i5 : ∀ w : World, (Instr.index 9 (.string b) (.int .i64 5)).run Tryd.prog w = .ok (.int .u8 (byt b 5)) w := fun w => idx_byt b 5 (by omega) w
  have i6 : ∀ w : World, (Instr.index 9 (.string b) (.int .i64 6)).run Tryd.prog w = .ok (.int .u8 (byt b 6)) w := fun w => idx_byt b 6 (by omega) w
  have hSw : Below w.heap.size w (w.alloc (.cells #[.int .u8 (byt b 0), .int .u8 (byt b 1), .int .u8 (byt b 2), .int .u8 (byt b 3)] 70)) := Below.alloc (Below.refl _ _) (Nat.le_refl _) _
  go_enter Tryd.func18, Tryd.ntmps18
  go_wp2_with (first | (go_at_call 20; refine (require_no _ _ _ HS.out).mono ?_; rintro r w1 ⟨rfl, hw⟩; subst w1))
  exact ⟨rfl, rfl, hSw⟩
theorem identify_short (b : ByteArray) (w : World) (h16 : b.size < 16) :
    Calls Tryd.prog 18 #[.string b] w fun r w' => r = .panicked (gives 50) ∧ Below w.heap.size w w' := by
  obtain ⟨xs, x1, x2, x3⟩ := copy_first b w
  have hlt : ¬ (16 : Int) ≤ (b.size : Int) := by omega
  clear x1 x2
  go_enter Tryd.func18, Tryd.ntmps18
  go_wp2_with (first | (go_at_call 20; refine (require_no _ _ _ (by first | rfl | exact decide_eq_false (by omega))).mono ?_; rintro r w1 ⟨rfl, hw⟩; subst w1))
  exact ⟨rfl, rfl, Below.alloc (Below.refl _ _) (Nat.le_refl _) _⟩
end Go.Proofs.YtoikagccopglkaaDoor
