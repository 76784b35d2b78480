-- Proof of the given card about NumPutReads. The frame follows the guide's toy for a law over a table; the walk and the lemmas are ours.
import Derived.Test.YtfjmjgnifbgneabDoorCards
import Derived.Test.YtfjmjgnifbgneabDoorTie
import Derived.Test.YtfjmjgnifbgneabDoorTabs
import Derived.Test.YtfjmjgnifbgneabDoorWide
import Derived.Deep.RegionWith
namespace Go.Proofs.YtfjmjgnifbgneabDoor.numPutReads
open Go.ChangeShapes Go.WideShapes Go.ChangeAt Go.RowKit
set_option linter.unusedVariables false

theorem own : ownKnob Tryd.prog.godebug = none := by kernel_rfl
theorem tabs {W : World} (h : laidMetH Tryd.prog Rows.numPutReadsRow.laid W) (h3 : 3 < W.heap.size) : Tabs W := tabs_of h h3

-- a width out of its range: both refuse
theorem at_range (v width : Int) (w : World) (hT : Tabs w) (hv : v ≤ 9223372036854775807) (h : width < 1 ∨ 20 < width) :
    Calls Tryd.prog 5 #[.int .i64 v, .int .i64 width] w fun e w' => e = .returned (.bool true) ∧ Below w.heap.size w w' := by
  have HPD : Hid (∀ w, Tabs w → Calls Tryd.prog 6 #[.int .i64 v, .int .i64 width] w fun e w' => e = .returned (.tuple #[.string ByteArray.empty, .int .i64 12]) ∧ Below w.heap.size w w') := fun w hT => by
    have := put_10 v width w hT hv; unfold putText putErr at this; rw [if_pos h, if_pos h] at this; exact this
  have HPO : Hid (∀ w, Tabs w → Calls Tryd.prog 8 #[.int .i64 v, .int .i64 width] w fun e w' => e = .returned (.tuple #[.string ByteArray.empty, .int .i64 12]) ∧ Below w.heap.size w w') := fun w hT => by
    have := put_8 v width w hT hv; unfold putText putErr at this; rw [if_pos h, if_pos h] at this; exact this
  by_cases h1 : width < 1
  · have b1 : decide (width < 1) = true := by simp; omega
    go_enter Tryd.func5, Tryd.ntmps5
    go_wp2_with (first
      | (go_at_call 6; refine (HPD.out _ hT).mono ?_; rintro e w1 ⟨rfl, hb1⟩)
      | (go_at_call 8; refine (HPO.out _ (hT.on (by assumption))).mono ?_; rintro e w2 ⟨rfl, hb2⟩))
    go_ret
    exact ⟨rfl, bel2 hb1 hb2⟩
  · have b1 : decide (width < 1) = false := by simp; omega
    have b2 : decide (20 < width) = true := by simp; omega
    clear h h1
    go_enter Tryd.func5, Tryd.ntmps5
    go_wp2_with (first
      | (go_at_call 6; refine (HPD.out _ hT).mono ?_; rintro e w1 ⟨rfl, hb1⟩)
      | (go_at_call 8; refine (HPO.out _ (hT.on (by assumption))).mono ?_; rintro e w2 ⟨rfl, hb2⟩))
    go_ret
    exact ⟨rfl, bel2 hb1 hb2⟩
-- a number below 0: both refuse
theorem at_neg (v width : Int) (w : World) (hT : Tabs w) (hv : v < 0) (h1 : 1 ≤ width) (h2 : width ≤ 20) :
    Calls Tryd.prog 5 #[.int .i64 v, .int .i64 width] w fun e w' => e = .returned (.bool true) ∧ Below w.heap.size w w' := by
  have h : ¬ (width < 1 ∨ 20 < width) := by omega
  have HPD : Hid (∀ w, Tabs w → Calls Tryd.prog 6 #[.int .i64 v, .int .i64 width] w fun e w' => e = .returned (.tuple #[.string ByteArray.empty, .int .i64 11]) ∧ Below w.heap.size w w') := fun w hT => by
    have := put_10 v width w hT (by omega); unfold putText putErr at this; rw [if_neg h, if_neg h, if_pos hv, if_pos hv] at this; exact this
  have HPO : Hid (∀ w, Tabs w → Calls Tryd.prog 8 #[.int .i64 v, .int .i64 width] w fun e w' => e = .returned (.tuple #[.string ByteArray.empty, .int .i64 11]) ∧ Below w.heap.size w w') := fun w hT => by
    have := put_8 v width w hT (by omega); unfold putText putErr at this; rw [if_neg h, if_neg h, if_pos hv, if_pos hv] at this; exact this
  have b1 : decide (width < 1) = false := by simp; omega
  have b2 : decide (20 < width) = false := by simp; omega
  have b3 : decide (0 ≤ v) = false := by simp; omega
  clear h
  go_enter Tryd.func5, Tryd.ntmps5
  go_wp2_with (first
    | (go_at_call 6; refine (HPD.out _ hT).mono ?_; rintro e w1 ⟨rfl, hb1⟩)
    | (go_at_call 8; refine (HPO.out _ (hT.on (by assumption))).mono ?_; rintro e w2 ⟨rfl, hb2⟩))
  go_ret
  exact ⟨rfl, bel2 hb1 hb2⟩
theorem put_wide (B : Nat) (v k : Nat) (h1 : 1 ≤ k) (h2 : k ≤ 20) (h : k < (dg B v).length) : putText B v k = ByteArray.empty ∧ putErr B v k = 11 := by
  have h0 : ¬ ((k : Int) < 1 ∨ 20 < (k : Int)) := by omega
  have h3 : ¬ (v : Int) < 0 := by omega
  have h4 : (k : Int) < ((dg B (v : Int).toNat).length : Int) := by rw [Int.toNat_natCast]; omega
  unfold putText putErr
  rw [if_neg h0, if_neg h0, if_neg h3, if_neg h3, if_pos h4, if_pos h4]; exact ⟨rfl, rfl⟩
theorem put_fits (B : Nat) (v k : Nat) (h1 : 1 ≤ k) (h2 : k ≤ 20) (h : (dg B v).length ≤ k) : putText B v k = strL (pad B v k) ∧ putErr B v k = 0 := by
  have h0 : ¬ ((k : Int) < 1 ∨ 20 < (k : Int)) := by omega
  have h3 : ¬ (v : Int) < 0 := by omega
  have h4 : ¬ (k : Int) < ((dg B (v : Int).toNat).length : Int) := by rw [Int.toNat_natCast]; omega
  unfold putText putErr
  rw [if_neg h0, if_neg h0, if_neg h3, if_neg h3, if_neg h4, if_neg h4]; exact ⟨rfl, rfl⟩
theorem first_at (B v k : Nat) (hB : B = 8 ∨ B = 10) (hv : v ≤ 9223372036854775807) :
    ∃ c : Nat, (∀ w, (Instr.index 9 (.string (strL (pad B v k))) (.int .i64 0)).run Tryd.prog w = .ok (.int .u8 (c : Int)) w) ∧ (((c : Int) == 48) = false ∨ (((c : Int) == 48) = true ∧ decide ((0 : Int) < v) = false ∧ decide (0 < v) = false)) := by
  obtain ⟨c, r, e, h1, h2, h3⟩ := pad_first B v k hB hv
  rw [e]
  refine ⟨c.toNat, fun w => Rd.idx (strL (c :: r)) 0 (by rw [strL_size]; simp) w, ?_⟩
  by_cases hc : c.toNat = 48
  · refine Or.inr ⟨by simp [hc], ?_⟩
    have : ¬ 0 < v := fun h => h3 h hc
    exact ⟨by simp; omega, by simp; omega⟩
  · exact Or.inl (by simp; omega)

set_option maxHeartbeats 1000000 in
set_option maxRecDepth 100000 in
theorem at_A (v k : Nat) (w : World) (hT : Tabs w) (hv : v ≤ 9223372036854775807) (h1 : 1 ≤ k) (h2 : k ≤ 20) (hd : (dg 10 v).length ≤ k) (ho : (dg 8 v).length ≤ k) :
    Calls Tryd.prog 5 #[.int .i64 v, .int .i64 k] w fun e w' => e = .returned (.bool true) ∧ Below w.heap.size w w' := by
  have b1 : decide ((k : Int) < 1) = false := by simp; omega
  have b2 : decide ((20 : Int) < k) = false := by simp; omega
  have b3 : decide ((0 : Int) ≤ v) = true := by simp
  have HF10 : Hid (∀ w, Calls Tryd.prog 10 #[.int .i64 v, .int .i64 k, .int .i64 10] w fun e w' => e = .returned (.bool true) ∧ w' = w) := fun w => by
    have h := fits_any 10 v k w (by omega) hv h1 h2
    rw [show decide ((dg 10 v).length ≤ k) = true by simp; omega] at h; exact h
  have HF8 : Hid (∀ w, Calls Tryd.prog 10 #[.int .i64 v, .int .i64 k, .int .i64 8] w fun e w' => e = .returned (.bool true) ∧ w' = w) := fun w => by
    have h := fits_any 8 v k w (by omega) hv h1 h2
    rw [show decide ((dg 8 v).length ≤ k) = true by simp; omega] at h; exact h
  obtain ⟨s, hs⟩ : ∃ s, s = strL (pad 10 v k) := ⟨_, rfl⟩
  have HPD : Hid (∀ w, Tabs w → Calls Tryd.prog 6 #[.int .i64 v, .int .i64 k] w fun e w' => e = .returned (.tuple #[.string s, .int .i64 0]) ∧ Below w.heap.size w w') := fun w hT => by
    have h := put_10 v k w hT (by omega); rw [(put_fits 10 v k h1 h2 hd).1, (put_fits 10 v k h1 h2 hd).2, ← hs] at h; exact h
  have HD : Hid (∀ w, Calls Tryd.prog 11 #[.string s] w fun e w' => e = .returned (.tuple #[.int .i64 v, .int .i64 0]) ∧ w' = w) := fun w => by
    rw [hs]
    have h := Rd.dec_any (strL (pad 10 v k)) w (by rw [strL_size, pad_len 10 v k hd]; unfold maxLen; omega)
    rw [strL_data, pad_reads 10 v k (by omega) hv] at h; exact h
  have HWD : Hid (∀ w, Calls Tryd.prog 12 #[.string s, .int .i64 k] w fun e w' => e = .returned (.bool true) ∧ w' = w) := fun w => by
    rw [hs]; exact wide_any 10 v k w (by omega) hv h1 h2 hd
  obtain ⟨c, hi0, hcz⟩ : ∃ c : Nat, (∀ w, (Instr.index 9 (.string s) (.int .i64 0)).run Tryd.prog w = .ok (.int .u8 (c : Int)) w) ∧ (((c : Int) == 48) = false ∨ (((c : Int) == 48) = true ∧ decide ((0 : Int) < v) = false ∧ decide (0 < v) = false)) := by
    rw [hs]; exact first_at 10 v k (by omega) hv
  clear hs
  obtain ⟨t, ht⟩ : ∃ t, t = strL (pad 8 v k) := ⟨_, rfl⟩
  have HPO : Hid (∀ w, Tabs w → Calls Tryd.prog 8 #[.int .i64 v, .int .i64 k] w fun e w' => e = .returned (.tuple #[.string t, .int .i64 0]) ∧ Below w.heap.size w w') := fun w hT => by
    have h := put_8 v k w hT (by omega); rw [(put_fits 8 v k h1 h2 ho).1, (put_fits 8 v k h1 h2 ho).2, ← ht] at h; exact h
  have HO : Hid (∀ w, Calls Tryd.prog 13 #[.string t] w fun e w' => e = .returned (.tuple #[.int .i64 v, .int .i64 0]) ∧ w' = w) := fun w => by
    rw [ht]
    have h := Rd.oct_any (strL (pad 8 v k)) w (by rw [strL_size, pad_len 8 v k ho]; unfold maxLen; omega)
    rw [strL_data, pad_reads 8 v k (by omega) hv] at h; exact h
  have HWO : Hid (∀ w, Calls Tryd.prog 12 #[.string t, .int .i64 k] w fun e w' => e = .returned (.bool true) ∧ w' = w) := fun w => by
    rw [ht]; exact wide_any 8 v k w (by omega) hv h1 h2 ho
  obtain ⟨c8, hi8, hcz8⟩ : ∃ c : Nat, (∀ w, (Instr.index 9 (.string t) (.int .i64 0)).run Tryd.prog w = .ok (.int .u8 (c : Int)) w) ∧ (((c : Int) != 48) = true ∨ (((c : Int) != 48) = false ∧ ((v : Int) == 0) = true)) := by
    rw [ht]
    obtain ⟨c, h1, h2⟩ := first_at 8 v k (by omega) hv
    refine ⟨c, h1, ?_⟩
    rcases h2 with h2 | ⟨h2, h3, _⟩
    · exact Or.inl (by simp at h2 ⊢; omega)
    · exact Or.inr ⟨by simp at h2 ⊢; omega, by simp at h3 ⊢; omega⟩
  clear ht
  have n1 : ((v : Int) != (v : Int)) = false := by simp
  have n2 : ((v : Int) == (v : Int)) = true := by simp
  clear hd ho
  rcases hcz with z1 | ⟨z1, z2, z3⟩ <;> rcases hcz8 with y1 | ⟨y1, y2⟩
  all_goals
    go_enter Tryd.func5, Tryd.ntmps5
    go_wp2_with (first
      | (go_at_call 6; refine (HPD.out _ hT).mono ?_; rintro e w1 ⟨rfl, hb1⟩)
      | (go_at_call 8; refine (HPO.out _ (hT.on (by assumption))).mono ?_; rintro e w2 ⟨rfl, hb2⟩)
      | (go_at_call_of 10 (Value.int IntKind.i64 10); refine (HF10.out _).mono ?_; rintro e w3 ⟨rfl, hw3⟩; subst w3)
      | (go_at_call 10; refine (HF8.out _).mono ?_; rintro e w3 ⟨rfl, hw3⟩; subst w3)
      | (go_at_call 11; refine (HD.out _).mono ?_; rintro e w3 ⟨rfl, hw3⟩; subst w3)
      | (go_at_call 13; refine (HO.out _).mono ?_; rintro e w3 ⟨rfl, hw3⟩; subst w3)
      | (go_at_call_of 12 (Value.string s); refine (HWD.out _).mono ?_; rintro e w3 ⟨rfl, hw3⟩; subst w3)
      | (go_at_call 12; refine (HWO.out _).mono ?_; rintro e w3 ⟨rfl, hw3⟩; subst w3))
    go_ret
    exact ⟨rfl, bel2 hb1 hb2⟩

set_option maxHeartbeats 1000000 in
set_option maxRecDepth 100000 in
theorem at_B (v k : Nat) (w : World) (hT : Tabs w) (hv : v ≤ 9223372036854775807) (h1 : 1 ≤ k) (h2 : k ≤ 20) (hd : (dg 10 v).length ≤ k) (ho : k < (dg 8 v).length) :
    Calls Tryd.prog 5 #[.int .i64 v, .int .i64 k] w fun e w' => e = .returned (.bool true) ∧ Below w.heap.size w w' := by
  have b1 : decide ((k : Int) < 1) = false := by simp; omega
  have b2 : decide ((20 : Int) < k) = false := by simp; omega
  have b3 : decide ((0 : Int) ≤ v) = true := by simp
  have HF10 : Hid (∀ w, Calls Tryd.prog 10 #[.int .i64 v, .int .i64 k, .int .i64 10] w fun e w' => e = .returned (.bool true) ∧ w' = w) := fun w => by
    have h := fits_any 10 v k w (by omega) hv h1 h2
    rw [show decide ((dg 10 v).length ≤ k) = true by simp; omega] at h; exact h
  have HF8 : Hid (∀ w, Calls Tryd.prog 10 #[.int .i64 v, .int .i64 k, .int .i64 8] w fun e w' => e = .returned (.bool false) ∧ w' = w) := fun w => by
    have h := fits_any 8 v k w (by omega) hv h1 h2
    rw [show decide ((dg 8 v).length ≤ k) = false by simp; omega] at h; exact h
  obtain ⟨s, hs⟩ : ∃ s, s = strL (pad 10 v k) := ⟨_, rfl⟩
  have HPD : Hid (∀ w, Tabs w → Calls Tryd.prog 6 #[.int .i64 v, .int .i64 k] w fun e w' => e = .returned (.tuple #[.string s, .int .i64 0]) ∧ Below w.heap.size w w') := fun w hT => by
    have h := put_10 v k w hT (by omega); rw [(put_fits 10 v k h1 h2 hd).1, (put_fits 10 v k h1 h2 hd).2, ← hs] at h; exact h
  have HD : Hid (∀ w, Calls Tryd.prog 11 #[.string s] w fun e w' => e = .returned (.tuple #[.int .i64 v, .int .i64 0]) ∧ w' = w) := fun w => by
    rw [hs]
    have h := Rd.dec_any (strL (pad 10 v k)) w (by rw [strL_size, pad_len 10 v k hd]; unfold maxLen; omega)
    rw [strL_data, pad_reads 10 v k (by omega) hv] at h; exact h
  have HWD : Hid (∀ w, Calls Tryd.prog 12 #[.string s, .int .i64 k] w fun e w' => e = .returned (.bool true) ∧ w' = w) := fun w => by
    rw [hs]; exact wide_any 10 v k w (by omega) hv h1 h2 hd
  obtain ⟨c, hi0, hcz⟩ : ∃ c : Nat, (∀ w, (Instr.index 9 (.string s) (.int .i64 0)).run Tryd.prog w = .ok (.int .u8 (c : Int)) w) ∧ (((c : Int) == 48) = false ∨ (((c : Int) == 48) = true ∧ decide ((0 : Int) < v) = false ∧ decide (0 < v) = false)) := by
    rw [hs]; exact first_at 10 v k (by omega) hv
  clear hs
  have HPO : Hid (∀ w, Tabs w → Calls Tryd.prog 8 #[.int .i64 v, .int .i64 k] w fun e w' => e = .returned (.tuple #[.string ByteArray.empty, .int .i64 11]) ∧ Below w.heap.size w w') := fun w hT => by
    have h := put_8 v k w hT (by omega); rw [(put_wide 8 v k h1 h2 ho).1, (put_wide 8 v k h1 h2 ho).2] at h; exact h
  have n1 : ((v : Int) != (v : Int)) = false := by simp
  have n2 : ((v : Int) == (v : Int)) = true := by simp
  clear hd ho
  rcases hcz with z1 | ⟨z1, z2, z3⟩
  all_goals
    go_enter Tryd.func5, Tryd.ntmps5
    go_wp2_with (first
      | (go_at_call 6; refine (HPD.out _ hT).mono ?_; rintro e w1 ⟨rfl, hb1⟩)
      | (go_at_call 8; refine (HPO.out _ (hT.on (by assumption))).mono ?_; rintro e w2 ⟨rfl, hb2⟩)
      | (go_at_call_of 10 (Value.int IntKind.i64 10); refine (HF10.out _).mono ?_; rintro e w3 ⟨rfl, hw3⟩; subst w3)
      | (go_at_call 10; refine (HF8.out _).mono ?_; rintro e w3 ⟨rfl, hw3⟩; subst w3)
      | (go_at_call 11; refine (HD.out _).mono ?_; rintro e w3 ⟨rfl, hw3⟩; subst w3)
      | (go_at_call_of 12 (Value.string s); refine (HWD.out _).mono ?_; rintro e w3 ⟨rfl, hw3⟩; subst w3))
    go_ret
    exact ⟨rfl, bel2 hb1 hb2⟩

set_option maxHeartbeats 1000000 in
set_option maxRecDepth 100000 in
theorem at_C (v k : Nat) (w : World) (hT : Tabs w) (hv : v ≤ 9223372036854775807) (h1 : 1 ≤ k) (h2 : k ≤ 20) (hd : k < (dg 10 v).length) (ho : k < (dg 8 v).length) :
    Calls Tryd.prog 5 #[.int .i64 v, .int .i64 k] w fun e w' => e = .returned (.bool true) ∧ Below w.heap.size w w' := by
  have b1 : decide ((k : Int) < 1) = false := by simp; omega
  have b2 : decide ((20 : Int) < k) = false := by simp; omega
  have b3 : decide ((0 : Int) ≤ v) = true := by simp
  have HF10 : Hid (∀ w, Calls Tryd.prog 10 #[.int .i64 v, .int .i64 k, .int .i64 10] w fun e w' => e = .returned (.bool false) ∧ w' = w) := fun w => by
    have h := fits_any 10 v k w (by omega) hv h1 h2
    rw [show decide ((dg 10 v).length ≤ k) = false by simp; omega] at h; exact h
  have HF8 : Hid (∀ w, Calls Tryd.prog 10 #[.int .i64 v, .int .i64 k, .int .i64 8] w fun e w' => e = .returned (.bool false) ∧ w' = w) := fun w => by
    have h := fits_any 8 v k w (by omega) hv h1 h2
    rw [show decide ((dg 8 v).length ≤ k) = false by simp; omega] at h; exact h
  have HPD : Hid (∀ w, Tabs w → Calls Tryd.prog 6 #[.int .i64 v, .int .i64 k] w fun e w' => e = .returned (.tuple #[.string ByteArray.empty, .int .i64 11]) ∧ Below w.heap.size w w') := fun w hT => by
    have h := put_10 v k w hT (by omega); rw [(put_wide 10 v k h1 h2 hd).1, (put_wide 10 v k h1 h2 hd).2] at h; exact h
  have HPO : Hid (∀ w, Tabs w → Calls Tryd.prog 8 #[.int .i64 v, .int .i64 k] w fun e w' => e = .returned (.tuple #[.string ByteArray.empty, .int .i64 11]) ∧ Below w.heap.size w w') := fun w hT => by
    have h := put_8 v k w hT (by omega); rw [(put_wide 8 v k h1 h2 ho).1, (put_wide 8 v k h1 h2 ho).2] at h; exact h
  have n1 : ((v : Int) != (v : Int)) = false := by simp
  have n2 : ((v : Int) == (v : Int)) = true := by simp
  clear hd ho
  go_enter Tryd.func5, Tryd.ntmps5
  go_wp2_with (first
    | (go_at_call 6; refine (HPD.out _ hT).mono ?_; rintro e w1 ⟨rfl, hb1⟩)
    | (go_at_call 8; refine (HPO.out _ (hT.on (by assumption))).mono ?_; rintro e w2 ⟨rfl, hb2⟩)
    | (go_at_call_of 10 (Value.int IntKind.i64 10); refine (HF10.out _).mono ?_; rintro e w3 ⟨rfl, hw3⟩; subst w3)
    | (go_at_call 10; refine (HF8.out _).mono ?_; rintro e w3 ⟨rfl, hw3⟩; subst w3))
  go_ret
  exact ⟨rfl, bel2 hb1 hb2⟩
theorem oct_longer (v : Nat) (hv : v ≤ 9223372036854775807) (k : Nat) (h1 : 1 ≤ k) (h : (dg 8 v).length ≤ k) : (dg 10 v).length ≤ k := by
  have a := (dg_len 8 (by omega) k v (big64 8 v (by omega) hv) h1).1 h
  have b : 8 ^ k ≤ 10 ^ k := Nat.pow_le_pow_left (by omega) k
  exact (dg_len 10 (by omega) k v (big64 10 v (by omega) hv) h1).2 (by omega)

theorem walk (a0 : Int) (a1 : Int) (w0 : (Lit.int .i64 a0).wf = true) (w1 : (Lit.int .i64 a1).wf = true) (w : World) (hT : Tabs w) :
    Calls Tryd.prog 5 #[.int .i64 a0, .int .i64 a1] w fun e w' => e = .returned (.bool true) ∧ Below w.heap.size w w' := by
  have hb := bounds_i64 w0
  by_cases hr : a1 < 1 ∨ 20 < a1
  · exact at_range a0 a1 w hT hb.2 hr
  · by_cases hn : a0 < 0
    · exact at_neg a0 a1 w hT hn (by omega) (by omega)
    · obtain ⟨v, rfl⟩ := Int.eq_ofNat_of_zero_le (show 0 ≤ a0 by omega)
      obtain ⟨k, rfl⟩ := Int.eq_ofNat_of_zero_le (show 0 ≤ a1 by omega)
      have hv : v ≤ 9223372036854775807 := by omega
      by_cases ho : (dg 8 v).length ≤ k
      · exact at_A v k w hT hv (by omega) (by omega) (oct_longer v hv k (by omega) ho) ho
      · by_cases hd : (dg 10 v).length ≤ k
        · exact at_B v k w hT hv (by omega) (by omega) hd (by omega)
        · exact at_C v k w hT hv (by omega) (by omega) (by omega) (by omega)

theorem contract (H : Type) (enc : TypeId × Value → H) (W : World) (base : Nat) (args : Array Value) (ds gs : List (DataW H)) (before : List MemPlace)
    (hval : ∀ (j : Nat) t v, Tryd.f5.params[j]? = some t → args[j]? = some v → Value.okWide Tryd.prog W .any base t v)
    (hW : DataW.Whole enc Tryd.prog Tryd.f5.params.toList Rows.numPutReadsSpec.vars false W args.toList ds gs before) (hL : laidMetH Tryd.prog Rows.numPutReadsRow.laid W) :
    Calls Tryd.prog 5 args W fun e W' => ∃ v, e = .returned v ∧ Rows.numPutReadsSpec.post enc Tryd.prog Tryd.f5 false true false false W args v W' := by
  have hW' := hW
  obtain ⟨p, q, hA0, hV, rfl, hfz, hnd⟩ := hW
  have hA : DataW.TrodAll enc Tryd.prog W 0 (fun _ => true) true Tryd.f5.params.toList args.toList ds p := hA0
  rw [Tryd.params5] at hA hval
  obtain ⟨v0, vs0, d0, ds0, p0, q0, hargs, rfl, rfl, h0, r0⟩ := trodAll_cons hA
  obtain ⟨v1, vs1, d1, ds1, p1, q1, rfl, rfl, rfl, h1, r1⟩ := trodAll_cons r0
  obtain ⟨rfl, rfl, rfl⟩ := trodAll_nil r1
  obtain rfl : args = #[v0, v1] := by cases args; simp_all
  obtain ⟨rfl, rfl⟩ := trodVars_none hV
  obtain ⟨a0, rfl, rfl, rfl, w0⟩ := open_int Tryd.underlying3 (hval 0 3 v0 rfl rfl) h0
  obtain ⟨a1, rfl, rfl, rfl, w1⟩ := open_int Tryd.underlying3 (hval 1 3 v1 rfl rfl) h1
  clear hA0
  simp only [List.append_nil] at hW'
  refine (walk a0 a1 w0 w1 W (tabs hL (heap_of hL))).mono fun e W' ⟨he, hg⟩ => ?_
  subst he
  exact ⟨_, rfl, _, _, _, [], _, [], hW', trodAll_cons_mk (shut_bool Tryd.underlying4 _) trodAll_mk0, (trodAll_cons_mk (shut_int Tryd.underlying3 w0) (trodAll_cons_mk (shut_int Tryd.underlying3 w1) trodAll_mk0)), rfl, hg.frame _, fun h => by cases h⟩
theorem laid_met (os : Os) : laidMet Tryd.prog Rows.numPutReadsRow.laid (({ (World.holding Tryd.prog os ⟨#[], #[], []⟩) with heap := ((((World.holding Tryd.prog os ⟨#[], #[], []⟩).heap.modify 2 fun
      | .cells _ t frozen => .cells #[.int .u8 0, .int .u8 1, .int .u8 28, .int .u8 2, .int .u8 29, .int .u8 14, .int .u8 24, .int .u8 3, .int .u8 30, .int .u8 22, .int .u8 20, .int .u8 15, .int .u8 25, .int .u8 17, .int .u8 4, .int .u8 8, .int .u8 31, .int .u8 27, .int .u8 13, .int .u8 23, .int .u8 21, .int .u8 19, .int .u8 16, .int .u8 7, .int .u8 26, .int .u8 12, .int .u8 18, .int .u8 6, .int .u8 11, .int .u8 5, .int .u8 10, .int .u8 9] t frozen
      | o => o).modify 3 fun
      | .cells _ t frozen => .cells #[.int .u8 0, .int .u8 1, .int .u8 56, .int .u8 2, .int .u8 57, .int .u8 49, .int .u8 28, .int .u8 3, .int .u8 61, .int .u8 58, .int .u8 42, .int .u8 50, .int .u8 38, .int .u8 29, .int .u8 17, .int .u8 4, .int .u8 62, .int .u8 47, .int .u8 59, .int .u8 36, .int .u8 45, .int .u8 43, .int .u8 51, .int .u8 22, .int .u8 53, .int .u8 39, .int .u8 33, .int .u8 30, .int .u8 24, .int .u8 18, .int .u8 12, .int .u8 5, .int .u8 63, .int .u8 55, .int .u8 48, .int .u8 27, .int .u8 60, .int .u8 41, .int .u8 37, .int .u8 16, .int .u8 46, .int .u8 35, .int .u8 44, .int .u8 21, .int .u8 52, .int .u8 32, .int .u8 23, .int .u8 11, .int .u8 54, .int .u8 26, .int .u8 40, .int .u8 15, .int .u8 34, .int .u8 20, .int .u8 31, .int .u8 10, .int .u8 25, .int .u8 14, .int .u8 19, .int .u8 9, .int .u8 13, .int .u8 8, .int .u8 7, .int .u8 6] t frozen
      | o => o).modify 0 fun
      | .cells _ t frozen => .cells #[.int .u64 1, .int .u64 10, .int .u64 100, .int .u64 1000, .int .u64 10000, .int .u64 100000, .int .u64 1000000, .int .u64 10000000, .int .u64 100000000, .int .u64 1000000000, .int .u64 10000000000, .int .u64 100000000000, .int .u64 1000000000000, .int .u64 10000000000000, .int .u64 100000000000000, .int .u64 1000000000000000, .int .u64 10000000000000000, .int .u64 100000000000000000, .int .u64 1000000000000000000, .int .u64 10000000000000000000] t frozen
      | o => o) } : World).forCall (fun _ _ => 0) ⟨#[], #[.int .i64 0, .int .i64 0], []⟩).memory :=
  laidMet_of_run' 8 (by kernel_rfl) (by kernel_rfl)
theorem reads (os : Os) {H : Type} (enc : TypeId × Value → H) : ∃ places, DataW.whole enc Tryd.prog (({ (World.holding Tryd.prog os ⟨#[], #[], []⟩) with heap := ((((World.holding Tryd.prog os ⟨#[], #[], []⟩).heap.modify 2 fun
      | .cells _ t frozen => .cells #[.int .u8 0, .int .u8 1, .int .u8 28, .int .u8 2, .int .u8 29, .int .u8 14, .int .u8 24, .int .u8 3, .int .u8 30, .int .u8 22, .int .u8 20, .int .u8 15, .int .u8 25, .int .u8 17, .int .u8 4, .int .u8 8, .int .u8 31, .int .u8 27, .int .u8 13, .int .u8 23, .int .u8 21, .int .u8 19, .int .u8 16, .int .u8 7, .int .u8 26, .int .u8 12, .int .u8 18, .int .u8 6, .int .u8 11, .int .u8 5, .int .u8 10, .int .u8 9] t frozen
      | o => o).modify 3 fun
      | .cells _ t frozen => .cells #[.int .u8 0, .int .u8 1, .int .u8 56, .int .u8 2, .int .u8 57, .int .u8 49, .int .u8 28, .int .u8 3, .int .u8 61, .int .u8 58, .int .u8 42, .int .u8 50, .int .u8 38, .int .u8 29, .int .u8 17, .int .u8 4, .int .u8 62, .int .u8 47, .int .u8 59, .int .u8 36, .int .u8 45, .int .u8 43, .int .u8 51, .int .u8 22, .int .u8 53, .int .u8 39, .int .u8 33, .int .u8 30, .int .u8 24, .int .u8 18, .int .u8 12, .int .u8 5, .int .u8 63, .int .u8 55, .int .u8 48, .int .u8 27, .int .u8 60, .int .u8 41, .int .u8 37, .int .u8 16, .int .u8 46, .int .u8 35, .int .u8 44, .int .u8 21, .int .u8 52, .int .u8 32, .int .u8 23, .int .u8 11, .int .u8 54, .int .u8 26, .int .u8 40, .int .u8 15, .int .u8 34, .int .u8 20, .int .u8 31, .int .u8 10, .int .u8 25, .int .u8 14, .int .u8 19, .int .u8 9, .int .u8 13, .int .u8 8, .int .u8 7, .int .u8 6] t frozen
      | o => o).modify 0 fun
      | .cells _ t frozen => .cells #[.int .u64 1, .int .u64 10, .int .u64 100, .int .u64 1000, .int .u64 10000, .int .u64 100000, .int .u64 1000000, .int .u64 10000000, .int .u64 100000000, .int .u64 1000000000, .int .u64 10000000000, .int .u64 100000000000, .int .u64 1000000000000, .int .u64 10000000000000, .int .u64 100000000000000, .int .u64 1000000000000000, .int .u64 10000000000000000, .int .u64 100000000000000000, .int .u64 1000000000000000000, .int .u64 10000000000000000000] t frozen
      | o => o) } : World).forCall (fun _ _ => 0) ⟨#[], #[.int .i64 0, .int .i64 0], []⟩).memory Tryd.f5.params.toList Rows.numPutReadsSpec.vars false (#[.int .i64 0, .int .i64 0] : Array Value).toList 8 = some ([.lit (.int .i64 0), .lit (.int .i64 0)], [], places) :=
  ⟨[], by kernel_rfl⟩
set_option maxRecDepth 100000 in
theorem lifted (os : Os) (started : os.Started) (H : Type) (enc : TypeId × Value → H) (F : Stop.Interp) :
    ReturnsInHanded {} Tryd.checked os 5 .any ((OpenSpec.ofChange Rows.numPutReadsSpec).preRow enc Tryd.prog Tryd.f5 Rows.numPutReadsRow.domain false Rows.numPutReadsRow.laid) (((OpenSpec.ofChange Rows.numPutReadsSpec).at F).post enc Tryd.prog Tryd.f5 false true false false) := by
  obtain ⟨places, hx⟩ := reads os enc
  refine returnsInHanded_of_row (C := Tryd.checked) (s := OpenSpec.ofChange Rows.numPutReadsSpec) own started (by kernel_rfl) Tryd.func5
    (witness_row_at (enc := enc) (C := Tryd.checked) false ({ (World.holding Tryd.prog os ⟨#[], #[], []⟩) with heap := ((((World.holding Tryd.prog os ⟨#[], #[], []⟩).heap.modify 2 fun
      | .cells _ t frozen => .cells #[.int .u8 0, .int .u8 1, .int .u8 28, .int .u8 2, .int .u8 29, .int .u8 14, .int .u8 24, .int .u8 3, .int .u8 30, .int .u8 22, .int .u8 20, .int .u8 15, .int .u8 25, .int .u8 17, .int .u8 4, .int .u8 8, .int .u8 31, .int .u8 27, .int .u8 13, .int .u8 23, .int .u8 21, .int .u8 19, .int .u8 16, .int .u8 7, .int .u8 26, .int .u8 12, .int .u8 18, .int .u8 6, .int .u8 11, .int .u8 5, .int .u8 10, .int .u8 9] t frozen
      | o => o).modify 3 fun
      | .cells _ t frozen => .cells #[.int .u8 0, .int .u8 1, .int .u8 56, .int .u8 2, .int .u8 57, .int .u8 49, .int .u8 28, .int .u8 3, .int .u8 61, .int .u8 58, .int .u8 42, .int .u8 50, .int .u8 38, .int .u8 29, .int .u8 17, .int .u8 4, .int .u8 62, .int .u8 47, .int .u8 59, .int .u8 36, .int .u8 45, .int .u8 43, .int .u8 51, .int .u8 22, .int .u8 53, .int .u8 39, .int .u8 33, .int .u8 30, .int .u8 24, .int .u8 18, .int .u8 12, .int .u8 5, .int .u8 63, .int .u8 55, .int .u8 48, .int .u8 27, .int .u8 60, .int .u8 41, .int .u8 37, .int .u8 16, .int .u8 46, .int .u8 35, .int .u8 44, .int .u8 21, .int .u8 52, .int .u8 32, .int .u8 23, .int .u8 11, .int .u8 54, .int .u8 26, .int .u8 40, .int .u8 15, .int .u8 34, .int .u8 20, .int .u8 31, .int .u8 10, .int .u8 25, .int .u8 14, .int .u8 19, .int .u8 9, .int .u8 13, .int .u8 8, .int .u8 7, .int .u8 6] t frozen
      | o => o).modify 0 fun
      | .cells _ t frozen => .cells #[.int .u64 1, .int .u64 10, .int .u64 100, .int .u64 1000, .int .u64 10000, .int .u64 100000, .int .u64 1000000, .int .u64 10000000, .int .u64 100000000, .int .u64 1000000000, .int .u64 10000000000, .int .u64 100000000000, .int .u64 1000000000000, .int .u64 10000000000000, .int .u64 100000000000000, .int .u64 1000000000000000, .int .u64 10000000000000000, .int .u64 100000000000000000, .int .u64 1000000000000000000, .int .u64 10000000000000000000] t frozen
      | o => o) } : World) #[.int .i64 0, .int .i64 0] rfl (by kernel_rfl) (by kernel_rfl) (by kernel_rfl)
      (OpenSpec.preRow_of_cond 8 hx (by kernel_rfl) (fun k hk => by cases hk) (by kernel_rfl) (laid_met os))) ?_
  intro W base args ds gs before hval hW _ _ _ hL _ _
  exact contract H enc W base args ds gs before hval hW hL
theorem said : Rows.NumPutReadsSaid :=
  OpenClaim.holds_of_cond 5 Tryd.f5 rfl rfl rfl rfl rfl rfl rfl ⟨rfl, rfl, rfl, rfl, rfl⟩ rfl rfl rfl rfl rfl (by kernel_rfl) Tryd.func5 (by kernel_rfl)
    (of_decide_eq_true (by kernel_rfl)) (by unfold Func.isWrapper; first | (rw [if_pos (by decide +kernel)]; kernel_rfl) | (rw [if_neg (by decide +kernel)]; exact ⟨rfl, rfl⟩))
    (fun os started H enc _ F => by rw [OpenClaim.pre_eq_preRow]; exact lifted os started H enc F)
theorem plain (f : FuncId) (fn : Func) (hf : Tryd.pinned.checked.prog.funcNamed "shelf/shelflaw1.NumPutReads" = some f) (hfn : Tryd.pinned.checked.prog.funcs[f]? = some fn) :
    false = Tryd.pinned.checked.prog.looks [] ∧ ∀ (j : Nat) t, fn.params[j]? = some t → Tryd.pinned.checked.prog.wantsStandIn t = false := by
  obtain rfl : f = 5 := Option.some.inj ((show Tryd.prog.funcNamed "shelf/shelflaw1.NumPutReads" = some 5 by kernel_rfl).symm.trans hf) |>.symm
  obtain rfl : fn = Tryd.f5 := (Option.some.inj (Tryd.func5.symm.trans hfn)).symm
  refine ⟨by kernel_rfl, fun j t ht => ?_⟩
  rw [Tryd.params5] at ht
  obtain rfl : t = 3 := by simpa using Array.mem_of_getElem? ht
  exact (show Tryd.prog.wantsStandIn 3 = false by kernel_rfl)
theorem card : Rows.NumPutReadsCardSaid :=
  Claim7.holds_tied_plain_at .later [] _ _ _ _ said (fun _ h => by cases h) (by kernel_rfl) (fun _ h => by cases h) numPutReads_row_tie rfl ⟨rfl, rfl⟩ (by kernel_rfl) rfl plain (by kernel_rfl)
end Go.Proofs.YtfjmjgnifbgneabDoor.numPutReads
namespace Go.Proofs.YtfjmjgnifbgneabDoor
theorem numPutReads_holds : Rows.NumPutReadsCardSaid := numPutReads.card
#print axioms numPutReads_holds
end Go.Proofs.YtfjmjgnifbgneabDoor
