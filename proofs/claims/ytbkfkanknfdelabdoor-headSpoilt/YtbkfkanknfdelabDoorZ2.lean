
-- shelflaw7.digit: a contract.
import Derived.Test.YtbkfkanknfdelabDoorZ1
namespace Go.Proofs.YtbkfkanknfdelabDoor
open Go.ChangeShapes Go.WideShapes Go.ChangeAt Go.RowKit
set_option linter.unusedVariables false
set_option maxRecDepth 100000
theorem digit_core (x i : Int) (w : World) (hx : 0 ≤ x ∧ x < 256) (b : Bool)
    (hb : b = (decide (x = 32) || (if 40 ≤ i ∧ i < 48 then decide (48 ≤ x ∧ x ≤ 55) else decide (48 ≤ x ∧ x ≤ 57)))) :
    Calls Tryd.prog 8 #[.int .u8 x, .int .i64 i] w fun e w' => e = .returned (.bool b) ∧ w' = w := by
  by_cases h32 : x = 32
  · have hbt : b = true := by rw [hb, decide_eq_true h32]; rfl
    subst hbt
    clear hb
    subst h32
    by_cases hi1 : 40 ≤ i
    · have c1 : decide (40 ≤ i) = true := by simp; omega
      by_cases hi2 : i < 48
      · have c2 : decide (i < 48) = true := by simp; omega
        go_enter Tryd.func8, Tryd.ntmps8
        go_wp2
        go_ret
        exact ⟨rfl, rfl⟩
      · have c2 : decide (i < 48) = false := by simp; omega
        go_enter Tryd.func8, Tryd.ntmps8
        go_wp2
        go_ret
        exact ⟨rfl, rfl⟩
    · have c1 : decide (40 ≤ i) = false := by simp; omega
      go_enter Tryd.func8, Tryd.ntmps8
      go_wp2
      go_ret
      exact ⟨rfl, rfl⟩
  · have e32 : (x == 32) = false := by simp [h32]
    rw [decide_eq_false h32, Bool.false_or] at hb
    have HB : Hid (b = (if 40 ≤ i ∧ i < 48 then decide (48 ≤ x ∧ x ≤ 55) else decide (48 ≤ x ∧ x ≤ 57))) := hb
    clear hb h32
    by_cases h48 : 48 ≤ x
    · have d1 : decide (48 ≤ x) = true := by simp; omega
      by_cases hi : 40 ≤ i ∧ i < 48
      · have c1 : decide (40 ≤ i) = true := by simp; omega
        have c2 : decide (i < 48) = true := by simp; omega
        by_cases h55 : x ≤ 55
        · have d2 : decide (x ≤ 55) = true := by simp; omega
          have HT : Hid (b = true) := by show b = true; rw [HB.out, if_pos hi]; exact decide_eq_true ⟨h48, h55⟩
          go_enter Tryd.func8, Tryd.ntmps8
          go_wp2
          go_ret
          exact ⟨by rw [HT.out]; rfl, rfl⟩
        · have d2 : decide (x ≤ 55) = false := by simp; omega
          have HT : Hid (b = false) := by show b = false; rw [HB.out, if_pos hi]; exact decide_eq_false (fun h => h55 h.2)
          go_enter Tryd.func8, Tryd.ntmps8
          go_wp2
          go_ret
          exact ⟨by rw [HT.out]; rfl, rfl⟩
      · by_cases h57 : x ≤ 57
        · have d2 : decide (x ≤ 57) = true := by simp; omega
          have HT : Hid (b = true) := by show b = true; rw [HB.out, if_neg hi]; exact decide_eq_true ⟨h48, h57⟩
          by_cases hi1 : 40 ≤ i
          · have c1 : decide (40 ≤ i) = true := by simp; omega
            have c2 : decide (i < 48) = false := by simp; omega
            go_enter Tryd.func8, Tryd.ntmps8
            go_wp2
            go_ret
            exact ⟨by rw [HT.out]; rfl, rfl⟩
          · have c1 : decide (40 ≤ i) = false := by simp; omega
            go_enter Tryd.func8, Tryd.ntmps8
            go_wp2
            go_ret
            exact ⟨by rw [HT.out]; rfl, rfl⟩
        · have d2 : decide (x ≤ 57) = false := by simp; omega
          have HT : Hid (b = false) := by show b = false; rw [HB.out, if_neg hi]; exact decide_eq_false (fun h => h57 h.2)
          by_cases hi1 : 40 ≤ i
          · have c1 : decide (40 ≤ i) = true := by simp; omega
            have c2 : decide (i < 48) = false := by simp; omega
            go_enter Tryd.func8, Tryd.ntmps8
            go_wp2
            go_ret
            exact ⟨by rw [HT.out]; rfl, rfl⟩
          · have c1 : decide (40 ≤ i) = false := by simp; omega
            go_enter Tryd.func8, Tryd.ntmps8
            go_wp2
            go_ret
            exact ⟨by rw [HT.out]; rfl, rfl⟩
    · have d1 : decide (48 ≤ x) = false := by simp; omega
      have HT : Hid (b = false) := by
        show b = false
        rw [HB.out]
        split
        · exact decide_eq_false (fun h => h48 h.1)
        · exact decide_eq_false (fun h => h48 h.1)
      by_cases hi1 : 40 ≤ i
      · have c1 : decide (40 ≤ i) = true := by simp; omega
        by_cases hi2 : i < 48
        · have c2 : decide (i < 48) = true := by simp; omega
          go_enter Tryd.func8, Tryd.ntmps8
          go_wp2
          go_ret
          exact ⟨by rw [HT.out]; rfl, rfl⟩
        · have c2 : decide (i < 48) = false := by simp; omega
          go_enter Tryd.func8, Tryd.ntmps8
          go_wp2
          go_ret
          exact ⟨by rw [HT.out]; rfl, rfl⟩
      · have c1 : decide (40 ≤ i) = false := by simp; omega
        go_enter Tryd.func8, Tryd.ntmps8
        go_wp2
        go_ret
        exact ⟨by rw [HT.out]; rfl, rfl⟩
theorem digit_c (c : Int) (i : Nat) (w : World) :
    Calls Tryd.prog 8 #[.int .u8 (c % 256), .int .i64 i] w fun e w' => e = .returned (.bool (okAt (byteOf c) i)) ∧ w' = w := by
  refine digit_core (c % 256) i w ⟨by omega, by omega⟩ _ ?_
  have hb := byteOf_nat c
  unfold okAt dig
  have e0 : ((byteOf c).toNat == 32) = decide (c % 256 = 32) := by
    rw [Bool.eq_iff_iff]; simp; omega
  rw [e0]
  congr 1
  by_cases hi : 40 ≤ i ∧ i < 48
  · rw [if_pos hi, if_pos (by omega), ← Bool.decide_and, decide_eq_decide]; omega
  · rw [if_neg hi, if_neg (by omega), ← Bool.decide_and, decide_eq_decide]; omega
end Go.Proofs.YtbkfkanknfdelabDoor
