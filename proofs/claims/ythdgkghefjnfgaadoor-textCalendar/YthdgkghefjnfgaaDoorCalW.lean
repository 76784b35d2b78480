import Derived.Test.YthdgkghefjnfgaaDoorCivL
import Derived.Test.YthdgkghefjnfgaaDoorDay
import Derived.Deep.RegionWith
namespace Go.Proofs.YthdgkghefjnfgaaDoor
open Go.RowKit
set_option linter.unusedVariables false
set_option maxHeartbeats 1000000 in
theorem cal_walk (a0 : Int) (w : World) (hT : MonTab w) :
    Calls Tryd.prog 4 #[.int .i64 a0] w fun e w' => e = .returned (.bool true) ∧ Below w.heap.size w w' := by
  by_cases hin : 0 ≤ a0 ∧ a0 ≤ 999999999999
  · have HT : Hid (∀ w, MonTab w → Calls Tryd.prog 8 #[.int .i64 a0] w fun e w' => ∃ y m d, e = .returned (.tuple #[.int .i64 y, .int .i64 m, .int .i64 d, .int .i64 (a0 % 86400 / 3600), .int .i64 (a0 % 3600 / 60)]) ∧ w' = w ∧ IsDay (a0 / 86400) y m d ∧ y ≤ 1970 + a0 / 86400) := fun w hT => civil_in a0 w hin.1 hin.2 hT
    have HL : Hid (∀ y m w, 0 ≤ y → 1 ≤ m → m ≤ 12 → Calls Tryd.prog 9 #[.int .i64 y, .int .i64 m] w fun e w' => e = .returned (.int .i64 (ml y m)) ∧ w' = w) := fun y m w h a b => lmonthDays_c y m w h a b
    have hb : decide (a0 < 0) = false := by simp; omega
    have hb2 : decide (999999999999 < a0) = false := by simp; omega
    obtain ⟨h0, h1⟩ := hin
    by_cases hd : a0 < 86400
    · have hb3 : decide (a0 < 86400) = true := by simp [hd]
      have e0 : a0 / 86400 = 0 := by omega
      have HU : Hid (∀ y m d, IsDay (a0 / 86400) y m d → y = 1970 ∧ m = 1 ∧ d = 1) := fun y m d h => by rw [e0] at h; exact h.zero
      have hml : ml 1970 1 = 31 := by decide
      clear e0
      go_enter Tryd.func4, Tryd.ntmps4
      go_wp2_with (first
        | (go_at_call 8; refine (HT.out _ hT).mono ?_; rintro e w1 ⟨y, m, d, rfl, hw1, hd1, -⟩; obtain ⟨rfl, rfl, rfl⟩ := HU.out _ _ _ hd1; subst w1)
        | (go_at_call 9; refine (HL.out _ _ _ (by omega) (by omega) (by omega)).mono ?_; rintro e w1 ⟨rfl, hw1⟩; subst w1))
      go_returns
      exact ⟨rfl, Below.refl _ _⟩
    · obtain ⟨b0, hb0⟩ : ∃ b, a0 - 86400 = b := ⟨_, rfl⟩
      obtain ⟨y, m, d, hday⟩ := exists_day (a0 / 86400) (by omega)
      have hprev := hday.prev (by omega)
      have HC : Hid (∀ w, MonTab w → Calls Tryd.prog 8 #[.int .i64 a0] w fun e w' => e = .returned (.tuple #[.int .i64 y, .int .i64 m, .int .i64 d, .int .i64 (a0 % 86400 / 3600), .int .i64 (a0 % 3600 / 60)]) ∧ w' = w) := fun w hT => by
        refine (HT.out w hT).mono ?_
        rintro e w1 ⟨y', m', d', rfl, hw1, hd1, -⟩
        obtain ⟨rfl, rfl, rfl⟩ := hday.uniq hd1
        exact ⟨rfl, hw1⟩
      obtain ⟨hy1, hm1, hm2, hd1, hd2, -⟩ := hday
      have hb3 : decide (a0 < 86400) = false := by simp; omega
      have HP : Hid (∀ y' m' d' w, IsDay (a0 / 86400 - 1) y' m' d' → MonTab w → Calls Tryd.prog 8 #[.int .i64 b0] w fun e w' => ∃ h i, e = .returned (.tuple #[.int .i64 y', .int .i64 m', .int .i64 d', .int .i64 h, .int .i64 i]) ∧ w' = w) := fun y' m' d' w hp hT => by
        refine (civil_in b0 w (by omega) (by omega) hT).mono ?_
        rintro e w1 ⟨y2, m2, d2, rfl, hw1, hd1, -⟩
        rw [show b0 / 86400 = a0 / 86400 - 1 by omega] at hd1
        obtain ⟨rfl, rfl, rfl⟩ := hp.uniq hd1
        exact ⟨_, _, rfl, hw1⟩
      have n1 : decide (m < 1) = false := by simp; omega
      have n2 : decide (12 < m) = false := by simp; omega
      have n3 : decide (d < 1) = false := by simp; omega
      have hy9 : y ≤ 100000000 := by
        have := IsDay.year_le hprev
        split at this
        · omega
        · split at this <;> omega
      clear HT
      obtain ⟨L, hL⟩ : ∃ L, L = ml y m := ⟨_, rfl⟩
      have HL1 : Hid (∀ w, Calls Tryd.prog 9 #[.int .i64 y, .int .i64 m] w fun e w' => e = .returned (.int .i64 L) ∧ w' = w) := fun w => by rw [hL]; exact HL.out y m w (by omega) hm1 hm2
      have n4 : decide (L < d) = false := by simp; omega
      have hd9 : d ≤ 31 := by have := ml_pos y m; omega
      clear hL hd2
      by_cases c1 : 1 < d
      · simp only [c1, if_true] at hprev
        have b1 : decide (1 < d) = true := by simp [c1]
        have HQ : Hid (∀ w, MonTab w → Calls Tryd.prog 8 #[.int .i64 b0] w fun e w' => ∃ h i, e = .returned (.tuple #[.int .i64 y, .int .i64 m, .int .i64 (d - 1), .int .i64 h, .int .i64 i]) ∧ w' = w) := fun w hT => HP.out _ _ _ w hprev hT
        clear hprev HP HL
        go_enter Tryd.func4, Tryd.ntmps4
        go_wp2_with (first
          | (go_at_call_of 8 (Value.int IntKind.i64 b0); refine (HQ.out _ hT).mono ?_; rintro e w1 ⟨h', i', rfl, hw1⟩; subst w1)
          | (go_at_call 8; refine (HC.out _ hT).mono ?_; rintro e w1 ⟨rfl, hw1⟩; subst w1)
          | (go_at_call 9; refine (HL1.out _).mono ?_; rintro e w1 ⟨rfl, hw1⟩; subst w1))
        go_returns
        exact ⟨by simp, Below.refl _ _⟩
      · have b1 : decide (1 < d) = false := by simp [c1]
        by_cases c2 : 1 < m
        · simp only [c1, c2, if_true, if_false] at hprev
          have b2 : decide (1 < m) = true := by simp [c2]
          obtain ⟨p, hp⟩ : ∃ p, m - 1 = p := ⟨_, rfl⟩
          rw [hp] at hprev
          obtain ⟨L2, hL2⟩ : ∃ L2, L2 = ml y p := ⟨_, rfl⟩
          rw [← hL2] at hprev
          have HL2 : Hid (∀ w, Calls Tryd.prog 9 #[.int .i64 y, .int .i64 p] w fun e w' => e = .returned (.int .i64 L2) ∧ w' = w) := fun w => by rw [hL2]; exact HL.out y p w (by omega) (by omega) (by omega)
          have HQ : Hid (∀ w, MonTab w → Calls Tryd.prog 8 #[.int .i64 b0] w fun e w' => ∃ h i, e = .returned (.tuple #[.int .i64 y, .int .i64 p, .int .i64 L2, .int .i64 h, .int .i64 i]) ∧ w' = w) := fun w hT => HP.out _ _ _ w hprev hT
          clear hprev HP HL hL2
          go_enter Tryd.func4, Tryd.ntmps4
          go_wp2_with (first
            | (go_at_call_of 8 (Value.int IntKind.i64 b0); refine (HQ.out _ hT).mono ?_; rintro e w1 ⟨h', i', rfl, hw1⟩; subst w1)
            | (go_at_call 8; refine (HC.out _ hT).mono ?_; rintro e w1 ⟨rfl, hw1⟩; subst w1)
            | (go_at_call_of 9 (Value.int IntKind.i64 p); refine (HL2.out _).mono ?_; rintro e w1 ⟨rfl, hw1⟩; subst w1)
            | (go_at_call 9; refine (HL1.out _).mono ?_; rintro e w1 ⟨rfl, hw1⟩; subst w1))
          go_returns
          exact ⟨by simp, Below.refl _ _⟩
        · simp only [c1, c2, if_false] at hprev
          have b2 : decide (1 < m) = false := by simp [c2]
          have HQ : Hid (∀ w, MonTab w → Calls Tryd.prog 8 #[.int .i64 b0] w fun e w' => ∃ h i, e = .returned (.tuple #[.int .i64 (y - 1), .int .i64 12, .int .i64 31, .int .i64 h, .int .i64 i]) ∧ w' = w) := fun w hT => HP.out _ _ _ w hprev hT
          clear hprev HP HL
          go_enter Tryd.func4, Tryd.ntmps4
          go_wp2_with (first
            | (go_at_call_of 8 (Value.int IntKind.i64 b0); refine (HQ.out _ hT).mono ?_; rintro e w1 ⟨h', i', rfl, hw1⟩; subst w1)
            | (go_at_call 8; refine (HC.out _ hT).mono ?_; rintro e w1 ⟨rfl, hw1⟩; subst w1)
            | (go_at_call 9; refine (HL1.out _).mono ?_; rintro e w1 ⟨rfl, hw1⟩; subst w1))
          go_returns
          exact ⟨by simp, Below.refl _ _⟩
  · have HT : Hid (∀ w, Calls Tryd.prog 8 #[.int .i64 a0] w fun e w' => e = .returned (.tuple #[.int .i64 0, .int .i64 0, .int .i64 0, .int .i64 0, .int .i64 0]) ∧ w' = w) := fun w => civil_out a0 w hin
    rcases Int.lt_or_le a0 0 with h0 | h0
    · have hb : decide (a0 < 0) = true := by simp [h0]
      clear hin
      go_enter Tryd.func4, Tryd.ntmps4
      go_wp2_with (go_at_call 8; refine (HT.out _).mono ?_; rintro e w1 ⟨rfl, hw1⟩; subst w1)
      go_returns
      exact ⟨rfl, Below.refl _ _⟩
    · have hb : decide (a0 < 0) = false := by simp; omega
      have hb2 : decide (999999999999 < a0) = true := by simp; omega
      clear hin
      go_enter Tryd.func4, Tryd.ntmps4
      go_wp2_with (go_at_call 8; refine (HT.out _).mono ?_; rintro e w1 ⟨rfl, hw1⟩; subst w1)
      go_returns
      exact ⟨rfl, Below.refl _ _⟩

end Go.Proofs.YthdgkghefjnfgaaDoor
