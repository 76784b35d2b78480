import Derived.Test.YthdgkghefjnfgaaDoorCivR
import Derived.BigQuiet
namespace Go.Proofs.YthdgkghefjnfgaaDoor
open Go.RowKit
set_option linter.unusedVariables false
theorem below_drewN {n : Nat} {a b : World} (h : Below n a b) (k : Nat) : Below n a (b.drewN k) := by
  induction k with
  | zero => exact h
  | succ k ih => exact ih.drew
theorem civil_out (s : Int) (w : World) (h : ¬ (0 ≤ s ∧ s ≤ 999999999999)) :
    Calls Tryd.prog 8 #[.int .i64 s] w fun e w' => e = .returned (.tuple #[.int .i64 0, .int .i64 0, .int .i64 0, .int .i64 0, .int .i64 0]) ∧ w' = w := by
  have hD : Hid (∀ w, Calls Tryd.prog 14 #[.int .i64 s] w fun e w' => e = .returned (.bool false) ∧ w' = w) := fun w => by
    have := isDate_c s w; rwa [decide_eq_false h] at this
  clear h
  go_enter Tryd.func8, Tryd.ntmps8
  go_wp2_with (go_at_call 14; refine (hD.out _).mono ?_; rintro e w1 ⟨rfl, hw1⟩; subst w1)
  go_returns
  exact ⟨rfl, rfl⟩
theorem rCivil_out (s : Int) (w : World) (h : ¬ (0 ≤ s ∧ s ≤ 999999999999)) :
    Calls Tryd.prog 10 #[.int .i64 s] w fun e w' => e = .returned (.tuple #[.int .i64 0, .int .i64 0, .int .i64 0, .int .i64 0, .int .i64 0]) ∧ Below w.heap.size w w' := by
  rcases Int.lt_or_le s 0 with h0 | h0
  · have hb : decide (s < 0) = true := by simp [h0]
    go_enter Tryd.func10, Tryd.ntmps10
    go_wp2
    go_returns
    exact ⟨rfl, by go_grown⟩
  · have hb : decide (s < 0) = false := by simp; omega
    have hb2 : decide (999999999999 < s) = true := by simp; omega
    go_enter Tryd.func10, Tryd.ntmps10
    go_wp2
    go_returns
    exact ⟨rfl, by go_grown⟩
theorem rCivil_in (s : Int) (w : World) (h0 : 0 ≤ s) (h1 : s ≤ 999999999999) :
    Calls Tryd.prog 10 #[.int .i64 s] w fun e w' => ∃ y m d, e = .returned (.tuple #[.int .i64 y, .int .i64 m, .int .i64 d, .int .i64 (s % 86400 / 3600), .int .i64 (s % 3600 / 60)]) ∧ Below w.heap.size w w' ∧ IsDay (s / 86400) y m d := by
  have hb : decide (s < 0) = false := by simp; omega
  have hb2 : decide (999999999999 < s) = false := by simp; omega
  obtain ⟨h, hh⟩ : ∃ h, h = s % 86400 / 3600 := ⟨_, rfl⟩
  obtain ⟨i, hi⟩ : ∃ i, i = s % 3600 / 60 := ⟨_, rfl⟩
  have HC : Hid (∀ w, Calls Tryd.prog 17 #[.int .i64 s] w fun e w' => ∃ y m d, e = .returned (.agg #[.int .i64 y, .int .i64 m, .int .i64 d, .int .i64 h, .int .i64 i]) ∧ Below w.heap.size w w' ∧ IsDay (s / 86400) y m d ∧ y ≤ 1970 + s / 86400) := fun w => by rw [hh, hi]; exact rcivil_c s w h0 h1
  rw [← hh, ← hi]
  clear hh hi
  go_enter Tryd.func10, Tryd.ntmps10
  go_wp2_with (go_at_call 17; refine (HC.out _).mono ?_; rintro e w1 ⟨y, m, d, rfl, hb1, hd1, hy1⟩)
  go_quiet (fail)
  go_wp2
  go_returns
  exact ⟨y, m, d, rfl, below_drewN (hb1.alloc hb1.size _) _, hd1⟩
theorem lmonthDays_c (y m : Int) (w : World) (h0 : 0 ≤ y) (h1 : 1 ≤ m) (h2 : m ≤ 12) :
    Calls Tryd.prog 9 #[.int .i64 y, .int .i64 m] w fun e w' => e = .returned (.int .i64 (ml y m)) ∧ w' = w := by
  have hl : isLeapB y = (decide (y % 4 = 0) && (decide (y % 100 ≠ 0) || decide (y % 400 = 0))) := rfl
  have HL : Hid (isLeapB y = (decide (y % 4 = 0) && (decide (y % 100 ≠ 0) || decide (y % 400 = 0)))) := hl
  clear hl
  go_enter Tryd.func9, Tryd.ntmps9
  go_wp2
  all_goals
    go_returns
    refine ⟨?_, rfl⟩
    have := HL.out
    simp at *
    simp [ml, *] <;> omega
end Go.Proofs.YthdgkghefjnfgaaDoor
