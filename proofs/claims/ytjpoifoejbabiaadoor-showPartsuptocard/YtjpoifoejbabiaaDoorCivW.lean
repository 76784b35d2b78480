
import Derived.Test.YtjpoifoejbabiaaDoorRows
import Derived.Test.YtjpoifoejbabiaaDoorCal
import Derived.WalkKit
namespace Go.Proofs.YtjpoifoejbabiaaDoor
open Go.RowKit
set_option linter.unusedVariables false
set_option maxRecDepth 100000
theorem isLeap_c (y : Int) (w : World) (h0 : 0 ≤ y) : Calls Tryd.prog 61 #[.int .i64 y] w fun e w' => e = .returned (.bool (isLeapB y)) ∧ w' = w := by
  go_enter Tryd.func61, Tryd.ntmps61
  go_wp2
  all_goals
    go_ret
    have hb : ((y % 400 == 0) = decide (y % 400 = 0)) := rfl
    simp [isLeapB, *]
theorem daysOfYear_c (y : Int) (w : World) (h0 : 0 ≤ y) : Calls Tryd.prog 50 #[.int .i64 y] w fun e w' => e = .returned (.int .i64 (yd y)) ∧ w' = w := by
  have H : Hid (∀ w, Calls Tryd.prog 61 #[.int .i64 y] w fun e w' => e = .returned (.bool (isLeapB y)) ∧ w' = w) := fun w => isLeap_c y w h0
  rcases hb : isLeapB y with _ | _
  all_goals
    rw [hb] at H
    go_enter Tryd.func50, Tryd.ntmps50
    go_wp2_with (go_at_call 61; refine (H.out _).mono ?_; rintro e w1 ⟨rfl, hw1⟩; subst w1)
    go_ret
    simp [yd, hb]
/-- The table of the months' days, where it is laid. -/
def MonTab (w : World) : Prop := ∀ i : Nat, i < 12 → w.cell? ⟨2, i, none⟩ = some (.int .i64 (ml 1 ((i : Int) + 1)))
theorem ml_common (y m : Int) (h : ¬ (m = 2 ∧ isLeapB y = true)) : ml y m = ml 1 m := by
  unfold ml
  by_cases h2 : m = 2
  · have : isLeapB y = false := by simpa [h2] using h
    have h1 : isLeapB 1 = false := by decide
    simp [h2, this, h1]
  · simp [h2]
theorem daysOfMonth_c (y m : Int) (w : World) (h0 : 0 ≤ y) (h1 : 1 ≤ m) (h2 : m ≤ 12) (hT : MonTab w) :
    Calls Tryd.prog 51 #[.int .i64 y, .int .i64 m] w fun e w' => e = .returned (.int .i64 (ml y m)) ∧ w' = w := by
  have H : Hid (∀ w, Calls Tryd.prog 61 #[.int .i64 y] w fun e w' => e = .returned (.bool (isLeapB y)) ∧ w' = w) := fun w => isLeap_c y w h0
  by_cases h : m = 2 ∧ isLeapB y = true
  · obtain ⟨rfl, hb⟩ := h
    rw [hb] at H
    go_enter Tryd.func51, Tryd.ntmps51
    go_wp2_with (go_at_call 61; refine (H.out _).mono ?_; rintro e w1 ⟨rfl, hw1⟩; subst w1)
    go_ret
    simp [ml, hb]
  · rw [ml_common y m h]
    obtain ⟨k, rfl⟩ : ∃ k : Nat, m = (k : Int) + 1 := ⟨(m - 1).toNat, by omega⟩
    obtain ⟨d, hd⟩ : ∃ d, d = ml 1 ((k : Int) + 1) := ⟨_, rfl⟩
    have hc := hT k (by omega)
    rw [← hd] at hc ⊢
    have hk : k < 12 := by omega
    by_cases h3 : (k : Int) + 1 = 2
    · have hb : isLeapB y = false := by simpa [h3] using h
      rw [hb] at H
      obtain rfl : k = 1 := by omega
      clear h hd hT
      go_enter Tryd.func51, Tryd.ntmps51
      go_wp2_with (go_at_call 61; refine (H.out _).mono ?_; rintro e w1 ⟨rfl, hw1⟩; subst w1)
      go_ret
      simp
    · clear h hd hT H
      go_enter Tryd.func51, Tryd.ntmps51
      go_wp2
      go_ret
      simp
theorem yearOfDay_c (d : Int) (w : World) (h0 : 0 ≤ d) (h1 : d < 1000000000000) :
    Calls Tryd.prog 41 #[.int .i64 d] w fun e w' => ∃ y r, e = .returned (.tuple #[.int .i64 y, .int .i64 r]) ∧ w' = w ∧ 1970 ≤ y ∧ y ≤ 1970 + d ∧ byear y + r = d ∧ 0 ≤ r ∧ r < yd y := by
  have H : Hid (∀ y w, 0 ≤ y → Calls Tryd.prog 50 #[.int .i64 y] w fun e w' => e = .returned (.int .i64 (yd y)) ∧ w' = w) := fun y w h => daysOfYear_c y w h
  have hs := byear_400 1970 (d / 146097)
  rw [byear_0] at hs
  go_enter Tryd.func41, Tryd.ntmps41
  go_wp2
  go_loop [0, 4] (fun dd yy => ∃ y r : Int, dd = .int .i64 r ∧ yy = .int .i64 y ∧ 1970 ≤ y ∧ 0 ≤ r ∧ byear y + r = d ∧ y + r ≤ 1970 + d) (fun dd _ => (intOf dd).toNat)
  case atStart => exact ⟨1970 + d / 146097 * 400, d % 146097, by simp, by simp, by omega, by omega, by rw [hs]; omega, by omega⟩
  case round =>
    obtain ⟨y, r, rfl, rfl, hy, hr, he, hle⟩ := hrel
    have hp := yd_pos y
    have hsu := byear_succ y
    by_cases hc : yd y ≤ r
    · have hd : decide (yd y ≤ r) = true := by simp [hc]
      obtain ⟨L, hL⟩ : ∃ L, L = yd y := ⟨_, rfl⟩
      have HY : Hid (∀ w, Calls Tryd.prog 50 #[.int .i64 y] w fun e w' => e = .returned (.int .i64 L) ∧ w' = w) := fun w => by rw [hL]; exact H.out y w (by omega)
      rw [← hL] at hp hsu hc hd
      clear hL H hs
      go_wp2_with (go_at_call 50; refine (HY.out _).mono ?_; rintro e w1 ⟨rfl, hw1⟩; subst w1)
      go_round
      case rel => exact ⟨y + 1, r - L, rfl, rfl, by omega, by omega, by omega, by omega⟩
      case measure => simp [intOf]; omega
    · have hd : decide (yd y ≤ r) = false := by simp; omega
      obtain ⟨L, hL⟩ : ∃ L, L = yd y := ⟨_, rfl⟩
      have HY : Hid (∀ w, Calls Tryd.prog 50 #[.int .i64 y] w fun e w' => e = .returned (.int .i64 L) ∧ w' = w) := fun w => by rw [hL]; exact H.out y w (by omega)
      have HL : Hid (L = yd y) := hL
      rw [← hL] at hd hc
      clear hL H hs hsu hp
      go_wp2_with (go_at_call 50; refine (HY.out _).mono ?_; rintro e w1 ⟨rfl, hw1⟩; subst w1)
      go_ret2
      exact ⟨y, r, rfl, rfl, hy, by omega, he, hr, by rw [← HL.out]; omega⟩
theorem monthOfDay_c (y r : Int) (w : World) (h0 : 1970 ≤ y) (h1 : 0 ≤ r) (h2 : r < yd y) (hT : MonTab w) :
    Calls Tryd.prog 42 #[.int .i64 y, .int .i64 r] w fun e w' => ∃ m d, e = .returned (.tuple #[.int .i64 m, .int .i64 d]) ∧ w' = w ∧ 1 ≤ m ∧ m ≤ 12 ∧ 1 ≤ d ∧ d ≤ ml y m ∧ bmon y m + (d - 1) = r := by
  have H : Hid (∀ m, 1 ≤ m → m ≤ 12 → Calls Tryd.prog 51 #[.int .i64 y, .int .i64 m] w fun e w' => e = .returned (.int .i64 (ml y m)) ∧ w' = w) := fun m a b => daysOfMonth_c y m w (by omega) a b hT
  have hyd := yd_pos y
  have HB : Hid (r < bmon y 13) := by rw [bmon_13]; exact h2
  clear h2 hT
  go_enter Tryd.func42, Tryd.ntmps42
  go_wp2
  go_loop [1, 6] (fun dd mm => ∃ m d : Int, dd = .int .i64 d ∧ mm = .int .i64 m ∧ 1 ≤ m ∧ m ≤ 12 ∧ 0 ≤ d ∧ d ≤ 366 ∧ bmon y m + d = r) (fun dd _ => (intOf dd).toNat)
  case atStart => exact ⟨1, r, rfl, rfl, by omega, by omega, h1, by have := HB.out; rw [bmon_13] at this; omega, by rw [bmon_1]; omega⟩
  case round =>
    obtain ⟨m, d, rfl, rfl, hm1, hm2, hd0, hd9, he⟩ := hrel
    have hp := ml_pos y m
    have hsu := ml_bmon y m hm1 hm2
    have h12 : ml y m ≤ d → m ≤ 11 := by
      intro hh
      have hB := HB.out
      rcases Int.lt_or_le m 12 with h | h
      · omega
      · obtain rfl : m = 12 := by omega
        rw [show (12 : Int) + 1 = 13 from rfl] at hsu
        omega
    obtain ⟨L, hL⟩ : ∃ L, L = ml y m := ⟨_, rfl⟩
    have HY : Hid (Calls Tryd.prog 51 #[.int .i64 y, .int .i64 m] w fun e w' => e = .returned (.int .i64 L) ∧ w' = w) := by rw [hL]; exact H.out m hm1 hm2
    have HL : Hid (L = ml y m) := hL
    rw [← hL] at hp hsu h12
    clear hL H
    by_cases hc : L ≤ d
    · have hd : decide (L ≤ d) = true := by simp [hc]
      have hm3 := h12 hc
      clear h12
      go_wp2_with (go_at_call 51; refine (HY.out).mono ?_; rintro e w1 ⟨rfl, hw1⟩; subst w1)
      go_round
      case rel => exact ⟨m + 1, d - L, rfl, rfl, by omega, by omega, by omega, by omega, by omega⟩
      case measure => simp [intOf]; omega
    · have hd : decide (L ≤ d) = false := by simp; omega
      clear h12 hsu
      go_wp2_with (go_at_call 51; refine (HY.out).mono ?_; rintro e w1 ⟨rfl, hw1⟩; subst w1)
      go_ret2
      exact ⟨m, d + 1, rfl, rfl, hm1, hm2, by omega, by rw [← HL.out]; omega, by omega⟩
end Go.Proofs.YtjpoifoejbabiaaDoor
