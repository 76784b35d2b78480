
import Derived.Test.YtjpoifoejbabiabDoorCivW
import Derived.Handy
namespace Go.Proofs.YtjpoifoejbabiabDoor
open Go.RowKit
set_option linter.unusedVariables false
set_option maxRecDepth 100000
theorem results_tmp5 {fn : Func} {t u v x y : Tmp} (h : fn.results = #[.tmp t, .tmp u, .tmp v, .tmp x, .tmp y]) (tmps : Array Value) (P : Program) (w : World) :
    (results fn tmps).run P w = .ok (.tuple #[tmps.getD t undef, tmps.getD u undef, tmps.getD v undef, tmps.getD x undef, tmps.getD y undef]) w := by
  simp [results, h]
theorem isDate_c (s : Int) (w : World) : Calls Tryd.prog 24 #[.int .i64 s] w fun e w' => e = .returned (.bool (decide (0 ≤ s ∧ s ≤ 999999999999))) ∧ w' = w := by
  go_enter Tryd.func24, Tryd.ntmps24
  go_wp2
  all_goals
    go_ret
    refine ⟨?_, rfl⟩
    congr 2
    simp [*]; try omega
theorem civil_in (s : Int) (w : World) (h0 : 0 ≤ s) (h1 : s ≤ 999999999999) (hT : MonTab w) :
    Calls Tryd.prog 25 #[.int .i64 s] w fun e w' => ∃ y m d, e = .returned (.tuple #[.int .i64 y, .int .i64 m, .int .i64 d, .int .i64 (s % 86400 / 3600), .int .i64 (s % 3600 / 60)]) ∧ w' = w ∧ IsDay (s / 86400) y m d ∧ y ≤ 1970 + s / 86400 := by
  have hD : Hid (∀ w, Calls Tryd.prog 24 #[.int .i64 s] w fun e w' => e = .returned (.bool true) ∧ w' = w) := fun w => by
    have := isDate_c s w; rwa [decide_eq_true (⟨h0, h1⟩)] at this
  have hY : Hid (∀ w, Calls Tryd.prog 45 #[.int .i64 (s / 86400)] w fun e w' => ∃ y r, e = .returned (.tuple #[.int .i64 y, .int .i64 r]) ∧ w' = w ∧ 1970 ≤ y ∧ y ≤ 1970 + s / 86400 ∧ byear y + r = s / 86400 ∧ 0 ≤ r ∧ r < yd y) := fun w => yearOfDay_c (s / 86400) w (by omega) (by omega)
  have hM : Hid (∀ y r, 1970 ≤ y → 0 ≤ r → r < yd y → Calls Tryd.prog 46 #[.int .i64 y, .int .i64 r] w fun e w' => ∃ m d, e = .returned (.tuple #[.int .i64 m, .int .i64 d]) ∧ w' = w ∧ 1 ≤ m ∧ m ≤ 12 ∧ 1 ≤ d ∧ d ≤ ml y m ∧ bmon y m + (d - 1) = r) := fun y r a b c => monthOfDay_c y r w a b c hT
  clear hT
  go_enter Tryd.func25, Tryd.ntmps25
  go_wp2_with (first
    | (go_at_call 24; refine (hD.out _).mono ?_; rintro e w1 ⟨rfl, hw1⟩; subst w1)
    | (go_at_call 45; refine (hY.out _).mono ?_; rintro e w1 ⟨y, r, rfl, hw1, hy, hy2, hyr, hr, hr2⟩; subst w1)
    | (go_at_call 46; refine (hM.out _ _ hy hr hr2).mono ?_; rintro e w1 ⟨m, d, rfl, hw1, hm, hm2, hd, hd2, hmr⟩; subst w1))
  (try simp only [Exit.inBlock, Exit.then])
  refine bodyPost_ret (results_tmp5 rfl _ _ _) rfl ?_
  refine ⟨y, m, d, ?_, rfl, ⟨hy, hm, hm2, hd, hd2, by omega⟩, hy2⟩
  have e1 : s % 86400 / 60 / 60 = s % 86400 / 3600 := by omega
  have e2 : s % 86400 / 60 % 60 = s % 3600 / 60 := by omega
  rw [← e1, ← e2]; rfl
def dateB (w : World) (a b c h i : Int) : World := (w.alloc (.cells #[.int .i64 0, .int .i64 0, .int .i64 0, .int .i64 0, .int .i64 0] 77)).alloc (.cells #[.int .i64 a, .int .i64 b, .int .i64 c, .int .i64 h, .int .i64 i] 77)
set_option maxHeartbeats 1000000 in
theorem rcivil_c (s : Int) (w : World) (h0 : 0 ≤ s) (h1 : s ≤ 999999999999) :
    Calls Tryd.prog 51 #[.int .i64 s] w fun e w' => ∃ y m d, e = .returned (.agg #[.int .i64 y, .int .i64 m, .int .i64 d, .int .i64 (s % 86400 / 3600), .int .i64 (s % 3600 / 60)]) ∧ Below w.heap.size w w' ∧ IsDay (s / 86400) y m d ∧ y ≤ 1970 + s / 86400 := by
  have H : Hid (∀ y w, 0 ≤ y → Calls Tryd.prog 73 #[.int .i64 y] w fun e w' => e = .returned (.int .i64 (yd y)) ∧ w' = w) := fun y w h => yearDays_c y w h
  have HM : Hid (∀ y m w, 0 ≤ y → 1 ≤ m → m ≤ 12 → Calls Tryd.prog 74 #[.int .i64 y, .int .i64 m] w fun e w' => e = .returned (.int .i64 (ml y m)) ∧ w' = w) := fun y m w h a b => rmonthDays_c y m w h a b
  obtain ⟨R, hR⟩ : ∃ R, s % 86400 = R := ⟨_, rfl⟩
  obtain ⟨D, hD⟩ : ∃ D, s / 86400 = D := ⟨_, rfl⟩
  have hs := byear_400 1970 (D / 146097)
  rw [byear_0] at hs
  have HS : Hid (byear (1970 + 400 * (D / 146097)) = D / 146097 * 146097) := by
    rw [show 1970 + 400 * (D / 146097) = 1970 + D / 146097 * 400 by omega]; show _ = _; omega
  have hR0 : 0 ≤ R ∧ R < 86400 := by omega
  have hD0 : 0 ≤ D ∧ D < 1000000000000 := by omega
  have e3 : s % 3600 / 60 = R % 3600 / 60 := by omega
  rw [e3, hD, hR]
  clear hs e3
  go_enter Tryd.func51, Tryd.ntmps51
  go_wp2
  clear hR hD
  go_loopw [3] (fun dd wx => ∃ y r : Int, dd = .int .i64 r ∧ wx = dateB w y 1 1 (R / 3600) (R % 3600 / 60) ∧ 1970 ≤ y ∧ 0 ≤ r ∧ byear y + r = D ∧ y + r ≤ 1970 + D) (fun dd _ => (intOf dd).toNat)
  case atStart => exact ⟨1970 + 400 * (D / 146097), D % 146097, rfl, rfl, by omega, by omega, by rw [HS.out]; omega, by omega⟩
  case round =>
    obtain ⟨y, r, rfl, rfl, hy, hr, he, hle⟩ := hrel
    unfold dateB
    have hp := yd_pos y
    have hsu := byear_succ y
    obtain ⟨L, hL⟩ : ∃ L, L = yd y := ⟨_, rfl⟩
    have HY : Hid (∀ w, Calls Tryd.prog 73 #[.int .i64 y] w fun e w' => e = .returned (.int .i64 L) ∧ w' = w) := fun w => by rw [hL]; exact H.out y w (by omega)
    have HL : Hid (L = yd y) := hL
    rw [← hL] at hp hsu
    clear hL H HS
    by_cases hc : L ≤ r
    · have hd : decide (L ≤ r) = true := by simp [hc]
      go_wp2_with (go_at_call 73; refine (HY.out _).mono ?_; rintro e w1 ⟨rfl, hw1⟩; subst w1)
      go_roundw
      case rel => exact ⟨y + 1, r - L, rfl, rfl, by omega, by omega, by omega, by omega⟩
      case measure => simp [intOf]; omega
    · have hd : decide (L ≤ r) = false := by simp; omega
      have HE : Hid (byear y + r = D ∧ r < bmon y 13) := ⟨he, by rw [bmon_13, ← HL.out]; omega⟩
      have hr9 : r ≤ 366 := by omega
      clear hsu he
      go_wp2_with (go_at_call 73; refine (HY.out _).mono ?_; rintro e w1 ⟨rfl, hw1⟩; subst w1)
      clear HY HL hp hc hd
      go_loopw [3] (fun dd wx => ∃ m d : Int, dd = .int .i64 d ∧ wx = dateB w y m 1 (R / 3600) (R % 3600 / 60) ∧ 1 ≤ m ∧ m ≤ 12 ∧ 0 ≤ d ∧ d ≤ 366 ∧ bmon y m + d = r) (fun dd _ => (intOf dd).toNat)
      case atStart => exact ⟨1, r, rfl, rfl, by omega, by omega, hr, hr9, by rw [bmon_1]; omega⟩
      case round =>
        obtain ⟨m, d, rfl, rfl, hm1, hm2, hd0, hd9, he⟩ := hrel
        unfold dateB
        have hp := ml_pos y m
        have hsu := ml_bmon y m hm1 hm2
        have h12 : ml y m ≤ d → m ≤ 11 := by
          intro hh
          have hB := HE.out.2
          rcases Int.lt_or_le m 12 with h | h
          · omega
          · obtain rfl : m = 12 := by omega
            rw [show (12 : Int) + 1 = 13 from rfl] at hsu
            omega
        obtain ⟨L, hL⟩ : ∃ L, L = ml y m := ⟨_, rfl⟩
        have HY : Hid (∀ w, Calls Tryd.prog 74 #[.int .i64 y, .int .i64 m] w fun e w' => e = .returned (.int .i64 L) ∧ w' = w) := fun w => by rw [hL]; exact HM.out y m w (by omega) hm1 hm2
        have HL : Hid (L = ml y m) := hL
        rw [← hL] at hp hsu h12
        clear hL HM
        by_cases hc : L ≤ d
        · have hd : decide (L ≤ d) = true := by simp [hc]
          have hm3 := h12 hc
          clear h12
          go_wp2_with (go_at_call 74; refine (HY.out _).mono ?_; rintro e w1 ⟨rfl, hw1⟩; subst w1)
          go_roundw
          case rel => exact ⟨m + 1, d - L, rfl, rfl, by omega, by omega, by omega, by omega, by omega⟩
          case measure => simp [intOf]; omega
        · have hd : decide (L ≤ d) = false := by simp; omega
          clear h12 hsu
          go_wp2_with (go_at_call 74; refine (HY.out _).mono ?_; rintro e w1 ⟨rfl, hw1⟩; subst w1)
          go_returns
          refine ⟨y, m, d + 1, rfl, ?_, ⟨hy, hm1, hm2, by omega, by rw [← HL.out]; omega, by have := HE.out.1; omega⟩, by omega⟩
          go_grown
end Go.Proofs.YtjpoifoejbabiabDoor
