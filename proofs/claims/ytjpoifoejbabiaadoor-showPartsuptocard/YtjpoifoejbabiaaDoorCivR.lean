
import Derived.Test.YtjpoifoejbabiaaDoorCivW
import Derived.Handy
namespace Go.Proofs.YtjpoifoejbabiaaDoor
open Go.RowKit
set_option linter.unusedVariables false
set_option maxRecDepth 100000
theorem results_tmp5 {fn : Func} {t u v x y : Tmp} (h : fn.results = #[.tmp t, .tmp u, .tmp v, .tmp x, .tmp y]) (tmps : Array Value) (P : Program) (w : World) :
    (results fn tmps).run P w = .ok (.tuple #[tmps.getD t undef, tmps.getD u undef, tmps.getD v undef, tmps.getD x undef, tmps.getD y undef]) w := by
  simp [results, h]
theorem isDate_c (s : Int) (w : World) : Calls Tryd.prog 27 #[.int .i64 s] w fun e w' => e = .returned (.bool (decide (0 ≤ s ∧ s ≤ 999999999999))) ∧ w' = w := by
  go_enter Tryd.func27, Tryd.ntmps27
  go_wp2
  all_goals
    go_ret
    refine ⟨?_, rfl⟩
    congr 2
    simp [*]; try omega
theorem civil_in (s : Int) (w : World) (h0 : 0 ≤ s) (h1 : s ≤ 999999999999) (hT : MonTab w) :
    Calls Tryd.prog 28 #[.int .i64 s] w fun e w' => ∃ y m d, e = .returned (.tuple #[.int .i64 y, .int .i64 m, .int .i64 d, .int .i64 (s % 86400 / 3600), .int .i64 (s % 3600 / 60)]) ∧ w' = w ∧ IsDay (s / 86400) y m d ∧ y ≤ 1970 + s / 86400 := by
  have hD : Hid (∀ w, Calls Tryd.prog 27 #[.int .i64 s] w fun e w' => e = .returned (.bool true) ∧ w' = w) := fun w => by
    have := isDate_c s w; rwa [decide_eq_true (⟨h0, h1⟩)] at this
  have hY : Hid (∀ w, Calls Tryd.prog 41 #[.int .i64 (s / 86400)] w fun e w' => ∃ y r, e = .returned (.tuple #[.int .i64 y, .int .i64 r]) ∧ w' = w ∧ 1970 ≤ y ∧ y ≤ 1970 + s / 86400 ∧ byear y + r = s / 86400 ∧ 0 ≤ r ∧ r < yd y) := fun w => yearOfDay_c (s / 86400) w (by omega) (by omega)
  have hM : Hid (∀ y r, 1970 ≤ y → 0 ≤ r → r < yd y → Calls Tryd.prog 42 #[.int .i64 y, .int .i64 r] w fun e w' => ∃ m d, e = .returned (.tuple #[.int .i64 m, .int .i64 d]) ∧ w' = w ∧ 1 ≤ m ∧ m ≤ 12 ∧ 1 ≤ d ∧ d ≤ ml y m ∧ bmon y m + (d - 1) = r) := fun y r a b c => monthOfDay_c y r w a b c hT
  clear hT
  go_enter Tryd.func28, Tryd.ntmps28
  go_wp2_with (first
    | (go_at_call 27; refine (hD.out _).mono ?_; rintro e w1 ⟨rfl, hw1⟩; subst w1)
    | (go_at_call 41; refine (hY.out _).mono ?_; rintro e w1 ⟨y, r, rfl, hw1, hy, hy2, hyr, hr, hr2⟩; subst w1)
    | (go_at_call 42; refine (hM.out _ _ hy hr hr2).mono ?_; rintro e w1 ⟨m, d, rfl, hw1, hm, hm2, hd, hd2, hmr⟩; subst w1))
  (try simp only [Exit.inBlock, Exit.then])
  refine bodyPost_ret (results_tmp5 rfl _ _ _) rfl ?_
  refine ⟨y, m, d, ?_, rfl, ⟨hy, hm, hm2, hd, hd2, by omega⟩, hy2⟩
  have e1 : s % 86400 / 60 / 60 = s % 86400 / 3600 := by omega
  have e2 : s % 86400 / 60 % 60 = s % 3600 / 60 := by omega
  rw [← e1, ← e2]; rfl
end Go.Proofs.YtjpoifoejbabiaaDoor
