
-- lay: the small ones.
import Derived.Test.YtmlnnbinbbmmhaaDoorYP0
import Derived.Test.YtmlnnbinbbmmhaaDoorA0
namespace Go.Proofs.YtmlnnbinbbmmhaaDoor
open Go.ChangeShapes Go.WideShapes Go.ChangeAt Go.RowKit
set_option linter.unusedVariables false
set_option maxRecDepth 100000
theorem even_c (n : Int) (w : World) (h0 : 0 ≤ n) (h1 : n ≤ 4611686018427387904) : Calls Tryd.prog 62 #[.int .i64 n] w fun e w' => e = .returned (.int .i64 (evN n)) ∧ w' = w := by
  have hw : IntKind.i64.wrap (n + n % 2) = n + n % 2 := by rw [IntKind.wrap_i64]; omega
  go_enter Tryd.func62, Tryd.ntmps62
  go_wp2
  go_ret
  exact ⟨rfl, rfl⟩
theorem room_c (n : Int) (w : World) (h0 : 0 ≤ n) (h1 : n ≤ 4611686018427387904) : Calls Tryd.prog 46 #[.int .i64 n] w fun e w' => e = .returned (.int .i64 (roomN n)) ∧ w' = w := by
  have h2 := evN_nn h0
  have hw : IntKind.i64.wrap (60 + evN n) = 60 + evN n := by rw [IntKind.wrap_i64]; omega
  have HE := hidK (even_c n w h0 h1)
  go_enter Tryd.func46, Tryd.ntmps46
  go_wp2_with (go_at_call 62; refine HE.out.mono ?_; rintro e w1 ⟨rfl, hw1⟩; subst w1)
  go_ret
  exact ⟨rfl, rfl⟩
theorem isKind_c (k : Int) (w : World) : Calls Tryd.prog 20 #[.int .i64 k] w fun e w' => e = .returned (.bool (kindB k)) ∧ w' = w := by
  by_cases h0 : k = 0
  · subst h0
    go_enter Tryd.func20, Tryd.ntmps20
    go_wp2
    go_ret
    exact ⟨rfl, rfl⟩
  · by_cases h1 : k = 1
    · subst h1
      go_enter Tryd.func20, Tryd.ntmps20
      go_wp2
      go_ret
      exact ⟨rfl, rfl⟩
    · have a0 : (k == 0) = false := by simpa using h0
      have a1 : (k == 1) = false := by simpa using h1
      have hk : kindB k = (k == 2) := by
        unfold kindB
        simp only [h0, h1, decide_false, Bool.false_or]
        rfl
      rw [hk]
      go_enter Tryd.func20, Tryd.ntmps20
      go_wp2
      go_ret
      exact ⟨rfl, rfl⟩
theorem isSize_c (n : Int) (w : World) : Calls Tryd.prog 21 #[.int .i64 n] w fun e w' => e = .returned (.bool (sizeB n)) ∧ w' = w := by
  by_cases h0 : 0 ≤ n
  · have a0 : n ≥ 0 := h0
    have hk : sizeB n = decide (n ≤ 9999999999) := by unfold sizeB; simp [h0]
    rw [hk]
    clear h0 hk
    go_enter Tryd.func21, Tryd.ntmps21
    go_wp2
    go_ret
    exact ⟨rfl, rfl⟩
  · have a0 : ¬ (n ≥ 0) := h0
    have hk : sizeB n = false := by unfold sizeB; simp [h0]
    rw [hk]
    clear hk
    go_enter Tryd.func21, Tryd.ntmps21
    go_wp2
    go_ret
    exact ⟨rfl, rfl⟩
end Go.Proofs.YtmlnnbinbbmmhaaDoor
