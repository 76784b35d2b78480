
-- elf: the bytes from a place on; a section's bytes: contracts.
import Derived.Test.YtoikagccopglkaaDoorF1
namespace Go.Proofs.YtoikagccopglkaaDoor
open Go.ChangeShapes Go.WideShapes Go.ChangeAt Go.RowKit
set_option linter.unusedVariables false
set_option maxRecDepth 100000

theorem slice_nat (b : ByteArray) (p n : Nat) (h : p + n ≤ b.size) (w : World) :
    (Instr.slice 9 (.string b) (some (.int .u64 (p : Int))) (some (.int .u64 ((p : Int) + (n : Int)))) none).run Tryd.prog w = .ok (.string (b.extract p (p + n))) w := by
  rw [run_slice_string w 9 b .u64 .u64 (p : Int) ((p : Int) + (n : Int)) Tryd.underlying9 (by omega) (by omega) (by omega)]
  rfl
theorem piece_ok (b : ByteArray) (p n : Nat) (w : World) (hp : p ≤ b.size) (hn : n ≤ b.size - p) (hm : b.size ≤ maxLen) :
    Calls Tryd.prog 22 #[.string b, .int .u64 p, .int .u64 n] w fun r w' => r = .returned (.string (b.extract p (p + n))) ∧ w' = w := by
  unfold maxLen at hm
  have hsl := slice_nat b p n (by omega)
  go_enter Tryd.func22, Tryd.ntmps22
  go_wp2_with (first | (go_at_call 20; refine (require_ok _ _ _ (decide_eq_true (by omega))).mono ?_; rintro r w1 ⟨rfl, hw⟩; subst w1))
  go_ret
  exact ⟨rfl, rfl⟩
theorem piece_no (b : ByteArray) (p n : Nat) (w : World) (hp : p < 18446744073709551616) (hn : n < 18446744073709551616) (h : ¬ (p ≤ b.size ∧ n ≤ b.size - p)) (hm : b.size ≤ maxLen) :
    Calls Tryd.prog 22 #[.string b, .int .u64 p, .int .u64 n] w fun r w' => r = .panicked (gives 54) ∧ w' = w := by
  unfold maxLen at hm
  by_cases h1 : p ≤ b.size
  · have h2 : b.size - p < n := by omega
    go_enter Tryd.func22, Tryd.ntmps22
    go_wp2_with (first | (go_at_call 20; refine (require_no _ _ _ (by first | rfl | exact decide_eq_false (by omega))).mono ?_; rintro r w1 ⟨rfl, hw⟩; subst w1))
    exact ⟨rfl, rfl, rfl⟩
  · have h2 : b.size < p := by omega
    go_enter Tryd.func22, Tryd.ntmps22
    go_wp2_with (first | (go_at_call 20; refine (require_no _ _ _ (by first | rfl | exact decide_eq_false (by omega))).mono ?_; rintro r w1 ⟨rfl, hw⟩; subst w1))
    exact ⟨rfl, rfl, rfl⟩
end Go.Proofs.YtoikagccopglkaaDoor
