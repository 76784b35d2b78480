
-- ShowMessage's walk, over any Message that tells so.
import Derived.Test.YtjpoifoejbabiaaGT
import Derived.Deep.Cut
namespace Go.Proofs.Ytjpoifoejbabiaa
open Go.ChangeShapes Go.WideShapes Go.ChangeAt Go.RowKit
set_option linter.unusedVariables false
set_option maxRecDepth 100000
set_option linter.unusedSimpArgs false
def MessageOk (f : Nat) : Prop := ∀ (p : Int) (q : ByteArray) (c : Int) (w : World), q.size ≤ 2097152 → Calls Try.prog f #[.int .i64 p, .string q, .int .i64 c] w fun e w' => e = .returned (.string (strB (msgL p q c))) ∧ Below w.heap.size w w'
set_option maxHeartbeats 4000000 in
theorem showMessage_w (HP0 : MessageOk 9) (HR0 : MessageOk 14) (p : Int) (q : ByteArray) (c : Int) (w : World) (hq : q.size ≤ 1048576) :
    Calls Try.prog 6 #[.int .i64 p, .string q, .int .i64 c] w fun e w' => e = .returned (.bool true) ∧ Below w.heap.size w w' := by
  obtain ⟨S, hS⟩ : ∃ S, S = strB (msgL p q c) := ⟨_, rfl⟩
  have HP : Hid (∀ w, Calls Try.prog 9 #[.int .i64 p, .string q, .int .i64 c] w fun e w' => e = .returned (.string S) ∧ Below w.heap.size w w') := fun w => by rw [hS]; exact HP0 p q c w (by omega)
  have HR : Hid (∀ w, Calls Try.prog 14 #[.int .i64 p, .string q, .int .i64 c] w fun e w' => e = .returned (.string S) ∧ Below w.heap.size w w') := fun w => by rw [hS]; exact HR0 p q c w (by omega)
  clear hS HP0 HR0
  go_enter Try.func6, Try.ntmps6
  go_wp2_with (first | (go_at_call 9; refine (HP.out _).mono ?_; rintro e w1 ⟨rfl, hb1⟩) | (go_at_call 14; refine (HR.out _).mono ?_; rintro e w2 ⟨rfl, hb2⟩))
  go_ret
  exact ⟨by simp, bel3K hb1 hb2⟩
end Go.Proofs.Ytjpoifoejbabiaa
