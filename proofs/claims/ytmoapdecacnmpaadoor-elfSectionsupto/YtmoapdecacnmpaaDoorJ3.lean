
-- Two lists of sections are the same: the statement's same.
import Derived.Test.YtmoapdecacnmpaaDoorJ2
import Derived.Test.YtmoapdecacnmpaaDoorSM
namespace Go.Proofs.YtmoapdecacnmpaaDoor
open Go.ChangeShapes Go.WideShapes Go.ChangeAt Go.RowKit
set_option linter.unusedVariables false
theorem secsAt_of {B : Nat} {w : World} {v : Value} {n : Nat} {s : Nat → Sec} (h : SecsIn B w v n s) : SecsAt w v n (fun i => (s i).v) := by
  obtain ⟨ao, c, hv, hr⟩ := h
  refine ⟨ao, c, hv, fun hn => ?_⟩
  obtain ⟨g, cur, h1, _, h3, h4⟩ := hr hn
  refine ⟨g, h1, fun i m hi hm => ?_⟩
  rw [cell_of_row _ _ _ _ _ _ h3]
  exact h4 i m hi hm
theorem same_secs (B C : Nat) (a b : Value) (n : Nat) (s : Nat → Sec) (w : World) (hn : n ≤ 26214) (ha : SecsIn B w a n s) (hb : SecsIn C w b n s) :
    Calls Tryd.prog 13 #[a, b] w fun r w' => r = .returned (.bool true) ∧ Dr w w' :=
  same_c a b n _ w (fun i => ⟨_, _, _, _, _, _, _, _, rfl⟩) (by omega) (secsAt_of ha) (secsAt_of hb)
end Go.Proofs.YtmoapdecacnmpaaDoor
