
-- Two lists of sections are the same: the statement's same.
import Derived.Test.YtoikagccopglkaaDoorJ2
import Derived.Test.YtoikagccopglkaaDoorSM
namespace Go.Proofs.YtoikagccopglkaaDoor
open Go.ChangeShapes Go.WideShapes Go.ChangeAt Go.RowKit
set_option linter.unusedVariables false
set_option maxRecDepth 100000
theorem secsAt_of {B : Nat} {w : World} {v : Value} {n : Nat} {s : Nat → Sec} (h : SecsIn B w v n s) : SecsAt w v n (fun i => (s i).v) := by
  rcases h.2 with ⟨hv, hn⟩ | ⟨g, cap, cur, hv, hb, hg, h1, h2, h3, h4⟩
  · subst hn
    exact ⟨none, 0, hv, fun h => absurd h (Nat.lt_irrefl _)⟩
  · refine ⟨_, _, hv, fun _ => ⟨g, rfl, fun i m hi hm => ?_⟩⟩
    rw [cell_of_row _ _ _ _ _ _ hg, ← flat_get s n i m hi hm, ← h4, List.getElem?_take, if_pos (by omega), Array.getElem?_toList]
theorem same_secs (B C : Nat) (a b : Value) (n : Nat) (s : Nat → Sec) (w : World) (hn : n ≤ 26214) (ha : SecsIn B w a n s) (hb : SecsIn C w b n s) :
    Calls Tryd.prog 6 #[a, b] w fun r w' => r = .returned (.bool true) ∧ Dr w w' :=
  same_c a b n _ w (fun i => ⟨_, _, _, _, _, _, _, _, rfl⟩) (by omega) (secsAt_of ha) (secsAt_of hb)
end Go.Proofs.YtoikagccopglkaaDoor
