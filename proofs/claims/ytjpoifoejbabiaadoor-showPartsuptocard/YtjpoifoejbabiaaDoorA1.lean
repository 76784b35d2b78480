
-- twin, same: members.
import Derived.Test.YtjpoifoejbabiaaDoorA0
namespace Go.Proofs.YtjpoifoejbabiaaDoor
open Go.ChangeShapes Go.WideShapes Go.ChangeAt Go.RowKit
set_option linter.unusedVariables false
set_option maxRecDepth 100000
/-- one more behind a row -/
theorem own_push {B n : Nat} {w : World} {v : Value} {L : List Mx} {x : Mx} (hn : n = L.length) (h : w.ownsRow B 26 7 v (n + 1) (L.flatMap mxL ++ mxL x)) : OwnM B w v (L ++ [x]) := by
  unfold OwnM
  rw [List.length_append, List.flatMap_append, List.flatMap_cons, List.flatMap_nil, List.append_nil, ← hn]
  exact h
end Go.Proofs.YtjpoifoejbabiaaDoor
