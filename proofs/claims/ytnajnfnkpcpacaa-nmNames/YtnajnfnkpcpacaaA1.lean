
-- twin, same: members.
import Derived.Test.YtnajnfnkpcpacaaA0
namespace Go.Proofs.Ytnajnfnkpcpacaa
open Go.ChangeShapes Go.WideShapes Go.ChangeAt Go.RowKit
set_option linter.unusedVariables false
set_option maxRecDepth 100000
end Go.Proofs.Ytnajnfnkpcpacaa
