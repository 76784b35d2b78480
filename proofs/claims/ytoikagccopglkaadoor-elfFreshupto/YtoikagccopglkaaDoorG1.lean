
-- elf.Ident: contracts.
import Derived.Test.YtoikagccopglkaaDoorC5
namespace Go.Proofs.YtoikagccopglkaaDoor
open Go.ChangeShapes Go.WideShapes Go.ChangeAt Go.RowKit
set_option linter.unusedVariables false
set_option maxRecDepth 100000
end Go.Proofs.YtoikagccopglkaaDoor
