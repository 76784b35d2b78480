
-- shelflaw8.valid.
import Derived.Test.YtnplblficibkcaaDoorB1
namespace Go.Proofs.YtnplblficibkcaaDoor
open Go.ChangeShapes Go.WideShapes Go.ChangeAt Go.RowKit
set_option linter.unusedVariables false
set_option maxRecDepth 100000

end Go.Proofs.YtnplblficibkcaaDoor
