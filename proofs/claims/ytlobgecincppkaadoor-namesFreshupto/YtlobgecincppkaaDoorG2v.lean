
-- shelflaw8.valid.
import Derived.Test.YtlobgecincppkaaDoorB1
namespace Go.Proofs.YtlobgecincppkaaDoor
open Go.ChangeShapes Go.WideShapes Go.ChangeAt Go.RowKit
set_option linter.unusedVariables false
set_option maxRecDepth 100000

end Go.Proofs.YtlobgecincppkaaDoor
