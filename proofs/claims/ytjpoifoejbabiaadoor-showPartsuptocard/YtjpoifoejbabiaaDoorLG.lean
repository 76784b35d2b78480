
-- longer, unchanged.
import Derived.Test.YtjpoifoejbabiaaDoorPS
import Derived.Test.YtjpoifoejbabiaaDoorQX
import Derived.Deep.Cut
import Derived.Laws.AppendOwnNone
namespace Go.Proofs.YtjpoifoejbabiaaDoor
open Go.ChangeShapes Go.WideShapes Go.ChangeAt Go.RowKit
set_option linter.unusedVariables false
set_option maxRecDepth 100000
set_option linter.unusedSimpArgs false
def behM : Mx := ⟨0, 0, 0, 0, ⟨#[98, 101, 104, 105, 110, 100]⟩, 0, ⟨#[]⟩⟩
end Go.Proofs.YtjpoifoejbabiaaDoor
