
-- The document's own runes: plain, asHex, one.
import Derived.Test.YtjpoifoejbabiaaDoorF3
import Derived.Test.YtjpoifoejbabiaaDoorConv
import Derived.BigRegion
import Derived.RegionTactic
import Derived.WalkSpells
namespace Go.Proofs.YtjpoifoejbabiaaDoor
open Go.RowKit
set_option linter.unusedVariables false
set_option maxRecDepth 100000
end Go.Proofs.YtjpoifoejbabiaaDoor
