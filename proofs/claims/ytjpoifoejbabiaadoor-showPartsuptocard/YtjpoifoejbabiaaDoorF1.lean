
-- The document's own runes: forms, fits, runAt.
import Derived.Test.YtjpoifoejbabiaaDoorQ4
namespace Go.Proofs.YtjpoifoejbabiaaDoor
open Go.RowKit
set_option linter.unusedVariables false
set_option maxRecDepth 100000
/-- A form's cells. -/
def formC (n l0 h0 l1 h1 l2 h2 l3 h3 : Int) : Array Value := #[.int .i64 n, .int .u8 l0, .int .u8 h0, .int .u8 l1, .int .u8 h1, .int .u8 l2, .int .u8 h2, .int .u8 l3, .int .u8 h3]
end Go.Proofs.YtjpoifoejbabiaaDoor
