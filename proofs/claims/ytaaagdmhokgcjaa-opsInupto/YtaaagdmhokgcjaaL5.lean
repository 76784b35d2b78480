
-- OpsIn: both ways.
import Derived.Test.YtaaagdmhokgcjaaL5a
import Derived.Test.YtaaagdmhokgcjaaL5b
namespace Go.Proofs.Ytaaagdmhokgcjaa
open Go.ChangeShapes Go.WideShapes Go.ChangeAt Go.RowKit
set_option linter.unusedVariables false
set_option maxRecDepth 100000
set_option linter.unusedSimpArgs false
theorem opsIn_w (v0 v1 : Value) (L M : List Mx) (pw : Int) (pa : ByteArray) (w : World) (h0 : RowM w v0 L) (h1 : RowM w v1 M) (hl : L.length ≤ 1048576) (hm : M.length ≤ 1048576) :
    Calls Try.prog 6 #[v0, v1, .agg #[.int .i64 pw, .string pa]] w fun e w' => e = .returned (.bool true) ∧ Below w.heap.size w w' := by
  cases h : ancB pw with
  | false => exact opsIn_a v0 v1 L M pw pa w h0 h1 hl hm h
  | true => exact opsIn_b v0 v1 L M pw pa w h0 h1 hl hm h
end Go.Proofs.Ytaaagdmhokgcjaa
