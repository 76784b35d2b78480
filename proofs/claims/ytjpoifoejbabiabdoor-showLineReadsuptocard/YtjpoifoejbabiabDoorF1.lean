
-- The document's own runes: forms, fits, runAt.
import Derived.Test.YtjpoifoejbabiabDoorQ4
namespace Go.Proofs.YtjpoifoejbabiabDoor
open Go.RowKit
set_option linter.unusedVariables false
set_option maxRecDepth 100000
/-- A form's cells. -/
def formC (n l0 h0 l1 h1 l2 h2 l3 h3 : Int) : Array Value := #[.int .i64 n, .int .u8 l0, .int .u8 h0, .int .u8 l1, .int .u8 h1, .int .u8 l2, .int .u8 h2, .int .u8 l3, .int .u8 h3]
set_option maxHeartbeats 1000000 in
theorem forms_c (w : World) : Calls Tryd.prog 75 #[] w fun e w' => e = .returned (.slice (some ⟨w.heap.size + 1, 0, none⟩) 9 9) ∧
    w' = (w.alloc (.cells #[.int .u8 128, .int .u8 191] 100)).alloc (.cells (formC 1 0 127 0 0 0 0 0 0 ++ formC 2 194 223 128 191 0 0 0 0 ++ formC 3 224 224 160 191 128 191 0 0 ++ formC 3 225 236 128 191 128 191 0 0 ++ formC 3 238 239 128 191 128 191 0 0 ++ formC 3 237 237 128 159 128 191 0 0 ++ formC 4 240 240 144 191 128 191 128 191 ++ formC 4 241 243 128 191 128 191 128 191 ++ formC 4 244 244 128 143 128 191 128 191) 103) := by
  go_enter Tryd.func75, Tryd.ntmps75
  go_wp2
  go_ret
  exact ⟨rfl, rfl⟩
end Go.Proofs.YtjpoifoejbabiabDoor
