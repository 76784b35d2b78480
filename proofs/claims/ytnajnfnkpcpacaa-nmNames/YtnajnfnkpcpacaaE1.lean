
-- api.texts.
import Derived.Test.YtnajnfnkpcpacaaE0
import Derived.Test.YtnajnfnkpcpacaaA1
import Derived.Great.BuildSlice
namespace Go.Proofs.Ytnajnfnkpcpacaa
open Go.RowKit
set_option linter.unusedVariables false
set_option maxRecDepth 100000
def sdL (p : Int × ByteArray) : List Value := [.int .i64 p.1, .string p.2]
theorem infoSd : (Try.prog.info? 46).map (fun i => (i.zero, i.size, i.bytes)) = some (some (.agg #[.int .i64 0, .string ⟨#[]⟩]), 2, 24) := by kernel_rfl
set_option maxHeartbeats 4000000 in
theorem texts_c (w : World) : Calls Try.prog 17 #[] w fun e w' => e = .returned (.slice (some ⟨w.heap.size, 0, none⟩) 69 69) ∧ w' = w.alloc (.cells (said.flatMap sdL).toArray 46) := by
  obtain ⟨i0, hi, hz0, hz1, hz2⟩ := info_parts infoSd
  go_enter Try.func17, Try.ntmps17
  go_wp2
  refine wp_buildSlice 43 46 69 _ rfl (said.flatMap sdL).toArray i0 (.agg #[.int .i64 0, .string ⟨#[]⟩]) Try.underlying43 hi hz0 (by rw [hz1]; decide) (by rw [hz1]; decide) (by rw [hz1]; kernel_rfl) ?_
  go_wp2
  go_ret
  exact ⟨rfl, rfl⟩
end Go.Proofs.Ytnajnfnkpcpacaa
