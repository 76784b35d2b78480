
-- IndexFind's walk.
import Derived.Test.YtcmldlcdgmmafaaDoorFR
import Derived.Test.YtcmldlcdgmmafaaDoorRD
import Derived.Test.YtcmldlcdgmmafaaDoorDL
import Derived.Test.YtcmldlcdgmmafaaDoorNS
namespace Go.Proofs.YtcmldlcdgmmafaaDoor
open Go.ChangeShapes Go.WideShapes Go.ChangeAt Go.RowKit
set_option linter.unusedVariables false
set_option maxRecDepth 100000
set_option maxHeartbeats 4000000 in
theorem indexFind_w (f : Int) (s nm : ByteArray) (w : World) (hm : s.size ≤ 1048576) (hX : MaxLenAt w) :
    Calls Tryd.prog 5 #[.int .i64 f, .string s, .string nm] w fun e w' => e = .returned (.bool true) ∧ Below w.heap.size w w' := by
  have hL : (decL f s.data.toList).length < 4294967296 := by
    have h1 := decL_len f s.data.toList
    have h2 : s.data.toList.length = s.size := by simp
    omega
  have HP : Hid (Calls Tryd.prog 13 #[.int .i64 f, .string s, .string nm] w fun e w' => FdSays (decE f s.data.toList) (decL f s.data.toList) nm w e w') := pfind_c f s nm _ _ w hL (fun w' hb => pdec_c f s w' (by omega) (hX.on hb))
  have HR : Hid (∀ w, Calls Tryd.prog 14 #[.int .i64 f, .string s, .string nm] w fun e w' => FdSays (decE f s.data.toList) (decL f s.data.toList) nm w e w') := fun w => rfind_c f s nm _ _ w hL (rdec_c f s w (by omega))
  unfold FdSays at HP HR
  generalize fdE (decE f s.data.toList) (decL f s.data.toList) nm = E at *
  generalize fdN (decE f s.data.toList) (decL f s.data.toList) nm = N at *
  have HU : Hid (∀ n w, Calls Tryd.prog 9 #[.int .i64 n] w fun e w' => e = .returned (.int .i64 n) ∧ w' = w) := fun n w => num_cN n w
  clear hX hm hL
  go_enter Tryd.func5, Tryd.ntmps5
  go_wp2_with (first
    | (go_at_call 13; refine HP.out.mono ?_; rintro e w1 ⟨rfl, b1⟩)
    | (go_at_call 14; refine (HR.out _).mono ?_; rintro e w2 ⟨rfl, b2⟩)
    | (go_at_call 9; refine (HU.out _ _).mono ?_; rintro e w4 ⟨rfl, rfl⟩))
  go_ret
  exact ⟨rfl, bel3K b1 b2⟩
end Go.Proofs.YtcmldlcdgmmafaaDoor
