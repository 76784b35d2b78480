
-- IndexDecode's walk.
import Derived.Test.YtcmldlcdgmmafaaDoorRD
import Derived.Test.YtcmldlcdgmmafaaDoorSE
import Derived.Test.YtcmldlcdgmmafaaDoorDL
import Derived.Test.YtcmldlcdgmmafaaDoorNS
namespace Go.Proofs.YtcmldlcdgmmafaaDoor
open Go.ChangeShapes Go.WideShapes Go.ChangeAt Go.RowKit
set_option linter.unusedVariables false
set_option maxRecDepth 100000
theorem cellsE_le {w : World} {B : Nat} {v : Value} {L : List En} (h : w.ownsRow B 64 2 v L.length (cellsE L)) : L.length ≤ maxLen := by
  rcases h.2 with ⟨_, h0⟩ | ⟨g, cap, cur, rfl, hg, hr, hc, hm, hs, ht⟩
  · rw [h0]; exact Nat.zero_le _
  · exact Nat.le_trans hc hm
set_option maxHeartbeats 4000000 in
theorem indexDecode_w (f : Int) (s : ByteArray) (w : World) (hm : s.size ≤ 1048576) (hX : MaxLenAt w) :
    Calls Tryd.prog 4 #[.int .i64 f, .string s] w fun e w' => e = .returned (.bool true) ∧ Below w.heap.size w w' := by
  have hL : (decL f s.data.toList).length < 4294967296 := by
    have h1 := decL_len f s.data.toList
    have h2 : s.data.toList.length = s.size := by simp
    omega
  have HP : Hid (Calls Tryd.prog 10 #[.int .i64 f, .string s] w fun e w' => DecSays (decE f s.data.toList) (decL f s.data.toList) w e w') := pdec_c f s w (by omega) hX
  have HR : Hid (∀ w, Calls Tryd.prog 11 #[.int .i64 f, .string s] w fun e w' => DecSays (decE f s.data.toList) (decL f s.data.toList) w e w') := fun w => rdec_c f s w (by omega)
  generalize decE f s.data.toList = E at *
  generalize decL f s.data.toList = L at *
  have HS : Hid (∀ v1 v2 w, RowE w v1 L → RowE w v2 L → Calls Tryd.prog 12 #[v1, v2] w fun e w' => e = .returned (.bool true) ∧ ∃ m, w' = w.drewN m) := fun v1 v2 w h1 h2 => same11_c v1 v2 L w h1 h2 hL
  have HU : Hid (∀ n w, Calls Tryd.prog 9 #[.int .i64 n] w fun e w' => e = .returned (.int .i64 n) ∧ w' = w) := fun n w => num_cN n w
  clear hX hm hL
  go_enter Tryd.func4, Tryd.ntmps4
  go_wp2_with (first
    | (go_at_call 10; refine HP.out.mono ?_; rintro e w1 ⟨a1, n1, c1, rfl, o1, b1⟩)
    | (go_at_call 11; refine (HR.out _).mono ?_; rintro e w2 ⟨a2, n2, c2, rfl, o2, b2⟩; have O1 := hidK (rowE_own (own_onK o1 b2)); have O2 := hidK (rowE_own o2); have B2 := bel3K b1 b2; clear o1 o2)
    | (go_at_call 12; refine (HS.out _ _ _ O1.out O2.out).mono ?_; rintro e w3 ⟨rfl, m, rfl⟩)
    | (go_at_call 9; refine (HU.out _ _).mono ?_; rintro e w4 ⟨rfl, rfl⟩))
  go_ret
  exact ⟨rfl, below_drewK B2 _⟩
end Go.Proofs.YtcmldlcdgmmafaaDoor
