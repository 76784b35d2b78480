
-- The first letter's width, by the library's tables.
import Derived.Test.YtmhamlhmmkbkaaaDoorLB
import Derived.Shelf.Unicode.DecodeSlow
namespace Go.Proofs.YtmhamlhmmkbkaaaDoor
open Go.ChangeShapes Go.WideShapes Go.ChangeAt Go.RowKit
set_option linter.unusedVariables false
set_option maxRecDepth 100000
set_option linter.unusedSimpArgs false
def TabU (w : World) : Prop := Lib.Utf8Tabs 1 2 w
theorem TabU.on {w w' : World} (h : TabU w) (hb : Below w.heap.size w w') : TabU w' := Go.Proofs.Utf8Tabs_below h hb
/-- what the library's reader of one letter answers -/
def DrOk : Prop := ∀ (s : ByteArray) (w : World), TabU w → Calls Tryd.prog 57 #[.string s] w fun e w' => e = .returned (.tuple #[.int .i32 (Lib.decodeGo s).1, .int .i64 (Lib.decodeGo s).2]) ∧ Below w.heap.size w w'
theorem dec_1 (s : ByteArray) (k : Nat) : (Utf8.decode s k).1 = valL ((byL s).drop k) := by rw [decode_dec]; rfl
theorem dropB_ne (s : ByteArray) (k : Nat) (h : k < s.size) : (byL s).drop k ≠ [] := by
  intro e
  have := congrArg List.length e
  rw [List.length_drop, byL_size] at this
  simp at this; omega
theorem dec_2 (s : ByteArray) (k : Nat) (h : k < s.size) : (Utf8.decode s k).2 = wid ((byL s).drop k) := by rw [decode_dec]; exact dec_wid _ (dropB_ne s k h)
theorem widB_in (s : ByteArray) (k : Nat) (h : k < s.size) : k + wid ((byL s).drop k) ≤ s.size := by
  have := wid_le _ (dropB_ne s k h)
  rw [List.length_drop, byL_size] at this; omega
theorem cutB (s : ByteArray) (k : Nat) : byL (s.extract k s.size) = (byL s).drop k := by
  simp [byL]
  exact List.take_of_length_le (by simp)
theorem headB (s : ByteArray) (n : Nat) : s.extract 0 n = byB ((byL s).take n) := by
  apply ByteArray.ext
  simp [byB, byL]
  try (apply Array.ext'; simp)
set_option maxHeartbeats 1000000 in
theorem first_c (HD : DrOk) (s : ByteArray) (w : World) (hT : TabU w) (hs : 0 < s.size) :
    Calls Tryd.prog 53 #[.string s] w fun e w' => e = .returned (.string (byB ((byL s).take (wid (byL s))))) ∧ Below w.heap.size w w' := by
  have hw := widB_in s 0 hs
  have h2 := dec_2 s 0 hs
  simp only [List.drop_zero] at hw h2
  have e1 : Lib.decodeGo s = Utf8.decode s 0 := by unfold Lib.decodeGo; rw [if_neg (by omega)]
  have HC := hidK (HD s w hT)
  rw [e1, h2] at HC
  have hx := hidK (headB s (wid (byL s)))
  obtain ⟨n, hn⟩ : ∃ n, n = wid (byL s) := ⟨_, rfl⟩
  rw [← hn] at hw HC hx ⊢
  clear hn h2 e1 hT HD
  go_enter Tryd.func53, Tryd.ntmps53
  go_wp2_with (go_at_call 57; refine HC.out.mono ?_; rintro e w1 ⟨rfl, b1⟩)
  go_ret
  refine ⟨?_, b1⟩
  rw [← hx.out]
  rfl
end Go.Proofs.YtmhamlhmmkbkaaaDoor
