-- Bytes of a string as a list.
import Derived.Test.YthdgkghefjnfgabDoorShelf
import Derived.Test.YthdgkghefjnfgabDoorRows
import Derived.Test.YthdgkghefjnfgabDoorWords
import Derived.Test.YthdgkghefjnfgabDoorQuote
import Derived.WalkKit
import Derived.ProofKit
import Derived.WalkLawsBesides
import Derived.Lib.IndexBytes
import Derived.Lib.OthersKept
import Derived.Handy
import Derived.BigQuiet
import Derived.Deep.RegionWith
namespace Go.Proofs.YthdgkghefjnfgabDoor
open Go.RowKit
set_option linter.unusedVariables false
theorem idxq (s : ByteArray) (k : Nat) (h : k < s.size) : ∀ w, (Instr.index 9 (.string s) (.int .i64 (k : Int))).run Tryd.prog w = .ok (.int .u8 (s[k].toNat : Int)) w := by
  intro w
  rw [run_index_string w 9 s .i64 k Tryd.underlying9, dif_pos (by omega)]
  simp
def lsq (s : ByteArray) : List UInt8 := s.data.toList
theorem lsq_len (s : ByteArray) : (lsq s).length = s.size := by simp [lsq]
theorem dropq (s : ByteArray) (k : Nat) (h : k < s.size) : (lsq s).drop k ≠ [] := by
  intro e
  have := congrArg List.length e
  rw [List.length_drop, lsq_len] at this
  simp at this; omega
theorem sliceq (s : ByteArray) (k : Nat) : lsq (s.extract k s.size) = (lsq s).drop k := by
  simp [lsq]
  exact List.take_of_length_le (by simp)
theorem dec1 (s : ByteArray) (k : Nat) : (Utf8.decode s k).1 = valL ((lsq s).drop k) := by rw [decode_dec]; rfl
theorem dec2 (s : ByteArray) (k : Nat) (h : k < s.size) : (Utf8.decode s k).2 = wid ((lsq s).drop k) := by rw [decode_dec]; exact dec_wid _ (dropq s k h)
theorem wid_in (s : ByteArray) (k : Nat) (h : k < s.size) : k + wid ((lsq s).drop k) ≤ s.size := by
  have := wid_le _ (dropq s k h)
  rw [List.length_drop, lsq_len] at this; omega
theorem drop_wid (s : ByteArray) (k : Nat) : ((lsq s).drop k).drop (wid ((lsq s).drop k)) = (lsq s).drop (k + wid ((lsq s).drop k)) := List.drop_drop ..
end Go.Proofs.YthdgkghefjnfgabDoor
