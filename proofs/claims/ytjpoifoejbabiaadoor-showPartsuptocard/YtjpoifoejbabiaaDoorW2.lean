
import Derived.Test.YtjpoifoejbabiaaDoorW1
import Derived.Lib.UnsafeStr
import Derived.Laws.IdiomStrings
import Derived.Laws.BytesArg
namespace Go.Proofs.YtjpoifoejbabiaaDoor
open Go.RowKit
set_option linter.unusedVariables false
set_option maxRecDepth 100000
def lst (s : ByteArray) : List UInt8 := s.data.toList
theorem lst_len (s : ByteArray) : (lst s).length = s.size := by simp [lst]
theorem drop_at (s : ByteArray) (k : Nat) (h : k < s.size) : (lst s).drop k = s[k] :: (lst s).drop (k + 1) := by
  have hl := lst_len s
  rw [List.drop_eq_getElem_cons (by omega)]; rfl
theorem drop_end (s : ByteArray) : (lst s).drop s.size = [] := List.drop_eq_nil_of_le (by rw [lst_len]; exact Nat.le_refl _)
/-- A word is whole where a parting byte or the line's end stands. -/
theorem scan_close (s : ByteArray) (k : Nat) (hk : k ≤ s.size) (hp : ∀ h : k < s.size, partsB s[k] = true) (wd : List UInt8) (ws : List ByteArray) :
    scanL ((lst s).drop k) k none true wd ws = scanL ((lst s).drop k) k none false [] (ws ++ [strB wd]) := by
  by_cases h : k < s.size
  · rw [drop_at s k h, scan_part _ _ _ _ _ (hp h), scan_part _ _ _ _ _ (hp h)]; simp [endW]
  · obtain rfl : k = s.size := by omega
    rw [drop_end, scan_nil, scan_nil]; simp [endW]
theorem conv_own (w : World) (base : Nat) (v : Value) (l : List UInt8) (h : w.ownsRow base 5 1 v l.length (Lib.byteCells l)) :
    (convert 37 9 v).run Tryd.prog w = .ok (.string (strB l)) w := by
  rcases h.2 with ⟨rfl, h0⟩ | ⟨g, cap, cur, rfl, _⟩
  · have : l = [] := List.eq_nil_of_length_eq_zero h0
    subst this
    exact run_convert_bytes_nil w 37 5 Tryd.underlying37 Tryd.underlying5 0 0 9 Tryd.underlying9
  · refine run_convert_bytes_back w 37 9 5 ⟨g, 0, none⟩ cap l Tryd.underlying37 Tryd.underlying5 Tryd.underlying9 (fun j hj => ?_)
    exact h.cells (g := g) rfl j _ (by simp [Lib.byteCells, hj])
theorem info5 : (Tryd.prog.info? 5).map (fun i => (i.zero, i.size, i.bytes)) = some (some (.int .u8 0), 1, 1) := by kernel_rfl
/-- What stands of the line behind the escape. -/
theorem slice_from (s : ByteArray) (k : Nat) (h : k < s.size) : (s.extract k s.size).data.toList = s[k] :: (lst s).drop (k + 1) := by
  rw [← drop_at s k h]
  simp [lst]
  exact List.take_of_length_le (by simp)
end Go.Proofs.YtjpoifoejbabiaaDoor
