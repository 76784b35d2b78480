
-- shelfref8.Look, Inline: contracts.
import Derived.Test.YtlobgecincppkaaDoorB1
import Derived.Deep.QuietTactic
import Derived.BigQuiet
namespace Go.Proofs.YtlobgecincppkaaDoor
open Go.ChangeShapes Go.WideShapes Go.ChangeAt Go.RowKit
set_option linter.unusedVariables false
set_option maxRecDepth 100000

theorem slice_mid (s : ByteArray) (a b : Nat) (h : a ≤ b) (hb : b ≤ s.size) : ∀ w, (Instr.slice 9 (.string s) (some (.int .i64 (a : Int))) (some (.int .i64 (b : Int))) none).run Tryd.prog w = .ok (.string (strL ((s.data.toList.drop a).take (b - a)))) w := by
  intro w
  rw [run_slice_string w 9 s .i64 .i64 a b Tryd.underlying9 (by omega) (by omega) (by omega), Int.toNat_natCast, Int.toNat_natCast, Lib.extract_eq]; rfl
theorem slice_to (s : ByteArray) (k : Nat) (h : k ≤ s.size) : ∀ w, (Instr.slice 9 (.string s) none (some (.int .i64 (k : Int))) none).run Tryd.prog w = .ok (.string (strL (s.data.toList.take k))) w := by
  intro w
  rw [run_slice_string_to_if w 9 s .i64 k Tryd.underlying9, if_pos (by omega), Int.toNat_natCast, Lib.extract_upto]; rfl
theorem slice_at (s : ByteArray) (k : Nat) (h : k ≤ s.size) : ∀ w, (Instr.slice 9 (.string s) (some (.int .i64 (k : Int))) none none).run Tryd.prog w = .ok (.string (strL (s.data.toList.drop k))) w := by
  intro w
  rw [run_slice_string_from_if w 9 s .i64 _ Tryd.underlying9, if_pos (by omega), Int.toNat_natCast, Lib.extract_from]; rfl
def noSep (l : List UInt8) (a k : Nat) : Prop := ∀ j, a ≤ j → j < k → ¬ sepAt l j
theorem noSep_next (s : ByteArray) (a k : Nat) (h : k + 1 < s.size) (hd : noSep s.data.toList a k) (hc : ¬ (s[k].toNat = 47 ∧ s[k + 1].toNat = 10)) : noSep s.data.toList a (k + 1) := by
  intro j ha hj
  by_cases e : j = k
  · subst e
    rintro ⟨h1, h2⟩
    rw [at_some s j (by omega)] at h1
    rw [at_some s (j + 1) h] at h2
    injection h1 with h1
    injection h2 with h2
    exact hc ⟨by rw [h1]; rfl, by rw [h2]; rfl⟩
  · exact hd j ha (by omega)
theorem sep_here (s : ByteArray) (k : Nat) (h : k + 1 < s.size) (h1 : s[k].toNat = 47) (h2 : s[k + 1].toNat = 10) : sepAt s.data.toList k := by
  refine ⟨?_, ?_⟩
  · rw [at_some s k (by omega), show s[k] = 47 from UInt8.toNat_inj.1 h1]
  · rw [at_some s (k + 1) h, show s[k + 1] = 10 from UInt8.toNat_inj.1 h2]
theorem noSep_end (s : ByteArray) (a k : Nat) (h : ¬ k + 1 < s.size) (hd : noSep s.data.toList a k) : firstSep s.data.toList a = none := by
  have hl : s.data.toList.length = s.size := by simp
  refine firstSep_no _ _ (fun j ha hs => ?_)
  by_cases hj : j < k
  · exact hd j ha hj hs
  · have := (List.getElem?_eq_some_iff.1 hs.2).1
    omega
theorem look_hit (s : ByteArray) (a k : Nat) (ha : a ≤ k) (hk : a < s.size) (h : sepAt s.data.toList k) (hd : noSep s.data.toList a k) (b : Bool) (hb : validL ((s.data.toList.drop a).take (k - a)) = b) :
    lookL s.data.toList a = if b then (strL ((s.data.toList.drop a).take (k - a)), 0) else (ByteArray.empty, 80) := by
  have hl : s.data.toList.length = s.size := by simp
  unfold lookL
  rw [if_neg (by omega), Int.toNat_natCast, firstSep_at _ _ k ha h hd]
  show (if validL _ = true then _ else _) = _
  rw [hb]
theorem look_none (s : ByteArray) (a : Nat) (h : firstSep s.data.toList a = none) : lookL s.data.toList a = (ByteArray.empty, 81) := by
  unfold lookL
  split
  · rfl
  · rw [Int.toNat_natCast, h]
end Go.Proofs.YtlobgecincppkaaDoor
