
-- shelfref8.Valid, KindOf, digits: contracts.
import Derived.Test.YtmlnnbinbbmmhaaDoorRows
import Derived.Test.YtmlnnbinbbmmhaaDoorB0
import Derived.WalkKit
import Derived.ProofKit
import Derived.WalkLawsBesides
import Derived.Lib.IndexBytes
namespace Go.Proofs.YtmlnnbinbbmmhaaDoor
open Go.ChangeShapes Go.WideShapes Go.ChangeAt Go.RowKit
set_option linter.unusedVariables false
set_option maxRecDepth 100000

theorem idx (s : ByteArray) (k : Nat) (h : k < s.size) : ∀ w, (Instr.index 9 (.string s) (.int .i64 (k : Int))).run Tryd.prog w = .ok (.int .u8 (s[k].toNat : Int)) w := by
  intro w
  rw [run_index_string w 9 s .i64 k Tryd.underlying9, dif_pos (by omega)]
  simp
theorem at_some (s : ByteArray) (k : Nat) (h : k < s.size) : s.data.toList[k]? = some s[k] := by
  have hl : s.data.toList.length = s.size := by simp
  rw [List.getElem?_eq_getElem (by omega)]; rfl
theorem u8_lt' (x : UInt8) : x.toNat < 256 := x.toNat_lt
def okUp (l : List UInt8) (k : Nat) : Prop := ∀ (j : Nat) (c : UInt8), j < k → l[j]? = some c → ¬ c.toNat = 47 ∧ ¬ c.toNat = 0
theorem okUp_next (s : ByteArray) (k : Nat) (h : k < s.size) (hd : okUp s.data.toList k) (h1 : ¬ s[k].toNat = 47) (h2 : ¬ s[k].toNat = 0) : okUp s.data.toList (k + 1) := by
  intro j c hj hc
  by_cases e : j = k
  · subst e; rw [at_some s j h] at hc; injection hc with hc; rw [← hc]; exact ⟨h1, h2⟩
  · exact hd j c (by omega) hc
theorem okUp_end (s : ByteArray) (hd : okUp s.data.toList s.size) : validL s.data.toList = !s.data.toList.isEmpty := by
  refine validL_yes _ (fun j c hc => hd j c ?_ hc)
  have hl : s.data.toList.length = s.size := by simp
  have := (List.getElem?_eq_some_iff.1 hc).1
  omega
set_option maxHeartbeats 1000000 in
theorem rvalid_c (s : ByteArray) (w : World) (hm : s.size ≤ maxLen) :
    Calls Tryd.prog 52 #[.string s] w fun e w' => e = .returned (.bool (validL s.data.toList)) ∧ w' = w := by
  unfold maxLen at hm
  go_enter Tryd.func52, Tryd.ntmps52
  go_wp2
  go_loop [3] (fun i => ∃ k : Nat, k ≤ s.size ∧ i = .int .i64 k ∧ okUp s.data.toList k) (fun i => s.size - (intOf i).toNat)
  case atStart => exact ⟨0, Nat.zero_le _, rfl, fun j c hj => absurd hj (Nat.not_lt_zero _)⟩
  case round =>
    obtain ⟨k, hk, rfl, hd⟩ := hrel
    have HD : Hid (okUp s.data.toList k) := hd
    clear hd
    by_cases hlt : k < s.size
    · have hidx := idx s k hlt
      have hat : Hid (s.data.toList[k]? = some s[k]) := at_some s k hlt
      by_cases h1 : s[k].toNat = 47
      · have c1 : ((s[k].toNat : Int) == 47) = true := by simp; omega
        have HV : Hid (validL s.data.toList = false) := validL_no _ k _ hat.out (Or.inl h1)
        clear h1
        go_wp2
        go_ret
        exact ⟨by rw [HV.out]; rfl, rfl⟩
      · have c1 : ((s[k].toNat : Int) == 47) = false := by simp; omega
        by_cases h2 : s[k].toNat = 0
        · have c2 : ((s[k].toNat : Int) == 0) = true := by simp; omega
          have HV : Hid (validL s.data.toList = false) := validL_no _ k _ hat.out (Or.inr h2)
          clear h1 h2
          go_wp2
          go_ret
          exact ⟨by rw [HV.out]; rfl, rfl⟩
        · have c2 : ((s[k].toNat : Int) == 0) = false := by simp; omega
          have HN : Hid (¬ s[k].toNat = 47 ∧ ¬ s[k].toNat = 0) := ⟨h1, h2⟩
          clear h1 h2
          go_wp2
          go_round
          case rel => exact ⟨k + 1, by omega, by go_num, okUp_next s k hlt HD.out HN.out.1 HN.out.2⟩
          case measure => simp [intOf]; omega
    · obtain rfl : k = s.size := by omega
      have HV : Hid (validL s.data.toList = !s.data.toList.isEmpty) := okUp_end s HD.out
      by_cases h0 : s.toList = []
      · have h0' : s.toList.isEmpty = true := by rw [h0]; rfl
        have HE : Hid (s.data.toList.isEmpty = true) := by show _ = true; rw [← Lib.toList_data]; exact h0'
        go_wp2
        go_ret
        exact ⟨by rw [HV.out, HE.out]; rfl, rfl⟩
      · have h0' : s.toList.isEmpty = false := by simpa using h0
        have e1 : (s.toList != []) = true := by simpa using h0
        have e0 : (s.toList == []) = false := by simpa using h0
        have HE : Hid (s.data.toList.isEmpty = false) := by show _ = false; rw [← Lib.toList_data]; exact h0'
        clear h0
        go_wp2
        go_ret
        exact ⟨by rw [HV.out, HE.out]; rfl, rfl⟩
end Go.Proofs.YtmlnnbinbbmmhaaDoor
