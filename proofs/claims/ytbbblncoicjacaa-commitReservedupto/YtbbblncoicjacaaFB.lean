
-- The statements' small functions: good, code, pieces, fileName, size.
import Derived.Test.YtbbblncoicjacaaFA
import Derived.Test.YtbbblncoicjacaaU9
namespace Go.Proofs.Ytbbblncoicjacaa
open Go.ChangeShapes Go.WideShapes Go.ChangeAt Go.RowKit
set_option linter.unusedVariables false
theorem good_c (c : Int) (w : World) : Calls Try.prog 5 #[.int .i64 c] w fun e w' => e = .returned (.bool (decide (0 ≤ c ∧ c ≤ 1073741824))) ∧ w' = w := by
  by_cases h0 : 0 ≤ c
  · by_cases h1 : c ≤ 1073741824
    all_goals
      go_enter Try.func5, Try.ntmps5
      go_wp2
      go_ret
      exact ⟨by simp [h0, h1], rfl⟩
  · go_enter Try.func5, Try.ntmps5
    go_wp2
    go_ret
    exact ⟨by simp; omega, rfl⟩
theorem assertFE16 (v : Value) (w : World) : (Instr.typeAssert (.iface 62 v) 35 62 true).run Try.prog w = .ok (.tuple #[v, .bool true]) w := by kernel_rfl
theorem idx16 (s : ByteArray) (k : Nat) (h : k < s.size) : ∀ w, (Instr.index 9 (.string s) (.int .i64 (k : Int))).run Try.prog w = .ok (.int .u8 (s[k].toNat : Int)) w := by
  intro w
  rw [run_index_string w 9 s .i64 k Try.underlying9, dif_pos (by omega)]
  simp
theorem all_at16 (s : ByteArray) (k : Nat) (h : k < s.size) : (s.data.toList.drop k).all okByte = (okByte s[k] && (s.data.toList.drop (k + 1)).all okByte) := by
  rw [List.drop_eq_getElem_cons (by simpa using h)]; rfl
set_option maxHeartbeats 4000000 in
theorem lawName_c (s : ByteArray) (w : World) (hs : s.size ≤ 140737488355328) : Calls Try.prog 9 #[.string s] w fun e w' => e = .returned (.bool (okName s)) ∧ w' = w := by
  go_enter Try.func9, Try.ntmps9
  go_wp2
  go_loop [3] (fun i => ∃ k : Nat, i = .int .i64 k ∧ k ≤ s.size ∧ s.data.toList.all okByte = (s.data.toList.drop k).all okByte) (fun i => s.size - (intOf i).toNat)
  case atStart => exact ⟨0, rfl, Nat.zero_le _, rfl⟩
  case round =>
    obtain ⟨k, rfl, hks, hE⟩ := hrel
    by_cases hk : k < s.size
    · have hidx := idx16 s k hk
      have b3 : decide ((k : Int) < (s.size : Int)) = true := by simp; omega
      rw [all_at16 s k hk] at hE
      obtain ⟨c, hc⟩ : ∃ c, c = s[k] := ⟨_, rfl⟩
      rw [← hc] at hidx hE
      have HE : Hid (s.data.toList.all okByte = (okByte c && (s.data.toList.drop (k + 1)).all okByte)) := hE
      clear hc hE
      by_cases c1 : c = 47
      · have b4 : ((c.toNat : Int) == 47) = true := by rw [c1]; rfl
        have HR : Hid (okName s = false) := by show _ = _; unfold okName; rw [HE.out, c1]; simp [okByte]
        have HC : Hid (c = 47) := c1
        clear c1
        go_wp2
        go_ret
        exact ⟨by rw [HR.out]; rfl, rfl⟩
      · have b4 : ((c.toNat : Int) == 47) = false := by
          have : c.toNat ≠ 47 := fun h => c1 (UInt8.toNat_inj.1 h)
          simp; omega
        by_cases c2 : c = 0
        · have b5 : ((c.toNat : Int) == 0) = true := by rw [c2]; rfl
          have HR : Hid (okName s = false) := by show _ = _; unfold okName; rw [HE.out, c2]; simp [okByte]
          have HC : Hid (c = 0) := c2
          clear c2
          go_wp2
          go_ret
          exact ⟨by rw [HR.out]; rfl, rfl⟩
        · have b5 : ((c.toNat : Int) == 0) = false := by
            have : c.toNat ≠ 0 := fun h => c2 (UInt8.toNat_inj.1 h)
            simp; omega
          have HR : Hid (s.data.toList.all okByte = (s.data.toList.drop (k + 1)).all okByte) := by show _ = _; rw [HE.out]; simp [okByte, c1, c2]
          go_wp2
          exact ⟨⟨k + 1, by go_num, by omega, HR.out⟩, by simp [intOf]; omega⟩
    · obtain rfl : k = s.size := by omega
      have b3 : decide ((s.size : Int) < (s.size : Int)) = false := by simp
      have hA : s.data.toList.all okByte = true := by
        rw [hE, show s.data.toList.drop s.size = [] from List.drop_eq_nil_of_le (by simp)]; rfl
      clear hE
      by_cases h0 : s = ⟨#[]⟩
      · subst h0
        go_wp2
        go_ret
        exact ⟨by rfl, rfl⟩
      · have h1 := empty_no h0
        have hs1 : 1 ≤ s.size := by
          rcases Nat.eq_zero_or_pos s.size with h | h
          · exact absurd (by cases s with | mk d => have e : d = #[] := Array.eq_empty_of_size_eq_zero h; rw [e]) h0
          · exact h
        have hl : s.toList.isEmpty = false := by
          cases h : s.toList with
          | nil => exact absurd h h1
          | cons _ _ => rfl
        by_cases h64 : s.size ≤ 64
        · have HR : Hid (okName s = true) := by show _ = _; unfold okName; rw [hA]; simp [hs1, h64]
          have b1 : decide ((s.size : Int) ≤ 64) = true := decide_eq_true (by omega)
          clear hA h0
          go_wp2
          go_ret
          exact ⟨by rw [HR.out]; rfl, rfl⟩
        · have HR : Hid (okName s = false) := by show _ = _; unfold okName; simp [h64]
          have b1 : decide ((s.size : Int) ≤ 64) = false := decide_eq_false (by omega)
          clear hA h0
          go_wp2
          go_ret
          exact ⟨by rw [HR.out]; rfl, rfl⟩
end Go.Proofs.Ytbbblncoicjacaa
