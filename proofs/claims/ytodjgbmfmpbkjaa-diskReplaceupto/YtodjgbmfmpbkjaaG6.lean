-- A pair of names (the statement's walk).
import Derived.Test.YtodjgbmfmpbkjaaG5
namespace Go.Proofs.Ytodjgbmfmpbkjaa
open Go.RowKit
set_option linter.unusedVariables false
theorem idx (s : ByteArray) (k : Nat) (h : k < s.size) : ∀ w, (Instr.index 9 (.string s) (.int .i64 (k : Int))).run Try.prog w = .ok (.int .u8 (s[k].toNat : Int)) w := by
  intro w
  rw [run_index_string w 9 s .i64 k Try.underlying9, dif_pos (by omega)]
  simp
theorem all_at (s : ByteArray) (k : Nat) (h : k < s.size) : (s.data.toList.drop k).all okByte = (okByte s[k] && (s.data.toList.drop (k + 1)).all okByte) := by
  rw [List.drop_eq_getElem_cons (by simpa using h)]; rfl
set_option maxHeartbeats 1000000 in
theorem fileName_c (s : ByteArray) (w : World) :
    Calls Try.prog 38 #[.string s] w fun e w' => e = .returned (.bool (okName s)) ∧ w' = w := by
  by_cases h1 : 1 ≤ s.size
  · by_cases h2 : s.size ≤ 64
    · have b1 : decide ((s.size : Int) < 1) = false := by simp; omega
      have b2 : decide ((64 : Int) < (s.size : Int)) = false := by simp; omega
      go_enter Try.func38, Try.ntmps38
      go_wp2
      go_loop [3] (fun i => ∃ k : Nat, i = .int .i64 k ∧ k ≤ s.size ∧ okName s = (s.data.toList.drop k).all okByte) (fun i => s.size - (intOf i).toNat)
      case atStart => exact ⟨0, rfl, Nat.zero_le _, by unfold okName; simp [h1, h2]⟩
      case round =>
        obtain ⟨k, rfl, hks, hE⟩ := hrel
        by_cases hk : k < s.size
        · have hidx := idx s k hk
          have b3 : decide ((k : Int) < (s.size : Int)) = true := by simp; omega
          rw [all_at s k hk] at hE
          obtain ⟨c, hc⟩ : ∃ c, c = s[k] := ⟨_, rfl⟩
          rw [← hc] at hidx hE
          have HE : Hid (okName s = (okByte c && (s.data.toList.drop (k + 1)).all okByte)) := hE
          clear hc hE
          by_cases c1 : c = 47
          · have b4 : ((c.toNat : Int) == 47) = true := by rw [c1]; rfl
            have HR : Hid (okName s = false) := by show _ = _; rw [HE.out, c1]; rfl
            have HC : Hid (c = 47) := c1
            clear c1
            go_wp2
            go_ret
            exact ⟨by rw [HR.out]; rfl, rfl⟩
          · have b4 : ((c.toNat : Int) == 47) = false := by
              have : c.toNat ≠ 47 := fun h => c1 (UInt8.toNat_inj.1 h)
              simp; omega
            by_cases c2 : c = 0
            · have b5 : ((c.toNat : Int) == 0) = true := by rw [c2]; rfl
              have HR : Hid (okName s = false) := by show _ = _; rw [HE.out, c2]; rfl
              have HC : Hid (c = 0) := c2
              clear c2
              go_wp2
              go_ret
              exact ⟨by rw [HR.out]; rfl, rfl⟩
            · have b5 : ((c.toNat : Int) == 0) = false := by
                have : c.toNat ≠ 0 := fun h => c2 (UInt8.toNat_inj.1 h)
                simp; omega
              have HR : Hid (okName s = (s.data.toList.drop (k + 1)).all okByte) := by show _ = _; rw [HE.out]; simp [okByte, c1, c2]
              go_wp2
              exact ⟨⟨k + 1, rfl, by omega, HR.out⟩, by simp [intOf]; omega⟩
        · obtain rfl : k = s.size := by omega
          have b3 : decide ((s.size : Int) < (s.size : Int)) = false := by simp
          have HR : Hid (okName s = true) := by
            show _ = _
            rw [hE, show s.data.toList.drop s.size = [] from List.drop_eq_nil_of_le (by simp)]; rfl
          clear hE
          go_wp2
          go_ret
          exact ⟨by rw [HR.out]; rfl, rfl⟩
    · have b1 : decide ((s.size : Int) < 1) = false := by simp; omega
      have b2 : decide ((64 : Int) < (s.size : Int)) = true := by simp; omega
      have HR : Hid (okName s = false) := by show _ = _; unfold okName; simp [h2]
      clear h1 h2
      go_enter Try.func38, Try.ntmps38
      go_wp2
      go_ret
      exact ⟨by rw [HR.out]; rfl, rfl⟩
  · have b1 : decide ((s.size : Int) < 1) = true := by simp; omega
    have HR : Hid (okName s = false) := by show _ = _; unfold okName; simp [h1]
    clear h1
    go_enter Try.func38, Try.ntmps38
    go_wp2
    go_ret
    exact ⟨by rw [HR.out]; rfl, rfl⟩
set_option maxHeartbeats 2000000 in
theorem pair_c (a b : ByteArray) (w : World) :
    Calls Try.prog 20 #[.string a, .string b] w fun e w' => e = .returned (.bool (okName a && (okName b && !(decide (a = b))))) ∧ w' = w := by
  have HA : Hid (∀ w, Calls Try.prog 38 #[.string a] w fun e w' => e = .returned (.bool (okName a)) ∧ w' = w) := fun w => fileName_c a w
  have HB : Hid (∀ w, Calls Try.prog 38 #[.string b] w fun e w' => e = .returned (.bool (okName b)) ∧ w' = w) := fun w => fileName_c b w
  have hbe : (a.toList == b.toList) = decide (a = b) := beq_toList a b
  obtain ⟨x, hx⟩ : ∃ x, x = okName a := ⟨_, rfl⟩
  obtain ⟨y, hy⟩ : ∃ y, y = okName b := ⟨_, rfl⟩
  obtain ⟨z, hz⟩ : ∃ z, z = decide (a = b) := ⟨_, rfl⟩
  rw [← hx] at HA ⊢
  rw [← hy] at HB ⊢
  rw [← hz] at hbe ⊢
  clear hx hy hz
  cases x <;> cases y <;> cases z
  all_goals
    go_enter Try.func20, Try.ntmps20
    go_wp2_with fail
    refine (HA.out _).mono ?_
    rintro e w1 ⟨rfl, hw1⟩
    subst w1
    go_wp2_with fail
    refine (HB.out _).mono ?_
    rintro e w1 ⟨rfl, hw1⟩
    subst w1
    go_wp2
    go_ret
    exact ⟨rfl, rfl⟩
end Go.Proofs.Ytodjgbmfmpbkjaa
