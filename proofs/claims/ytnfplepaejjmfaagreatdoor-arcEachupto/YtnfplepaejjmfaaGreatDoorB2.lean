
-- shelfref8.KindOf, digits: contracts.
import Derived.Test.YtnfplepaejjmfaaGreatDoorB1
namespace Go.Proofs.YtnfplepaejjmfaaGreatDoor
open Go.ChangeShapes Go.WideShapes Go.ChangeAt Go.RowKit
set_option linter.unusedVariables false
set_option maxRecDepth 100000

theorem rkind_c (s : Int) (w : World) :
    Calls Tryz.prog 91 #[.int .i64 s] w fun e w' => e = .returned (.int .i64 (kindI s)) ∧ w' = w := by
  unfold kindI
  by_cases h6 : s = 6
  · have c6 : (s == 6) = true := by simp [h6]
    rw [if_pos (Or.inl h6)]
    clear h6
    go_enter Tryz.func91, Tryz.ntmps91
    go_wp2
    go_ret
    exact ⟨rfl, rfl⟩
  have c6 : (s == 6) = false := by simp [h6]
  by_cases h7 : s = 7
  · have c7 : (s == 7) = true := by simp [h7]
    rw [if_pos (Or.inr (Or.inl h7))]
    clear h6 h7
    go_enter Tryz.func91, Tryz.ntmps91
    go_wp2
    go_ret
    exact ⟨rfl, rfl⟩
  have c7 : (s == 7) = false := by simp [h7]
  by_cases h8 : s = 8
  · have c8 : (s == 8) = true := by simp [h8]
    rw [if_pos (Or.inr (Or.inr h8))]
    clear h6 h7 h8
    go_enter Tryz.func91, Tryz.ntmps91
    go_wp2
    go_ret
    exact ⟨rfl, rfl⟩
  have c8 : (s == 8) = false := by simp [h8]
  rw [if_neg (by omega)]
  clear h6 h7 h8
  go_enter Tryz.func91, Tryz.ntmps91
  go_wp2
  go_ret
  exact ⟨rfl, rfl⟩

def digUp (l : List UInt8) (k : Nat) : Prop := ∀ (j : Nat) (c : UInt8), j < k → l[j]? = some c → dig 10 c = true
theorem digUp_next (s : ByteArray) (k : Nat) (h : k < s.size) (hd : digUp s.data.toList k) (h1 : dig 10 s[k] = true) : digUp s.data.toList (k + 1) := by
  intro j c hj hc
  by_cases e : j = k
  · subst e; rw [at_some s j h] at hc; injection hc with hc; rw [← hc]; exact h1
  · exact hd j c (by omega) hc
theorem digL_no (l : List UInt8) (most j : Nat) (c : UInt8) (h : l[j]? = some c) (hc : dig 10 c = false) : digL l most = none := by
  unfold digL
  rw [if_pos]
  refine Or.inr (Or.inr ?_)
  cases e : l.all (dig 10)
  · rfl
  · rw [List.all_eq_true] at e
    have := e c (List.mem_of_getElem? h)
    rw [hc] at this; cases this
theorem digL_yes (s : ByteArray) (most : Nat) (h0 : ¬ s.data.toList = []) (hm : s.size ≤ most) (hd : digUp s.data.toList s.size) : digL s.data.toList most = some (val 10 0 s.data.toList) := by
  have hl : s.data.toList.length = s.size := by simp
  unfold digL
  rw [if_neg]
  rintro (h | h | h)
  · exact h0 h
  · omega
  · have : s.data.toList.all (dig 10) = true := by
      rw [List.all_eq_true]
      intro c hc
      obtain ⟨j, hj, e⟩ := List.mem_iff_getElem.1 hc
      exact hd j c (by omega) (by rw [List.getElem?_eq_getElem hj, e])
    rw [this] at h; cases h
def vatR (s : ByteArray) (k : Nat) : Nat := val 10 0 (s.data.toList.take k)
theorem vatR_next (s : ByteArray) (k : Nat) (h : k < s.size) : vatR s (k + 1) = vatR s k * 10 + (s[k].toNat - 48) := by
  have hl : s.data.toList.length = s.size := by simp
  unfold vatR
  rw [List.take_succ_eq_append_getElem (by omega), val_snoc]; rfl
theorem vat_lt (s : ByteArray) (k : Nat) (hk : k ≤ s.size) (h15 : s.size ≤ 15) (hd : digUp s.data.toList k) : vatR s k < 1000000000000000 := by
  have hl : s.data.toList.length = s.size := by simp
  unfold vatR
  have h1 := val_lt 10 (s.data.toList.take k) (fun c hc => by
    obtain ⟨j, hj, e⟩ := List.mem_iff_getElem.1 hc
    rw [List.length_take] at hj
    rw [List.getElem_take] at e
    exact hd j c (by omega) (by rw [List.getElem?_eq_getElem (by omega), e]))
  have h2 : 10 ^ (s.data.toList.take k).length ≤ 10 ^ 15 := Nat.pow_le_pow_right (by omega) (by rw [List.length_take]; omega)
  have e : (10 : Nat) ^ 15 = 1000000000000000 := by decide
  omega
theorem dig_is (c : UInt8) : dig 10 c = true ↔ 48 ≤ c.toNat ∧ c.toNat ≤ 57 := by
  simp [dig]; omega
theorem dig_isnt (c : UInt8) (h : ¬ (48 ≤ c.toNat ∧ c.toNat ≤ 57)) : dig 10 c = false := by
  cases e : dig 10 c
  · rfl
  · exact absurd ((dig_is c).1 e) h
set_option maxHeartbeats 1000000 in
theorem rdigits_c (s : ByteArray) (most : Nat) (w : World) (hm : s.size ≤ maxLen) (h15 : most ≤ 15) :
    Calls Tryz.prog 114 #[.string s, .int .i64 most] w fun e w' => e = .returned (.tuple #[.int .i64 ((digL s.data.toList most).getD 0 : Nat), .bool (digL s.data.toList most).isSome]) ∧ w' = w := by
  have hl : s.data.toList.length = s.size := by simp
  unfold maxLen at hm
  by_cases h0 : s.toList = []
  · have h0' : s.toList.isEmpty = true := by rw [h0]; rfl
    have e0 : (s.toList == []) = true := by rw [h0]; rfl
    have HV : Hid (digL s.data.toList most = none) := by
      show digL s.data.toList most = none
      unfold digL; rw [if_pos (Or.inl (by rw [← Lib.toList_data]; exact h0))]
    go_enter Tryz.func114, Tryz.ntmps114
    go_wp2
    go_ret2
    exact ⟨by rw [HV.out]; rfl, rfl⟩
  have e0 : (s.toList == []) = false := by simpa using h0
  have h0' : s.toList.isEmpty = false := by simpa using h0
  have H0 : Hid (¬ s.data.toList = []) := fun h => h0 (by rw [Lib.toList_data]; exact h)
  clear h0
  by_cases hb : most < s.size
  · have c1 : decide ((most : Int) < (s.size : Int)) = true := by simp; omega
    have HV : Hid (digL s.data.toList most = none) := by
      show digL s.data.toList most = none
      unfold digL; rw [if_pos (Or.inr (Or.inl (by omega)))]
    go_enter Tryz.func114, Tryz.ntmps114
    go_wp2
    go_ret2
    exact ⟨by rw [HV.out]; rfl, rfl⟩
  have c1 : decide ((most : Int) < (s.size : Int)) = false := by simp; omega
  have hs15 : s.size ≤ 15 := by omega
  have HS : Hid (s.size ≤ most) := by show s.size ≤ most; omega
  clear hl
  go_enter Tryz.func114, Tryz.ntmps114
  go_wp2
  go_loop [6, 7] (fun v i => ∃ k : Nat, k ≤ s.size ∧ i = .int .i64 k ∧ v = .int .i64 (vatR s k) ∧ digUp s.data.toList k) (fun _ i => s.size - (intOf i).toNat)
  case atStart => exact ⟨0, Nat.zero_le _, rfl, rfl, fun j c hj => absurd hj (Nat.not_lt_zero _)⟩
  case round =>
    obtain ⟨k, hk, rfl, rfl, hd⟩ := hrel
    have HD : Hid (digUp s.data.toList k) := hd
    have hv9 := vat_lt s k hk hs15 hd
    clear hd
    by_cases hlt : k < s.size
    · have hidx := idx s k hlt
      have hat : Hid (s.data.toList[k]? = some s[k]) := at_some s k hlt
      have HN : Hid (vatR s (k + 1) = vatR s k * 10 + (s[k].toNat - 48)) := vatR_next s k hlt
      have HDN : Hid (dig 10 s[k] = true → digUp s.data.toList (k + 1)) := digUp_next s k hlt HD.out
      have hc9 := u8_lt' s[k]
      have Hdig : Hid (dig 10 s[k] = true ↔ 48 ≤ s[k].toNat ∧ s[k].toNat ≤ 57) := dig_is s[k]
      have Hno : Hid (¬ (48 ≤ s[k].toNat ∧ s[k].toNat ≤ 57) → dig 10 s[k] = false) := dig_isnt s[k]
      generalize s[k] = b at hidx hat HN HDN hc9 Hdig Hno
      generalize hbc : b.toNat = c at hidx HN hc9 Hdig Hno
      generalize vatR s k = x at hv9 HN ⊢
      by_cases h1 : c < 48
      · have d1 : decide ((c : Int) < 48) = true := by simp; omega
        have HV : Hid (digL s.data.toList most = none) := digL_no _ _ k _ hat.out (Hno.out (by omega))
        go_wp2
        go_ret2
        exact ⟨by rw [HV.out]; rfl, rfl⟩
      · have d1 : decide ((c : Int) < 48) = false := by simp; omega
        by_cases h2 : 57 < c
        · have d2 : decide ((57 : Int) < (c : Int)) = true := by simp; omega
          have HV : Hid (digL s.data.toList most = none) := digL_no _ _ k _ hat.out (Hno.out (by omega))
          go_wp2
          go_ret2
          exact ⟨by rw [HV.out]; rfl, rfl⟩
        · have d2 : decide ((57 : Int) < (c : Int)) = false := by simp; omega
          go_wp2
          go_round
          case rel => exact ⟨k + 1, by omega, by go_num, by rw [HN.out]; congr 1; omega, HDN.out (Hdig.out.2 (by omega))⟩
          case measure => simp [intOf]; omega
    · obtain rfl : k = s.size := by omega
      have HV : Hid (digL s.data.toList most = some (vatR s s.size)) := by
        show digL s.data.toList most = some (vatR s s.size)
        have hl : s.data.toList.length = s.size := by simp
        rw [digL_yes s most H0.out HS.out HD.out]
        unfold vatR; rw [List.take_of_length_le (by omega)]
      go_wp2
      go_ret2
      exact ⟨by rw [HV.out]; rfl, rfl⟩
end Go.Proofs.YtnfplepaejjmfaaGreatDoor
