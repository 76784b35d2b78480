
-- shelfref8.plain, inTable: contracts.
import Derived.Test.YtmlnnbinbbmmhaaDoorE0
import Derived.Test.YtmlnnbinbbmmhaaDoorB1
namespace Go.Proofs.YtmlnnbinbbmmhaaDoor
open Go.ChangeShapes Go.WideShapes Go.ChangeAt Go.RowKit
set_option linter.unusedVariables false
set_option maxRecDepth 100000

def noBlank (l : List UInt8) (k : Nat) : Prop := ∀ (j : Nat) (c : UInt8), j < k → l[j]? = some c → ¬ c.toNat = 32
theorem noBlank_next (s : ByteArray) (k : Nat) (h : k < s.size) (hd : noBlank s.data.toList k) (h1 : ¬ s[k].toNat = 32) : noBlank s.data.toList (k + 1) := by
  intro j c hj hc
  by_cases e : j = k
  · subst e; rw [at_some s j h] at hc; injection hc with hc; rw [← hc]; exact h1
  · exact hd j c (by omega) hc
theorem own_has (l : List UInt8) (j : Nat) (c : UInt8) (h : l[j]? = some c) (hc : c.toNat = 32) : ownB l = false := by
  have e : c = 32 := UInt8.toNat_inj.1 (by rw [hc]; rfl)
  subst e
  unfold ownB
  rw [decide_eq_true (List.mem_of_getElem? h)]
  simp
theorem own_no (s : ByteArray) (hd : noBlank s.data.toList s.size) : ownB s.data.toList = (decide (s.size ≤ 16) && !decide (s.data.toList = fSYMDEF)) := by
  have hl : s.data.toList.length = s.size := by simp
  have hn : ¬ (32 : UInt8) ∈ s.data.toList := fun h => by
    obtain ⟨j, hj, e⟩ := List.mem_iff_getElem.1 h
    exact hd j 32 (by omega) (by rw [List.getElem?_eq_getElem hj, e]) rfl
  unfold ownB
  rw [decide_eq_false hn, hl]; simp
theorem rplain_c (s : ByteArray) (w : World) (hm : s.size ≤ maxLen) :
    Calls Tryd.prog 55 #[.string s] w fun e w' => e = .returned (.bool (ownB s.data.toList)) ∧ w' = w := by
  unfold maxLen at hm
  go_enter Tryd.func55, Tryd.ntmps55
  go_wp2
  go_loop [3] (fun i => ∃ k : Nat, k ≤ s.size ∧ i = .int .i64 k ∧ noBlank s.data.toList k) (fun i => s.size - (intOf i).toNat)
  case atStart => exact ⟨0, Nat.zero_le _, rfl, fun j c hj => absurd hj (Nat.not_lt_zero _)⟩
  case round =>
    obtain ⟨k, hk, rfl, hd⟩ := hrel
    have HD : Hid (noBlank s.data.toList k) := hd
    clear hd
    by_cases hlt : k < s.size
    · have hidx := idx s k hlt
      have hat : Hid (s.data.toList[k]? = some s[k]) := at_some s k hlt
      by_cases h1 : s[k].toNat = 32
      · have c1 : ((s[k].toNat : Int) == 32) = true := by simp; omega
        have HV : Hid (ownB s.data.toList = false) := own_has _ k _ hat.out h1
        clear h1
        go_wp2
        go_ret
        exact ⟨by rw [HV.out]; rfl, rfl⟩
      · have c1 : ((s[k].toNat : Int) == 32) = false := by simp; omega
        have HN : Hid (¬ s[k].toNat = 32) := h1
        clear h1
        go_wp2
        go_round
        case rel => exact ⟨k + 1, by omega, by go_num, noBlank_next s k hlt HD.out HN.out⟩
        case measure => simp [intOf]; omega
    · obtain rfl : k = s.size := by omega
      have HV : Hid (ownB s.data.toList = (decide (s.size ≤ 16) && !decide (s.data.toList = fSYMDEF))) := own_no s HD.out
      by_cases h16 : s.size ≤ 16
      · have g1 : (s.size : Int) ≤ 16 := by omega
        by_cases hq : s.data.toList = fSYMDEF
        · have HQ : Hid (ownB s.data.toList = false) := by show _ = false; rw [HV.out, decide_eq_true hq]; simp
          have e1 : (s.toList == [95, 95, 46, 83, 89, 77, 68, 69, 70]) = true := by rw [Lib.toList_data, hq]; rfl
          have e2 : s.toList = [95, 95, 46, 83, 89, 77, 68, 69, 70] := by rw [Lib.toList_data, hq]; rfl
          clear hq HV h16
          go_wp2
          go_ret
          exact ⟨by rw [HQ.out]; first | rfl | (simp only [e1]; rfl), rfl⟩
        · have HQ : Hid (ownB s.data.toList = true) := by rw [HV.out, decide_eq_false hq, decide_eq_true h16]; rfl
          have e1 : (s.toList == [95, 95, 46, 83, 89, 77, 68, 69, 70]) = false := by rw [Lib.toList_data]; unfold fSYMDEF at hq; simpa using hq
          have e2 : ¬ s.toList = [95, 95, 46, 83, 89, 77, 68, 69, 70] := by simpa using e1
          clear hq HV h16
          go_wp2
          go_ret
          exact ⟨by rw [HQ.out]; first | rfl | (simp only [e1]; rfl), rfl⟩
      · have g1 : ¬ (s.size : Int) ≤ 16 := by omega
        have HQ : Hid (ownB s.data.toList = false) := by rw [HV.out, decide_eq_false h16]; rfl
        clear HV h16
        go_wp2
        go_ret
        exact ⟨by rw [HQ.out]; rfl, rfl⟩
theorem rintab_c (k : Int) (hk : k = 0 ∨ k = 1 ∨ k = 2) (s : ByteArray) (w : World) :
    Calls Tryd.prog 53 #[.int .i64 k, .string s] w fun e w' => e = .returned (.bool (decide (inTab k s.data.toList))) ∧ w' = w := by
  have hl : s.data.toList.length = s.size := by simp
  have hd : ∀ b, decide (inTab k s.data.toList) = b → Hid (decide (inTab k s.data.toList) = b) := fun b h => h
  rcases hk with rfl | rfl | rfl
  · by_cases h15 : s.size ≤ 15
    · have H := hd false (decide_eq_false (fun h => h.2 ⟨rfl, by omega⟩))
      have g1 : ¬ ((15 : Int) < (s.size : Int)) := by omega
      have g2 : decide ((15 : Int) < (s.size : Int)) = false := decide_eq_false g1
      clear hd hl
      go_enter Tryd.func53, Tryd.ntmps53
      go_wp2
      go_ret
      exact ⟨by first | rfl | (rw [H.out]; rfl) | (rw [H.out]; simp only [g2]; rfl) | (rw [show decide (15 < s.size) = true from decide_eq_true (by omega)]; rfl) | (rw [show decide (15 < s.size) = false from decide_eq_false (by omega)]; rfl), rfl⟩
    · have H := hd true (decide_eq_true ⟨by decide, fun h => h15 (by omega)⟩)
      have g1 : ((15 : Int) < (s.size : Int)) := by omega
      have g2 : decide ((15 : Int) < (s.size : Int)) = true := decide_eq_true g1
      clear hd hl
      go_enter Tryd.func53, Tryd.ntmps53
      go_wp2
      go_ret
      exact ⟨by first | rfl | (rw [H.out]; rfl) | (rw [H.out]; simp only [g2]; rfl) | (rw [show decide (15 < s.size) = true from decide_eq_true (by omega)]; rfl) | (rw [show decide (15 < s.size) = false from decide_eq_false (by omega)]; rfl), rfl⟩
  · have H := hd true (decide_eq_true ⟨by decide, fun h => absurd h.1 (by decide)⟩)
    clear hd hl
    go_enter Tryd.func53, Tryd.ntmps53
    go_wp2
    go_ret
    exact ⟨by rw [H.out]; rfl, rfl⟩
  · have H := hd false (decide_eq_false (fun h => h.1 rfl))
    clear hd hl
    go_enter Tryd.func53, Tryd.ntmps53
    go_wp2
    go_ret
    exact ⟨by rw [H.out]; rfl, rfl⟩
end Go.Proofs.YtmlnnbinbbmmhaaDoor
