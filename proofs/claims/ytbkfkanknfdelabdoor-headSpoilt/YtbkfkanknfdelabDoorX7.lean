
-- shelflaw7.named: a contract; where a header stands in a text.
import Derived.Test.YtbkfkanknfdelabDoorX4
namespace Go.Proofs.YtbkfkanknfdelabDoor
open Go.ChangeShapes Go.WideShapes Go.ChangeAt Go.RowKit
set_option linter.unusedVariables false
set_option maxRecDepth 100000

theorem last_get (s : ByteArray) (h : 0 < s.size) : s.data.toList.getLast? = some (s[s.size - 1]'(by omega)) := by
  have hl : s.data.toList.length = s.size := by simp
  rw [List.getLast?_eq_getElem?, hl, Rd.at_some s (s.size - 1) (by omega)]
theorem empty_toList (s : ByteArray) (h : s.size = 0) : s.toList = [] := by
  have hl : s.data.toList.length = s.size := by simp
  rw [Lib.toList_data]; exact List.eq_nil_of_length_eq_zero (by omega)
theorem some_toList (s : ByteArray) (h : 0 < s.size) : (s.toList == []) = false := by
  have hl : s.data.toList.length = s.size := by simp
  rw [Lib.toList_data]
  cases e : s.data.toList with
  | nil => rw [e] at hl; simp at hl; omega
  | cons a r => rfl
set_option maxHeartbeats 1000000 in
theorem named_c (s : ByteArray) (w : World) (hm : s.size ≤ maxLen) :
    Calls Tryd.prog 9 #[.string s] w fun e w' => e = .returned (.bool (decide (named s.data.toList))) ∧ w' = w := by
  have hl : s.data.toList.length = s.size := by simp
  unfold maxLen at hm
  by_cases h16 : s.size ≤ 16
  · have b1 : decide ((s.size : Int) ≤ 16) = true := by simp; omega
    by_cases h0 : s.size = 0
    · have e0 : (s.toList == []) = true := by rw [empty_toList s h0]; rfl
      have hd : decide (named s.data.toList) = true := by
        have : s.data.toList = [] := List.eq_nil_of_length_eq_zero (by omega)
        rw [this]; decide
      have HD : Hid (decide (named s.data.toList) = true) := hd
      clear hd
      go_enter Tryd.func9, Tryd.ntmps9
      go_wp2
      go_ret
      exact ⟨by rw [HD.out]; rfl, rfl⟩
    · have e0 := some_toList s (by omega)
      have hlt : s.size - 1 < s.size := by omega
      have hg : s.data.toList.getLast? = some (s[s.size - 1]'hlt) := last_get s (by omega)
      have hidx : ∀ w, (Instr.index 9 (.string s) (.int .i64 ((s.size : Int) - 1))).run Tryd.prog w = .ok (.int .u8 (((s[s.size - 1]'hlt).toNat : Nat) : Int)) w := fun w => by
        have h := Rd.idx s (s.size - 1) hlt w
        rwa [show ((s.size - 1 : Nat) : Int) = (s.size : Int) - 1 from by omega] at h
      generalize s[s.size - 1]'hlt = c at hg hidx
      by_cases hc : c.toNat = 32
      · have hc' : ((c.toNat : Int) != 32) = false := by simp; omega
        have HD : Hid (decide (named s.data.toList) = false) := decide_eq_false (fun h => h.2 (by rw [hg]; exact congrArg some (UInt8.toNat_inj.1 hc)))
        clear hg hc hlt
        go_enter Tryd.func9, Tryd.ntmps9
        go_wp2
        go_ret
        exact ⟨by rw [HD.out]; rfl, rfl⟩
      · have hc' : ((c.toNat : Int) != 32) = true := by simp; omega
        have HD : Hid (decide (named s.data.toList) = true) := decide_eq_true ⟨by omega, fun h => by rw [hg] at h; injection h with h; rw [h] at hc; exact hc rfl⟩
        clear hg hc hlt
        go_enter Tryd.func9, Tryd.ntmps9
        go_wp2
        go_ret
        exact ⟨by rw [HD.out]; rfl, rfl⟩
  · have b1 : decide ((s.size : Int) ≤ 16) = false := by simp; omega
    have HD : Hid (decide (named s.data.toList) = false) := decide_eq_false (fun h => h16 (by have := h.1; omega))
    go_enter Tryd.func9, Tryd.ntmps9
    go_wp2
    go_ret
    exact ⟨by rw [HD.out]; rfl, rfl⟩
/-- only the 60 bytes matter -/
theorem parse_mid (A H B : ByteArray) (h : H.size = 60) : parseAt (A ++ H ++ B) A.size = parseH H.data.toList := by
  have hs : (A ++ H ++ B).size = A.size + 60 + B.size := by rw [ByteArray.size_append, ByteArray.size_append, h]
  have hl : H.data.toList.length = 60 := by rw [← h]; simp
  unfold parseAt
  rw [if_neg (by rw [hs]; omega), Int.toNat_natCast]
  have e : (A ++ H ++ B).data.toList = A.data.toList ++ (H.data.toList ++ B.data.toList) := by
    simp [ByteArray.data_append, Array.toList_append]
  rw [e, fld_mid A.data.toList H.data.toList B.data.toList A.size 60 (by simp) hl]
theorem parse_zero (H : ByteArray) (h : H.size = 60) : parseAt H 0 = parseH H.data.toList := by
  have hl : H.data.toList.length = 60 := by rw [← h]; simp
  unfold parseAt
  rw [if_neg (by omega)]
  show parseH (fld H.data.toList 0 60) = _
  unfold fld
  rw [List.drop_zero, List.take_of_length_le (by omega)]
theorem parse_err (b : ByteArray) (i : Int) (h : ¬ (i < 0 ∨ (b.size : Int) - 60 < i)) : ¬ (parseAt b i).2 = 70 := by
  unfold parseAt
  rw [if_neg h]
  unfold parseH
  split
  · split <;> simp
  · simp
end Go.Proofs.YtbkfkanknfdelabDoor
