
-- names.readNumber, read: contracts.
import Derived.Test.YtnfplepaejjmfaaGreatDoorD1
import Derived.Test.YtnfplepaejjmfaaGreatDoorRead
namespace Go.Proofs.YtnfplepaejjmfaaGreatDoor
open Go.ChangeShapes Go.WideShapes Go.ChangeAt Go.RowKit
set_option linter.unusedVariables false
set_option maxRecDepth 100000

theorem trimPrefix_len (l m : List UInt8) : (Lib.trimPrefix l m).length ≤ l.length := by
  unfold Lib.trimPrefix; split
  · rw [List.length_drop]; omega
  · exact Nat.le_refl _
theorem trimSuffix_len (l m : List UInt8) : (Lib.trimSuffix l m).length ≤ l.length := by
  unfold Lib.trimSuffix; split
  · rw [List.length_take]; omega
  · exact Nat.le_refl _
theorem rnum_c (s m : ByteArray) (w : World) (hs : s.size ≤ maxLen) :
    Calls Tryz.prog 86 #[.string s, .string m] w fun e w' => e = .returned (.tuple #[.int .i64 ((numAfter m.data.toList s.data.toList).getD 0 : Nat), .bool (numAfter m.data.toList s.data.toList).isSome]) ∧ w' = w := by
  have HP : Hid (∀ w, Calls Tryz.prog 107 #[.string s, .string m] w fun e w' => e = .returned (.tuple #[.string (strL (Lib.trimPrefix s.data.toList m.data.toList)), .bool (Lib.hasPrefix s.data.toList m.data.toList)]) ∧ w' = w) := fun w => Tryz.strings_CutPrefix s m w
  have hz : (strL (Lib.trimPrefix s.data.toList m.data.toList)).size ≤ maxLen := by
    rw [strL_size]
    have := trimPrefix_len s.data.toList m.data.toList
    have hl : s.data.toList.length = s.size := by simp
    omega
  have hdl := strL_data (Lib.trimPrefix s.data.toList m.data.toList)
  unfold numAfter
  generalize Lib.trimPrefix s.data.toList m.data.toList = dl at *
  generalize strL dl = d at *
  have HD : Hid (∀ w, Calls Tryz.prog 79 #[.string d] w fun e w' => e = .returned (.tuple #[.int .i64 (rd 10 dl).1, .int .i64 (rd 10 dl).2]) ∧ w' = w) := fun w => by
    have := Rd.dec_any d w hz
    rw [hdl] at this; exact this
  have HS : Hid (∀ w, Calls Tryz.prog 108 #[.string d, .string ⟨#[32]⟩] w fun e w' => e = .returned (.bool (Lib.hasSuffix dl [32])) ∧ w' = w) := fun w => by
    have := Tryz.strings_HasSuffix d ⟨#[32]⟩ w (by unfold maxLen at hz; omega)
    rw [hdl] at this; exact this
  have htl : d.toList = dl := by rw [Lib.toList_data, hdl]
  clear hz hdl hs
  cases hp : Lib.hasPrefix s.data.toList m.data.toList
  · rw [hp] at HP
    rw [if_neg (by simp)]
    go_enter Tryz.func86, Tryz.ntmps86
    go_wp2_with (first | (go_at_call 107; refine (HP.out _).mono ?_; rintro e w1 ⟨rfl, hw1⟩; subst w1))
    go_ret2
    exact ⟨rfl, rfl⟩
  · rw [hp] at HP
    by_cases hd : dl = []
    · rw [if_neg (by simp [hd])]
      have hde : (d.toList == []) = true := by rw [htl, hd]; rfl
      have hde2 : d.toList = [] := by rw [htl, hd]
      clear htl
      go_enter Tryz.func86, Tryz.ntmps86
      go_wp2_with (first | (go_at_call 107; refine (HP.out _).mono ?_; rintro e w1 ⟨rfl, hw1⟩; subst w1))
      go_ret2
      exact ⟨rfl, rfl⟩
    · have hde : (d.toList == []) = false := by rw [htl]; simpa using hd
      have hde2 : ¬ d.toList = [] := by rw [htl]; exact hd
      clear htl
      cases hsf : Lib.hasSuffix dl [32]
      · rw [hsf] at HS
        by_cases he : (rd 10 dl).2 = 0
        · rw [if_pos ⟨rfl, hd, rfl, he⟩]
          rw [he] at HD
          clear he
          go_enter Tryz.func86, Tryz.ntmps86
          go_wp2_with (first | (go_at_call 107; refine (HP.out _).mono ?_; rintro e w1 ⟨rfl, hw1⟩; subst w1) | (go_at_call 108; refine (HS.out _).mono ?_; rintro e w1 ⟨rfl, hw1⟩; subst w1) | (go_at_call 79; refine (HD.out _).mono ?_; rintro e w1 ⟨rfl, hw1⟩; subst w1))
          go_ret2
          exact ⟨rfl, rfl⟩
        · rw [if_neg (by rintro ⟨_, _, _, h⟩; exact he h)]
          have h0 : (rd 10 dl).1 = 0 := by
            unfold rd at he ⊢; split
            · rename_i hb; rw [if_pos hb] at he; split
              · rename_i hc; rw [if_pos hc] at he; exact absurd rfl he
              · rfl
            · rfl
          rw [h0] at HD
          generalize (rd 10 dl).2 = ev at *
          have heb : ((ev : Int) == 0) = false := by simp; omega
          have hei : ¬ (ev : Int) = 0 := by omega
          go_enter Tryz.func86, Tryz.ntmps86
          go_wp2_with (first | (go_at_call 107; refine (HP.out _).mono ?_; rintro e w1 ⟨rfl, hw1⟩; subst w1) | (go_at_call 108; refine (HS.out _).mono ?_; rintro e w1 ⟨rfl, hw1⟩; subst w1) | (go_at_call 79; refine (HD.out _).mono ?_; rintro e w1 ⟨rfl, hw1⟩; subst w1))
          go_ret2
          exact ⟨by first | rfl | (simp only [heb]; rfl), rfl⟩
      · rw [hsf] at HS
        rw [if_neg (by simp)]
        go_enter Tryz.func86, Tryz.ntmps86
        go_wp2_with (first | (go_at_call 107; refine (HP.out _).mono ?_; rintro e w1 ⟨rfl, hw1⟩; subst w1) | (go_at_call 108; refine (HS.out _).mono ?_; rintro e w1 ⟨rfl, hw1⟩; subst w1))
        go_ret2
        exact ⟨rfl, rfl⟩
end Go.Proofs.YtnfplepaejjmfaaGreatDoor
