
-- names.Inline: a contract.
import Derived.Test.YtnfplepaejjmfaaGreatDoorD1
import Derived.Test.YtnfplepaejjmfaaGreatDoorB3
import Derived.WalkSmall
namespace Go.Proofs.YtnfplepaejjmfaaGreatDoor
open Go.ChangeShapes Go.WideShapes Go.ChangeAt Go.RowKit
set_option linter.unusedVariables false
set_option maxRecDepth 100000

theorem pinline_c (s : ByteArray) (n : Int) (w : World) (hm : s.size ≤ maxLen) :
    Calls Tryz.prog 100 #[.string s, .int .i64 n] w fun e w' => e = .returned (.tuple #[.string (inlineL s.data.toList n).1, .string (inlineL s.data.toList n).2.1, .int .i64 (inlineL s.data.toList n).2.2]) ∧ Below w.heap.size w w' := by
  have hl : s.data.toList.length = s.size := by simp
  by_cases h0 : n < 0
  · have hk : inlineL s.data.toList n = (ByteArray.empty, ByteArray.empty, 80) := by unfold inlineL; rw [if_pos (.inl h0)]
    rw [hk]
    go_enter Tryz.func100, Tryz.ntmps100
    go_wp2
    go_ret3
    exact ⟨rfl, Below.refl _ _⟩
  by_cases h1 : (s.size : Int) < n
  · have hk : inlineL s.data.toList n = (ByteArray.empty, ByteArray.empty, 80) := by unfold inlineL; rw [if_pos (.inr (by omega))]
    rw [hk]
    have hd : decide ((s.size : Int) < n) = true := decide_eq_true h1
    go_enter Tryz.func100, Tryz.ntmps100
    go_wp2
    go_ret3
    exact ⟨rfl, Below.refl _ _⟩
  · obtain ⟨k, rfl⟩ := Int.eq_ofNat_of_zero_le (show 0 ≤ n by omega)
    have hs1 := slice_to s k (by omega)
    have hs2 := slice_at s k (by omega)
    have hk : inlineL s.data.toList k = if validL (trimZ (s.data.toList.take k)) = true then (strL (trimZ (s.data.toList.take k)), strL (s.data.toList.drop k), 0) else (ByteArray.empty, ByteArray.empty, 80) := by
      unfold inlineL; rw [if_neg (by omega), Int.toNat_natCast]
    rw [hk]
    have HT : Hid (∀ w, Calls Tryz.prog 59 #[.string (strL (s.data.toList.take k)), .string ⟨#[0]⟩] w fun e w' => e = .returned (.string (strL (trimZ (s.data.toList.take k)))) ∧ w' = w) := fun w => by
      have := Tryz.strings_TrimRight_one (strL (s.data.toList.take k)) 0 (by decide) w (by rw [strL_size, List.length_take]; unfold maxLen at hm; omega)
      rw [strL_data] at this; exact this
    have HV : Hid (∀ w, Calls Tryz.prog 84 #[.string (strL (trimZ (s.data.toList.take k)))] w fun e w' => e = .returned (.bool (validL (trimZ (s.data.toList.take k)))) ∧ w' = w) := fun w => by
      have := pvalid_c (strL (trimZ (s.data.toList.take k))) w
      rw [strL_data] at this; exact this
    generalize trimZ (s.data.toList.take k) = tz at *
    generalize strL (s.data.toList.take k) = g1 at *
    generalize strL (s.data.toList.drop k) = g2 at *
    generalize strL tz = g3 at *
    have hk0 : ¬ ((k : Int) < 0) := by omega
    have hk1 : ¬ ((s.size : Int) < (k : Int)) := by omega
    have hkd : decide ((s.size : Int) < (k : Int)) = false := decide_eq_false hk1
    clear hl h0 h1 hm hk
    cases hv : validL tz
    · rw [hv] at HV
      go_enter Tryz.func100, Tryz.ntmps100
      go_wp2_with (first | (go_at_call 59; refine (HT.out _).mono ?_; rintro e w1 ⟨rfl, hw1⟩; subst w1) | (go_at_call 84; refine (HV.out _).mono ?_; rintro e w1 ⟨rfl, hw1⟩; subst w1))
      go_ret3
      exact ⟨rfl, Below.refl _ _⟩
    · rw [hv] at HV
      go_enter Tryz.func100, Tryz.ntmps100
      go_wp2_with (first | (go_at_call 59; refine (HT.out _).mono ?_; rintro e w1 ⟨rfl, hw1⟩; subst w1) | (go_at_call 84; refine (HV.out _).mono ?_; rintro e w1 ⟨rfl, hw1⟩; subst w1))
      go_quiet (fail)
      go_wp2
      go_ret3
      exact ⟨rfl, below_drewN (Below.refl _ _) _⟩
end Go.Proofs.YtnfplepaejjmfaaGreatDoor
