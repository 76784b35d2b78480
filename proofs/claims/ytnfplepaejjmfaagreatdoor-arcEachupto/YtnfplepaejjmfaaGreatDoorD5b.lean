
-- names.Look: a contract.
import Derived.Test.YtnfplepaejjmfaaGreatDoorD1
import Derived.Test.YtnfplepaejjmfaaGreatDoorB3
import Derived.Test.YtnfplepaejjmfaaGreatDoorQ3
import Derived.Lib.IndexMore
import Derived.WalkSmall
namespace Go.Proofs.YtnfplepaejjmfaaGreatDoor
open Go.ChangeShapes Go.WideShapes Go.ChangeAt Go.RowKit
set_option linter.unusedVariables false
set_option maxRecDepth 100000

theorem occ_sep (l : List UInt8) (a i : Nat) : Lib.occAt (l.drop a) [47, 10] i = true ↔ sepAt l (a + i) := by
  unfold Lib.occAt sepAt
  rw [List.drop_drop]
  constructor
  · intro h
    rw [List.isPrefixOf_iff_prefix] at h
    obtain ⟨t, ht⟩ := h
    have e0 : (l.drop (a + i))[0]? = some 47 := by rw [← ht]; rfl
    have e1 : (l.drop (a + i))[1]? = some 10 := by rw [← ht]; rfl
    rw [List.getElem?_drop] at e0 e1
    exact ⟨by simpa using e0, e1⟩
  · rintro ⟨h0, h1⟩
    obtain ⟨q0, e0⟩ := List.getElem?_eq_some_iff.1 h0
    obtain ⟨q1, e1⟩ := List.getElem?_eq_some_iff.1 h1
    rw [List.drop_eq_getElem_cons q0, List.drop_eq_getElem_cons q1, e0, e1]
    rfl
theorem first_index (l : List UInt8) (a : Nat) (ha : a ≤ l.length) :
    (Lib.index (l.drop a) [47, 10] = -1 ∧ firstSep l a = none) ∨ (∃ i : Nat, Lib.index (l.drop a) [47, 10] = i ∧ firstSep l a = some (a + i)) := by
  rcases Lib.index_spec (l.drop a) [47, 10] with ⟨h1, h2⟩ | ⟨i, h1, h2, h3, h4⟩
  · refine .inl ⟨h1, firstSep_no l a fun j hj hs => ?_⟩
    have hl := (List.getElem?_eq_some_iff.1 hs.1).1
    have := h2 (j - a) (by rw [List.length_drop]; omega)
    rw [show j = a + (j - a) from by omega] at hs
    rw [(occ_sep l a (j - a)).2 hs] at this; cases this
  · refine .inr ⟨i, h1, firstSep_at l a (a + i) (by omega) ((occ_sep l a i).1 h3) fun j hj hji hs => ?_⟩
    have := h4 (j - a) (by omega)
    rw [show j = a + (j - a) from by omega] at hs
    rw [(occ_sep l a (j - a)).2 hs] at this; cases this
/-- what strings.Cut is handed back from 'off' on -/
theorem look_cut (l : List UInt8) (off : Int) (h0 : 0 ≤ off) (h1 : off < l.length) :
    lookL l off = if (Lib.cut (l.drop off.toNat) [47, 10]).2.2 = true then (if validL (Lib.cut (l.drop off.toNat) [47, 10]).1 = true then (strL (Lib.cut (l.drop off.toNat) [47, 10]).1, 0) else (ByteArray.empty, 80)) else (ByteArray.empty, 81) := by
  unfold lookL Lib.cut
  rw [if_neg (by omega)]
  rcases first_index l off.toNat (by omega) with ⟨e1, e2⟩ | ⟨i, e1, e2⟩
  · rw [e1, e2]; rfl
  · have hi : (0 : Int) ≤ (i : Int) := by omega
    rw [e1, e2]
    simp only [hi, if_true, Int.toNat_natCast]
    rw [show off.toNat + i - off.toNat = i from by omega]
abbrev MaxLenAt (w : World) : Prop := ∃ m, w.cell? ⟨4, 0, none⟩ = some (.int .i64 m)
theorem MaxLenAt.on {w w' : World} (h : MaxLenAt w) (b : Below w.heap.size w w') : MaxLenAt w' := by
  obtain ⟨m, hm⟩ := h
  refine ⟨m, ?_⟩
  have hl : 4 < w.heap.size := by
    rcases Nat.lt_or_ge 4 w.heap.size with h | h
    · exact h
    · rw [World.cell?, Array.getElem?_eq_none h] at hm; cases hm
  rw [World.cell?, b.block _ hl]; exact hm
theorem plook_c (s : ByteArray) (off : Int) (w : World) (hs : s.size < 4294967281) (hm : MaxLenAt w) :
    Calls Tryz.prog 99 #[.string s, .int .i64 off] w fun e w' => e = .returned (.tuple #[.string (lookL s.data.toList off).1, .int .i64 (lookL s.data.toList off).2]) ∧ Below w.heap.size w w' := by
  have hl : s.data.toList.length = s.size := by simp
  by_cases h0 : off < 0
  · have hk : lookL s.data.toList off = (ByteArray.empty, 81) := by unfold lookL; rw [if_pos (.inl h0)]
    rw [hk]
    go_enter Tryz.func99, Tryz.ntmps99
    go_wp2
    go_ret2
    exact ⟨rfl, Below.refl _ _⟩
  by_cases h1 : (s.size : Int) ≤ off
  · have hk : lookL s.data.toList off = (ByteArray.empty, 81) := by unfold lookL; rw [if_pos (.inr (by omega))]
    rw [hk]
    have hd : decide ((s.size : Int) ≤ off) = true := decide_eq_true h1
    clear hm
    go_enter Tryz.func99, Tryz.ntmps99
    go_wp2
    go_ret2
    exact ⟨rfl, Below.refl _ _⟩
  · rw [look_cut _ _ (by omega) (by omega)]
    obtain ⟨k, rfl⟩ := Int.eq_ofNat_of_zero_le (show 0 ≤ off by omega)
    rw [Int.toNat_natCast]
    have hsl := slice_at s k (by omega)
    have hz : (strL (s.data.toList.drop k)).size < 4294967281 := by rw [strL_size, List.length_drop]; omega
    obtain ⟨m, hm⟩ := hm
    have HC : Hid (Calls Tryz.prog 115 #[.string (strL (s.data.toList.drop k)), .string ⟨#[47, 10]⟩] w fun e w' => e = .returned (.tuple #[.string (strL (Lib.cut (s.data.toList.drop k) [47, 10]).1), .string (strL (Lib.cut (s.data.toList.drop k) [47, 10]).2.1), .bool (Lib.cut (s.data.toList.drop k) [47, 10]).2.2]) ∧ ∃ n, w' = w.drewN n) := by
      have := Tryz.strings_Cut (strL (s.data.toList.drop k)) ⟨#[47, 10]⟩ m w hz hm
      rw [strL_data] at this
      exact this
    have HV : Hid (∀ w, Calls Tryz.prog 84 #[.string (strL (Lib.cut (s.data.toList.drop k) [47, 10]).1)] w fun e w' => e = .returned (.bool (validL (Lib.cut (s.data.toList.drop k) [47, 10]).1)) ∧ w' = w) := fun w => by
      have := pvalid_c (strL (Lib.cut (s.data.toList.drop k) [47, 10]).1) w
      rw [strL_data] at this; exact this
    generalize Lib.cut (s.data.toList.drop k) [47, 10] = c at *
    obtain ⟨c1, c2, c3⟩ := c
    generalize strL (s.data.toList.drop k) = g at *
    have hk0 : ¬ ((k : Int) < 0) := by omega
    have hk1 : ¬ ((s.size : Int) ≤ (k : Int)) := by omega
    have hkd : decide ((s.size : Int) ≤ (k : Int)) = false := decide_eq_false hk1
    clear hz hl h0 h1 hm
    dsimp only at HC HV ⊢
    generalize hv : validL c1 = v at *
    generalize strL c1 = sc1 at *
    generalize strL c2 = sc2 at *
    clear hv
    have fin : ∀ n, Below w.heap.size w (w.drewN n) := fun n => below_drewN (Below.refl _ _) n
    cases c3
    · go_enter Tryz.func99, Tryz.ntmps99
      go_wp2_with (first | (go_at_call 115; refine HC.out.mono ?_; rintro e w1 ⟨rfl, n, hw1⟩; subst w1) | (go_at_call 84; refine (HV.out _).mono ?_; rintro e w1 ⟨rfl, hw1⟩; subst w1))
      go_ret2
      exact ⟨rfl, fin _⟩
    · cases v
      · go_enter Tryz.func99, Tryz.ntmps99
        go_wp2_with (first | (go_at_call 115; refine HC.out.mono ?_; rintro e w1 ⟨rfl, n, hw1⟩; subst w1) | (go_at_call 84; refine (HV.out _).mono ?_; rintro e w1 ⟨rfl, hw1⟩; subst w1))
        go_ret2
        exact ⟨rfl, fin _⟩
      · go_enter Tryz.func99, Tryz.ntmps99
        go_wp2_with (first | (go_at_call 115; refine HC.out.mono ?_; rintro e w1 ⟨rfl, n, hw1⟩; subst w1) | (go_at_call 84; refine (HV.out _).mono ?_; rintro e w1 ⟨rfl, hw1⟩; subst w1))
        go_ret2
        exact ⟨rfl, fin _⟩
end Go.Proofs.YtnfplepaejjmfaaGreatDoor
