
-- commit: its error, its look at a name; a handle let go by defer.
import Derived.Test.YtbbblncoicjacaaGreatDoorU9
import Derived.Test.YtbbblncoicjacaaGreatDoorVB
import Derived.Test.YtbbblncoicjacaaGreatDoorX0
import Derived.Defers
import Derived.Recover
namespace Go.Proofs.YtbbblncoicjacaaGreatDoor
open Go.RowKit
set_option linter.unusedVariables false
variable {PS : (Nat → Prop) → Nat → St → World → Prop}
def replB : ByteArray := ⟨#[114, 101, 112, 108, 97, 99, 101]⟩
set_option maxHeartbeats 4000000 in
theorem cfailed_c (name : ByteArray) (e : Nat) (he : e ≠ 0) (w : World) :
    Calls Tryz.prog 29 #[.string name, .int .i64 e] w fun r w' => ∃ ev, r = .returned ev ∧ ErrIs w' w.heap.size replB name e ev ∧ Below w.heap.size w w' := by
  have HE : Hid (e ≠ 0) := he
  clear he
  go_enter Tryz.func29, Tryz.ntmps29
  go_wp2
  go_ret
  exact ⟨_, rfl, .inr ⟨HE.out, w.heap.size, Nat.le_refl _, rfl, heap_alloc_new _ _⟩, (Below.refl _ w).alloc (Nat.le_refl _) _⟩
/-- Why no file of this name can be replaced. -/
def whyNo (name : ByteArray) : Nat := if name = tmpB then 161 else if okName name = false then 32 else 0
set_option maxHeartbeats 4000000 in
theorem crefusal_c (s : ByteArray) (w : World) :
    Calls Tryz.prog 28 #[.string s] w fun e w' => e = .returned (.int .i64 (whyNo s)) ∧ Below w.heap.size w w' := by
  by_cases ht : s = tmpB
  · have HE : Hid (whyNo s = 161) := by show whyNo s = 161; unfold whyNo; rw [if_pos ht]
    rw [HE.out]
    clear HE
    subst ht
    unfold tmpB
    go_enter Tryz.func28, Tryz.ntmps28
    go_wp2
    go_ret
    exact ⟨rfl, Below.refl _ _⟩
  · have hb : (s.toList == tmpB.toList) = false := by rw [beq_toList]; exact decide_eq_false ht
    have hb' : (s.toList == [97, 114, 46, 116, 109, 112, 126]) = false := by
      have : tmpB.toList = [97, 114, 46, 116, 109, 112, 126] := by rw [ByteArray.toList_eq]; rfl
      rw [← this]; exact hb
    by_cases h0 : s = ⟨#[]⟩
    · have HE : Hid (whyNo s = 32) := by
        show whyNo s = 32; unfold whyNo; rw [if_neg ht, h0, if_pos (by decide +kernel)]
      rw [HE.out]
      clear HE
      subst h0
      go_enter Tryz.func28, Tryz.ntmps28
      go_wp2
      go_ret
      exact ⟨rfl, Below.refl _ _⟩
    · have h1 := empty_no h0
      have hs1 : 1 ≤ s.size := by
        rcases Nat.eq_zero_or_pos s.size with h | h
        · exact absurd (by cases s with | mk d => have e : d = #[] := Array.eq_empty_of_size_eq_zero h; rw [e]) h0
        · exact h
      have hl : s.toList.isEmpty = false := by
        cases h : s.toList with
        | nil => exact absurd h h1
        | cons _ _ => rfl
      by_cases h64 : s.size ≤ 64
      · have b1 : decide (64 < (s.size : Int)) = false := decide_eq_false (by omega)
        have HA : Hid (∀ W, Calls Tryz.prog 36 #[.string s, .string ⟨#[47, 0]⟩] W fun e w' => e = .returned (.bool (!s.data.toList.all okByte)) ∧ Below W.heap.size W w') := fun W => contains_c s W h64
        have hE : okName s = s.data.toList.all okByte := by unfold okName; simp [hs1, h64]
        have HE : Hid (whyNo s = if s.data.toList.all okByte = false then 32 else 0) := by show whyNo s = _; unfold whyNo; rw [if_neg ht, hE]
        obtain ⟨q, hq⟩ : ∃ q, q = s.data.toList.all okByte := ⟨_, rfl⟩
        rw [← hq] at HA HE
        rw [HE.out]
        clear hq HE h0 hE ht
        cases q
        all_goals
          go_enter Tryz.func28, Tryz.ntmps28
          go_wp2_with (go_at_call 36; refine (HA.out _).mono ?_; rintro e w1 ⟨rfl, hb⟩)
          go_ret
          exact ⟨rfl, hb⟩
      · have b1 : decide (64 < (s.size : Int)) = true := decide_eq_true (by omega)
        have HE : Hid (whyNo s = 32) := by
          show whyNo s = 32; unfold whyNo; rw [if_neg ht, if_pos (by unfold okName; simp [h64])]
        rw [HE.out]
        clear HE h0 ht
        go_enter Tryz.func28, Tryz.ntmps28
        go_wp2
        go_ret
        exact ⟨rfl, Below.refl _ _⟩
end Go.Proofs.YtbbblncoicjacaaGreatDoor
