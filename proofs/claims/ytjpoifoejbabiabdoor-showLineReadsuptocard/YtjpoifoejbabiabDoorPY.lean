
-- Plain: a line's words.
import Derived.Test.YtjpoifoejbabiabDoorPW
namespace Go.Proofs.YtjpoifoejbabiabDoor
open Go
set_option linter.unusedVariables false
set_option maxRecDepth 100000
set_option linter.unusedSimpArgs false
theorem dig_mem (u : Nat) : ∀ c ∈ Lib.decDigits u, 48 ≤ c.toNat ∧ c.toNat ≤ 57 := by
  induction u using Nat.strongRecOn with
  | ind u ih =>
    intro c hc
    rw [Lib.decDigits] at hc
    split at hc
    · rename_i h
      rw [List.mem_singleton] at hc
      rw [hc, UInt8.toNat_ofNat']; omega
    · rename_i h
      rw [List.mem_append] at hc
      rcases hc with hc | hc
      · exact ih (u / 10) (by omega) c hc
      · rw [List.mem_singleton] at hc
        rw [hc, UInt8.toNat_ofNat']; omega
theorem dig_ne (u : Nat) : Lib.decDigits u ≠ [] := by
  rw [Lib.decDigits]
  split <;> simp
def plainC (c : UInt8) : Prop := c ≠ 92 ∧ c ≠ 34 ∧ partsB c = false
theorem plainC_of {c : UInt8} (h : c.toNat = 45 ∨ (47 ≤ c.toNat ∧ c.toNat ≤ 58)) : plainC c :=
  ⟨u8ne 92 (by show c.toNat ≠ 92; omega), u8ne 34 (by show c.toNat ≠ 34; omega), parts_false ⟨by omega, by omega, by omega⟩⟩
theorem itoa_plain (n : Int) : (∀ c ∈ Lib.itoa n, plainC c) ∧ Lib.itoa n ≠ [] := by
  unfold Lib.itoa
  split
  · refine ⟨fun c hc => ?_, by simp⟩
    rcases List.mem_cons.1 hc with rfl | hc
    · exact plainC_of (.inl rfl)
    · have := dig_mem _ c hc; exact plainC_of (.inr (by omega))
  · refine ⟨fun c hc => ?_, dig_ne _⟩
    have := dig_mem _ c hc; exact plainC_of (.inr (by omega))
theorem lets_ok (m : Int) : ∀ x ∈ lets m 3, 33 ≤ x ∧ x < 127 ∧ x ≠ 34 ∧ x ≠ 92 := by
  intro x hx
  simp only [lets, List.mem_cons, List.not_mem_nil, or_false] at hx
  rcases hx with rfl | rfl | rfl | rfl | rfl | rfl | rfl | rfl | rfl <;> (first | unfold lif | unfold exl) <;> (repeat' split) <;> omega
theorem mode_plain (m : Int) : (∀ c ∈ lsq (modeB m), plainC c) ∧ lsq (modeB m) ≠ [] := by
  have e : lsq (modeB m) = (lets m 3).map fun x => x.toNat.toUInt8 := by unfold modeB strI lsq; simp
  rw [e]
  refine ⟨fun c hc => ?_, by simp [lets]⟩
  obtain ⟨x, hx, rfl⟩ := List.mem_map.1 hc
  have h := lets_ok m x hx
  have h2 : (x.toNat.toUInt8).toNat = x.toNat := by simp; omega
  exact ⟨u8ne 92 (by rw [h2]; show x.toNat ≠ 92; omega), u8ne 34 (by rw [h2]; show x.toNat ≠ 34; omega), parts_false ⟨by rw [h2]; omega, by rw [h2]; omega, by rw [h2]; omega⟩⟩
theorem clean_of {l : List UInt8} (h : ∀ c ∈ l, plainC c) : clean l := fun c hc => ⟨(h c hc).1, (h c hc).2.1⟩
theorem bare_of {l : List UInt8} (h : ∀ c ∈ l, plainC c) : ∀ c ∈ l, partsB c = false := fun c hc => (h c hc).2.2
theorem lsq_app (a b : ByteArray) : lsq (a ++ b) = lsq a ++ lsq b := by unfold lsq; simp
/-- a date's bytes: clean, no newline, four words -/
theorem cw_two {a b : List UInt8} (ha : ∀ c ∈ a, plainC c) (hne : a ≠ []) : cw (a ++ 32 :: b) false [] = strB a :: cw b false [] := by
  rw [cw_app a b 32 (by decide), cw_one hne (bare_of ha)]; rfl
theorem dv_plain (n : Nat) (h : n < 10) : plainC (dv n) := by
  unfold dv
  refine plainC_of (.inr ?_)
  rw [UInt8.toNat_ofNat']; omega
theorem two_plain (n : Nat) (h : n < 100) : ∀ c ∈ lsq (twoB n), plainC c := by
  intro c hc
  unfold twoB at hc
  rw [lsq_strB] at hc
  rcases List.mem_cons.1 hc with rfl | hc
  · exact dv_plain _ (by omega)
  · rw [List.mem_singleton] at hc; rw [hc]; exact dv_plain _ (by omega)
end Go.Proofs.YtjpoifoejbabiabDoor
