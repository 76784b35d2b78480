
-- tokensOf's closure: a word ends.
import Derived.Test.YtdamhdceajmdfaaDoorP1
import Derived.Test.YtdamhdceajmdfaaDoorT5
import Derived.Lib.RuneBytes
namespace Go.Proofs.YtdamhdceajmdfaaDoor
open Go.ChangeShapes Go.WideShapes Go.ChangeAt Go.RowKit Go.MapKept
set_option linter.unusedVariables false
set_option maxRecDepth 100000
set_option linter.unusedSimpArgs false
theorem get_drop19 (s : ByteArray) (i k : Nat) : s.get! (i + k) = ((byL s).drop i).getD k 0 := by
  simp only [ByteArray.get!, byL]
  by_cases h : i + k < s.data.size
  · rw [getElem!_pos s.data (i + k) h]; simp [List.getD, Array.getElem?_eq_getElem h]
  · rw [getElem!_neg s.data (i + k) h]; simp [List.getD, Array.getElem?_eq_none (Nat.not_lt.1 h)]; rfl
theorem dec_lo (s : ByteArray) (p : Nat) (b : UInt8) (hb : (byL s)[p]? = some b) (h : b.toNat < 128) : Utf8.decode s p = (b.toNat, 1) := by
  have e : (s.get! p).toNat = b.toNat := by
    have := get_drop19 s p 0
    rw [Nat.add_zero] at this
    rw [this, List.getD, List.getElem?_drop, Nat.add_zero, hb]; rfl
  unfold Utf8.decode
  simp only [Nat.add_zero, e]
  rw [if_pos h]
theorem dec_hi (s : ByteArray) (p : Nat) (b : UInt8) (hb : (byL s)[p]? = some b) (h : 128 ≤ b.toNat) : 128 ≤ (Utf8.decode s p).1 ∧ (Utf8.decode s p).1 ≤ 1114111 ∧ 1 ≤ (Utf8.decode s p).2 ∧ p + (Utf8.decode s p).2 ≤ s.size ∧ ∀ i, i < (Utf8.decode s p).2 → 128 ≤ ((s.get! (p + i)).toNat) := by
  have hl : p < s.size := by have := (List.getElem?_eq_some_iff.1 hb).1; rwa [byL_size] at this
  have e : (s.get! (p + 0)).toNat = b.toNat := by
    rw [get_drop19 s p 0, List.getD, List.getElem?_drop, Nat.add_zero, hb]; rfl
  have bb : b.toNat < 256 := b.toNat_lt
  have c1 : (s.get! (p + 1)).toNat < 256 := UInt8.toNat_lt _
  have c2 : (s.get! (p + 2)).toNat < 256 := UInt8.toNat_lt _
  have c3 : (s.get! (p + 3)).toNat < 256 := UInt8.toNat_lt _
  have e' : (s.get! p).toNat = b.toNat := e
  unfold Utf8.decode
  simp only [Nat.add_zero, e']
  rw [if_neg (by omega)]
  have one : ∀ r : Nat, 128 ≤ r → r ≤ 1114111 → 128 ≤ ((r, 1) : Nat × Nat).1 ∧ ((r, 1) : Nat × Nat).1 ≤ 1114111 ∧ 1 ≤ ((r, 1) : Nat × Nat).2 ∧ p + ((r, 1) : Nat × Nat).2 ≤ s.size ∧ ∀ i, i < ((r, 1) : Nat × Nat).2 → 128 ≤ ((s.get! (p + i)).toNat) := by
    intro r hr hr2
    refine ⟨hr, hr2, Nat.le_refl _, hl, fun i hi => ?_⟩
    have : i = 0 := by simp only at hi; omega
    subst this
    rw [e]; exact h
  have eN : 128 ≤ Utf8.runeError := by decide
  have eN2 : Utf8.runeError ≤ 1114111 := by decide
  split
  · next hc =>
    simp only [Bool.and_eq_true, beq_iff_eq, decide_eq_true_eq] at hc
    split
    · next h2 =>
      simp only [ge_iff_le] at h2
      refine ⟨h2, by show _ ≤ _; omega, by show 1 ≤ 2; omega, by show p + 2 ≤ _; omega, fun i hi => ?_⟩
      have : i = 0 ∨ i = 1 := by simp only at hi; omega
      rcases this with rfl | rfl
      · rw [e]; exact h
      · omega
    · exact one _ eN eN2
  · split
    · next hc =>
      simp only [Bool.and_eq_true, beq_iff_eq, decide_eq_true_eq] at hc
      split
      · next h2 =>
        simp only [Bool.and_eq_true, decide_eq_true_eq, ge_iff_le] at h2
        refine ⟨by show 128 ≤ _; omega, by show _ ≤ _; omega, by show 1 ≤ 3; omega, by show p + 3 ≤ _; omega, fun i hi => ?_⟩
        have : i = 0 ∨ i = 1 ∨ i = 2 := by simp only at hi; omega
        rcases this with rfl | rfl | rfl
        · rw [e]; exact h
        · omega
        · omega
      · exact one _ eN eN2
    · split
      · next hc =>
        simp only [Bool.and_eq_true, beq_iff_eq, decide_eq_true_eq] at hc
        split
        · next h2 =>
          simp only [Bool.and_eq_true, decide_eq_true_eq, ge_iff_le] at h2
          have hv : Utf8.valid (b.toNat % 8 * 262144 + (s.get! (p + 1)).toNat % 64 * 4096 + (s.get! (p + 2)).toNat % 64 * 64 + (s.get! (p + 3)).toNat % 64) = true := h2.2
          refine ⟨by show 128 ≤ _; omega, ?_, by show 1 ≤ 4; omega, by show p + 4 ≤ _; omega, fun i hi => ?_⟩
          · show _ ≤ _
            unfold Utf8.valid at hv
            simp at hv
            omega
          · have : i = 0 ∨ i = 1 ∨ i = 2 ∨ i = 3 := by simp only at hi; omega
            rcases this with rfl | rfl | rfl | rfl
            · rw [e]; exact h
            · omega
            · omega
            · omega
        · exact one _ eN eN2
      · exact one _ eN eN2
theorem plain_hi (b : UInt8) (h : 128 ≤ b.toNat) : plainB b = true := by
  have key : ∀ c : UInt8, c.toNat < 128 → (b == c) = false := fun c hc => beq_eq_false_iff_ne.2 (fun e => by subst e; omega)
  unfold plainB sepB parB remB
  rw [key 32 (by decide), key 9 (by decide), key 13 (by decide), key 44 (by decide), key 40 (by decide), key 41 (by decide), key 42 (by decide), key 59 (by decide)]
  rfl
end Go.Proofs.YtdamhdceajmdfaaDoor
