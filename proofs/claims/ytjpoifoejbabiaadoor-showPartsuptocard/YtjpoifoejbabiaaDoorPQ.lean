
-- Plain: no control byte in a told name.
import Derived.Test.YtjpoifoejbabiaaDoorLine
import Derived.Test.YtjpoifoejbabiaaDoorWords
namespace Go.Proofs.YtjpoifoejbabiaaDoor
open Go
set_option linter.unusedVariables false
set_option maxRecDepth 100000
set_option linter.unusedSimpArgs false
theorem one_ge (l : List UInt8) (hl : l ≠ []) : ∀ c ∈ oneL l, 32 ≤ c.toNat := by
  intro c hc
  unfold oneL at hc
  split at hc
  · rename_i h
    rcases h with h | h
    · have := plain_bytes l hl h c hc; omega
    · rw [take_one' l hl (head_small l hl (by omega)), u8_eq h] at hc
      simp at hc; subst hc; decide
  · split at hc
    · simp at hc; rcases hc with rfl | rfl <;> decide
    · split at hc
      · simp at hc; subst hc; decide
      · split at hc
        · simp at hc; rcases hc with rfl | rfl <;> decide
        · split at hc
          · simp at hc; rcases hc with rfl | rfl <;> decide
          · exact (hexs_ok _ c hc).1
theorem body_ge (n : Nat) : ∀ l : List UInt8, l.length ≤ n → ∀ c ∈ bodyL l, 32 ≤ c.toNat := by
  induction n with
  | zero => intro l h c hc; have : l = [] := List.eq_nil_of_length_eq_zero (by omega); subst this; simp [bodyL_nil] at hc
  | succ n ih =>
    intro l h c hc
    by_cases hl : l = []
    · subst hl; simp [bodyL_nil] at hc
    · rw [bodyL_cons l hl, List.mem_append] at hc
      rcases hc with hc | hc
      · exact one_ge l hl c hc
      · have := wid_pos l
        have : 0 < l.length := List.length_pos_iff.2 hl
        exact ih _ (by simp; omega) c hc
theorem quote_ge (l : List UInt8) : ∀ c ∈ quoteL l, 32 ≤ c.toNat := by
  intro c hc
  unfold quoteL at hc
  split at hc
  · rename_i h
    unfold bareL at h
    rw [Bool.and_eq_true] at h
    have := allPlain_bytes _ l (Nat.le_refl _) h.2 c hc
    omega
  · simp only [List.mem_cons, List.mem_append, List.not_mem_nil, or_false] at hc
    rcases hc with rfl | hc | rfl
    · decide
    · exact body_ge _ l (Nat.le_refl _) c hc
    · decide
end Go.Proofs.YtjpoifoejbabiaaDoor
