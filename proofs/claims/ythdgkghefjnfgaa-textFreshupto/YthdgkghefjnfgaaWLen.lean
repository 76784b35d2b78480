-- How many words a line has.
import Derived.Test.YthdgkghefjnfgaaR4
import Derived.Test.YthdgkghefjnfgaaGrown
namespace Go.Proofs.Ythdgkghefjnfgaa
open Go.RowKit
set_option linter.unusedVariables false
theorem scan_len (n : Nat) : ∀ (l : List UInt8) (pos : Nat) (q : Option Nat) (inn : Bool) (wd : List UInt8) (ws ws' : List ByteArray), l.length ≤ n → scanL l pos q inn wd ws = .inr ws' → ws'.length ≤ ws.length + l.length + 1 := by
  have he : ∀ (inn : Bool) (wd : List UInt8) (ws : List ByteArray), (endW inn wd ws).length ≤ ws.length + 1 := by
    intro inn wd ws; unfold endW; split
    · simp
    · omega
  induction n with
  | zero =>
    intro l pos q inn wd ws ws' hl h
    obtain rfl : l = [] := List.eq_nil_of_length_eq_zero (by omega)
    rw [scan_nil] at h
    cases q with
    | none => cases h; have := he inn wd ws; simp; omega
    | some p => cases h
  | succ n ih =>
    intro l pos q inn wd ws ws' hl h
    cases l with
    | nil =>
      rw [scan_nil] at h
      cases q with
      | none => cases h; have := he inn wd ws; simp; omega
      | some p => cases h
    | cons c r =>
      simp only [List.length_cons] at hl ⊢
      by_cases h1 : partsB c = true ∧ q = none
      · obtain ⟨hp, rfl⟩ := h1
        rw [scan_part _ _ _ _ _ hp] at h
        by_cases hr : r = []
        · subst hr
          rw [scan_nil] at h
          cases h
          have h3 := he inn wd ws
          show (endW inn wd ws).length ≤ _
          simp only [List.length_nil]; omega
        · have := ih _ _ _ _ _ _ _ (by omega) h
          have h2 := he inn wd ws
          omega
      · by_cases h2 : c = 92
        · subst h2
          cases e : escL r with
          | none => rw [scan_bad _ _ _ _ _ _ e] at h; cases h
          | some x =>
            obtain ⟨b, m⟩ := x
            rw [scan_esc _ _ _ _ _ _ b m e] at h
            have := ih _ _ _ _ _ _ _ (by simp; omega) h
            simp at this; omega
        · by_cases h3 : c = 34
          · subst h3
            rw [scan_quote] at h
            have := ih _ _ _ _ _ _ _ (by omega) h; omega
          · rw [scan_byte _ _ _ _ _ _ h1 h2 h3] at h
            have := ih _ _ _ _ _ _ _ (by omega) h; omega
theorem words_len (s : ByteArray) (ws : List ByteArray) (h : wordsL (lst s) = .inr ws) : ws.length ≤ s.size + 1 := by
  have := scan_len _ _ _ _ _ _ _ _ (Nat.le_refl _) h
  rw [lst_len] at this; simpa using this
end Go.Proofs.Ythdgkghefjnfgaa
