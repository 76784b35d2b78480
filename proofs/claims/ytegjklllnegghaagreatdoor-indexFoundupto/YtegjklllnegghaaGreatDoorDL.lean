
-- Plain mathematics: how many entries an index has at most.
import Derived.Test.YtegjklllnegghaaGreatDoorI1
namespace Go.Proofs.YtegjklllnegghaaGreatDoor
set_option linter.unusedVariables false
set_option maxRecDepth 100000
theorem rowA_len {b : List UInt8} {w : Nat} {L : List En} (hw : 0 < w) (h : rowA b w = some L) : L.length ≤ b.length := by
  unfold rowA at h
  by_cases h1 : b.length < w
  · rw [if_pos h1] at h; cases h
  · rw [if_neg h1] at h
    by_cases h2 : (b.length - w) / w < beW b 0 w
    · rw [if_pos h2] at h; cases h
    · rw [if_neg h2] at h
      cases q : rowP b w (beW b 0 w) (beW b 0 w) with
      | none => rw [q] at h; cases h
      | some p =>
        rw [q] at h
        simp only [Option.bind_some] at h
        by_cases h3 : zerosB b p = true
        · rw [if_pos h3] at h
          injection h with h
          rw [← h]; unfold rowL
          rw [List.length_map, List.length_range]
          have := Nat.div_le_self (b.length - w) w
          omega
        · rw [if_neg h3] at h; cases h
theorem bsdA_len {b : List UInt8} {L : List En} (h : bsdA b = some L) : L.length ≤ b.length := by
  unfold bsdA at h
  by_cases h1 : b.length < 4 ∨ ¬ bsN b % 8 = 0 ∨ b.length < 8 + bsN b ∨ b.length < 8 + bsN b + bsK b
  · rw [if_pos h1] at h; cases h
  · rw [if_neg h1] at h
    by_cases h3 : bsAll b = true
    · rw [if_pos h3] at h
      injection h with h
      rw [← h, List.length_map, List.length_range]
      have := Nat.div_le_self (bsN b) 8
      omega
    · rw [if_neg h3] at h; cases h
theorem decL_len (f : Int) (b : List UInt8) : (decL f b).length ≤ b.length := by
  unfold decL
  cases h : decA f b with
  | none => exact Nat.zero_le _
  | some L =>
    show L.length ≤ _
    unfold decA at h
    by_cases h1 : f = 1
    · rw [if_pos h1] at h; exact rowA_len (by omega) h
    · rw [if_neg h1] at h
      by_cases h2 : f = 2
      · rw [if_pos h2] at h; exact rowA_len (by omega) h
      · rw [if_neg h2] at h
        by_cases h3 : f = 3
        · rw [if_pos h3] at h; exact bsdA_len h
        · rw [if_neg h3] at h; cases h
end Go.Proofs.YtegjklllnegghaaGreatDoor
