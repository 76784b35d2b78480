
import Derived.Test.YtjpoifoejbabiaaDoorCal
namespace Go.Proofs.YtjpoifoejbabiaaDoor
theorem IsDay.next {day y m d : Int} (h : IsDay day y m d) : ∃ y' m' d', IsDay (day + 1) y' m' d' := by
  obtain ⟨h0, h1, h2, h3, h4, h5⟩ := h
  by_cases c1 : d < ml y m
  · exact ⟨y, m, d + 1, h0, h1, h2, by omega, by omega, by omega⟩
  · have e := ml_bmon y m h1 h2
    by_cases c2 : m < 12
    · have p := ml_pos y (m + 1)
      exact ⟨y, m + 1, 1, h0, by omega, by omega, by omega, by omega, by omega⟩
    · obtain rfl : m = 12 := by omega
      rw [show (12 : Int) + 1 = 13 from rfl, bmon_13] at e
      have p := ml_pos (y + 1) 1
      have q := byear_succ y
      have r := bmon_1 (y + 1)
      exact ⟨y + 1, 1, 1, by omega, by omega, by omega, by omega, by omega, by omega⟩
theorem exists_day (D : Int) (h : 0 ≤ D) : ∃ y m d, IsDay D y m d := by
  obtain ⟨n, rfl⟩ := Int.eq_ofNat_of_zero_le h
  clear h
  induction n with
  | zero => exact ⟨1970, 1, 1, by omega, by omega, by omega, by omega, by decide, by decide⟩
  | succ n ih =>
    obtain ⟨y, m, d, h⟩ := ih
    obtain ⟨y', m', d', h'⟩ := h.next
    exact ⟨y', m', d', by rw [show ((n + 1 : Nat) : Int) = (n : Int) + 1 by omega]; exact h'⟩
theorem IsDay.year_le {day y m d : Int} (h : IsDay day y m d) : y ≤ 1970 + day := by
  have a := h.inYear
  have b := h.1
  have : y - 1970 ≤ byear y := by unfold byear; omega
  omega
end Go.Proofs.YtjpoifoejbabiaaDoor
