
-- The document's Line.
import Derived.Test.YtjpoifoejbabiaaDoorTL
import Derived.Test.YtjpoifoejbabiaaDoorDay
import Derived.Deep.RegionHeld3
import Derived.Deep.Cut
import Derived.BigRegion
namespace Go.Proofs.YtjpoifoejbabiaaDoor
open Go.ChangeShapes Go.WideShapes Go.ChangeAt Go.RowKit
set_option linter.unusedVariables false
set_option maxRecDepth 100000
set_option linter.unusedSimpArgs false
theorem mName_le (k : Nat) : (mName k).size ≤ 3 := by
  rcases Nat.lt_or_ge k 12 with h | h
  · rw [mName_size k h]; exact Nat.le_refl _
  · unfold mName
    rw [strB_size]
    simp only [List.getD]
    rw [List.getElem?_eq_none (by simpa using h)]
    simp
theorem dateT_size (s : Int) : (dateT s).size ≤ 200 := by
  rcases dateT_ways s with h | ⟨y, m, d, h1, hD, h⟩
  · rw [h]; decide
  · rw [h]
    have hy := IsDay.year_le hD
    have hs : s / 86400 ≤ 11574075 := by have := h1.2; omega
    have h5 := mName_le (m - 1)
    have h6 := dayB_size d
    have h7 := twoB_size (s % 86400 / 3600).toNat
    have h8 := twoB_size (s % 3600 / 60).toNat
    have h0 := hD.1
    have h9 := yearB_size y (by omega) (by omega)
    unfold dateS
    simp only [ByteArray.size_append]
    have e1 : (⟨#[32]⟩ : ByteArray).size = 1 := rfl
    have e2 : (⟨#[58]⟩ : ByteArray).size = 1 := rfl
    omega
end Go.Proofs.YtjpoifoejbabiaaDoor
