
-- The document's own runes: does a form stand here?
import Derived.Test.YtjpoifoejbabiaaDoorF1
namespace Go.Proofs.YtjpoifoejbabiaaDoor
open Go.RowKit
set_option linter.unusedVariables false
set_option maxRecDepth 100000
theorem dropq_cons (s : ByteArray) (k : Nat) (h : k < s.size) : (lsq s).drop k = s[k] :: (lsq s).drop (k + 1) := by
  have hl := lsq_len s
  rw [List.drop_eq_getElem_cons (by omega)]; rfl
theorem fits_step0 (n L0 H0 L1 H1 L2 H2 L3 H3 : Nat) (h : 0 < n) {c : UInt8} {r : List UInt8} :
    fitsL ((([(L0, H0), (L1, H1), (L2, H2), (L3, H3)] : List (Nat × Nat)).take n).drop 0) (c :: r) = (decide (L0 ≤ c.toNat) && decide (c.toNat ≤ H0) && fitsL ((([(L0, H0), (L1, H1), (L2, H2), (L3, H3)] : List (Nat × Nat)).take n).drop 1) r) := by
  obtain ⟨m, rfl⟩ : ∃ m, n = m + 1 := ⟨n - 1, by omega⟩
  simp [fitsL]
theorem fits_step1 (n L0 H0 L1 H1 L2 H2 L3 H3 : Nat) (h : 1 < n) {c : UInt8} {r : List UInt8} :
    fitsL ((([(L0, H0), (L1, H1), (L2, H2), (L3, H3)] : List (Nat × Nat)).take n).drop 1) (c :: r) = (decide (L1 ≤ c.toNat) && decide (c.toNat ≤ H1) && fitsL ((([(L0, H0), (L1, H1), (L2, H2), (L3, H3)] : List (Nat × Nat)).take n).drop 2) r) := by
  obtain ⟨m, rfl⟩ : ∃ m, n = m + 2 := ⟨n - 2, by omega⟩
  simp [fitsL]
theorem fits_step2 (n L0 H0 L1 H1 L2 H2 L3 H3 : Nat) (h : 2 < n) {c : UInt8} {r : List UInt8} :
    fitsL ((([(L0, H0), (L1, H1), (L2, H2), (L3, H3)] : List (Nat × Nat)).take n).drop 2) (c :: r) = (decide (L2 ≤ c.toNat) && decide (c.toNat ≤ H2) && fitsL ((([(L0, H0), (L1, H1), (L2, H2), (L3, H3)] : List (Nat × Nat)).take n).drop 3) r) := by
  obtain ⟨m, rfl⟩ : ∃ m, n = m + 3 := ⟨n - 3, by omega⟩
  simp [fitsL]
theorem fits_step3 (n L0 H0 L1 H1 L2 H2 L3 H3 : Nat) (h : 3 < n) {c : UInt8} {r : List UInt8} :
    fitsL ((([(L0, H0), (L1, H1), (L2, H2), (L3, H3)] : List (Nat × Nat)).take n).drop 3) (c :: r) = (decide (L3 ≤ c.toNat) && decide (c.toNat ≤ H3) && fitsL ((([(L0, H0), (L1, H1), (L2, H2), (L3, H3)] : List (Nat × Nat)).take n).drop 4) r) := by
  obtain ⟨m, rfl⟩ : ∃ m, n = m + 4 := ⟨n - 4, by omega⟩
  simp [fitsL]
theorem fits_short (f : List (Nat × Nat)) : ∀ l : List UInt8, l.length < f.length → fitsL f l = false := by
  induction f with
  | nil => intro l h; simp at h
  | cons x f ih =>
    intro l h
    obtain ⟨lo, hi⟩ := x
    cases l with
    | nil => rfl
    | cons c l => simp only [fitsL]; rw [ih l (by simpa using h)]; simp
end Go.Proofs.YtjpoifoejbabiaaDoor
