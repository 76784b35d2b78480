
-- A layout, plainly: numbers.
import Derived.Test.YtmlnnbinbbmmhaaDoorRow
namespace Go.Proofs.YtmlnnbinbbmmhaaDoor
set_option linter.unusedVariables false
set_option maxRecDepth 100000
abbrev Sp := ByteArray × Int
def evN (n : Int) : Int := n + n % 2
def roomN (n : Int) : Int := 60 + evN n
def sizeB (n : Int) : Bool := decide (0 ≤ n) && decide (n ≤ 9999999999)
def kindB (k : Int) : Bool := decide (k = 0) || (decide (k = 1) || decide (k = 2))
/-- what a member takes -/
def bodyN (k : Int) (n : Nat) (z : Int) : Int := if k = 1 then 60 else roomN ((n : Int) + z)
def spz (S : List Sp) (j : Nat) : Int := (S.getD j (⟨#[]⟩, 0)).2
def isz (I : List ByteArray) (j : Nat) : Nat := (I.getD j ⟨#[]⟩).size
def tkN (k : Int) (S : List Sp) (I : List ByteArray) (j : Nat) : Int := bodyN k (isz I j) (spz S j)
def plN (k : Int) (S : List Sp) (I : List ByteArray) (t0 : Int) : Nat → Int
  | 0 => t0
  | j + 1 => plN k S I t0 j + tkN k S I j
def headN (ix : Int) (T : Nat) : Int := (8 + if ix = -1 then 0 else roomN ix) + if 0 < T then roomN (T : Int) else 0
def sizesB (S : List Sp) (I : List ByteArray) : Bool := (List.range S.length).all fun j => sizeB (spz S j) && sizeB ((isz I j : Int) + spz S j)
structure Pa where
  a : List Int
  tb : Int
  tt : Int
  e : Int
def nmS (S : List Sp) : List ByteArray := S.map (·.1)
theorem kindB_iff {k : Int} : kindB k = true ↔ k = 0 ∨ k = 1 ∨ k = 2 := by unfold kindB; simp
theorem sizeB_iff {n : Int} : sizeB n = true ↔ 0 ≤ n ∧ n ≤ 9999999999 := by unfold sizeB; simp
theorem evN_nn {n : Int} (h : 0 ≤ n) : n ≤ evN n ∧ evN n ≤ n + 1 := by
  unfold evN
  omega
theorem sizes_at {S : List Sp} {I : List ByteArray} (h : sizesB S I = true) {j : Nat} (hj : j < S.length) : (0 ≤ spz S j ∧ spz S j ≤ 9999999999) ∧ 0 ≤ (isz I j : Int) + spz S j ∧ (isz I j : Int) + spz S j ≤ 9999999999 := by
  unfold sizesB at h
  have := List.all_eq_true.1 h j (List.mem_range.2 hj)
  rw [Bool.and_eq_true, sizeB_iff, sizeB_iff] at this
  exact this
/-- how far a layout goes -/
theorem plN_le {k : Int} {S : List Sp} {I : List ByteArray} {t0 : Int} (h0 : 0 ≤ t0) (h : sizesB S I = true) : ∀ j, j ≤ S.length → t0 ≤ plN k S I t0 j ∧ plN k S I t0 j ≤ t0 + 10000000060 * (j : Int) := by
  intro j
  induction j with
  | zero => intro _; simp [plN]
  | succ j ih =>
    intro hj
    obtain ⟨h1, h2⟩ := ih (by omega)
    obtain ⟨h3, h4, h5⟩ := sizes_at h (show j < S.length by omega)
    have h6 := evN_nn h4
    have e : plN k S I t0 (j + 1) = plN k S I t0 j + tkN k S I j := rfl
    rw [e]
    unfold tkN bodyN roomN
    split <;> constructor <;> omega
theorem headN_le {ix : Int} {T : Nat} (h : ix = -1 ∨ sizeB ix = true) (hT : T ≤ 67108864) : 8 ≤ headN ix T ∧ headN ix T ≤ 10067109000 := by
  unfold headN roomN
  have h2 := evN_nn (show (0 : Int) ≤ (T : Int) by omega)
  rcases h with h | h
  · rw [if_pos h]
    split <;> constructor <;> omega
  · rw [sizeB_iff] at h
    have h1 := evN_nn h.1
    rw [if_neg (by omega)]
    split <;> constructor <;> omega
end Go.Proofs.YtmlnnbinbbmmhaaDoor
