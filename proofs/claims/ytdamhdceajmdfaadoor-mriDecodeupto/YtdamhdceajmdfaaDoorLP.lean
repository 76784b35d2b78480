
-- Plain: a text's lines, with and without their ends.
import Derived.Test.YtdamhdceajmdfaaDoorP1
import Derived.Lib.IndexLaws
import Derived.Lib.Strings
namespace Go.Proofs.YtdamhdceajmdfaaDoor
open Go.ChangeShapes Go.WideShapes Go.ChangeAt Go.RowKit
set_option linter.unusedVariables false
set_option maxRecDepth 100000
set_option linter.unusedSimpArgs false
def rawG : List UInt8 → List UInt8 → List (List UInt8)
  | c, [] => if c = [] then [] else [c]
  | c, b :: r => if b = 10 then (c ++ [b]) :: rawG [] r else rawG (c ++ [b]) r
def rawL (l : List UInt8) : List (List UInt8) := rawG [] l
theorem rawG_all (x : List UInt8) : ∀ (c r : List UInt8), (∀ b ∈ x, b ≠ 10) → rawG c (x ++ r) = rawG (c ++ x) r := by
  induction x with
  | nil => intro c r _; simp
  | cons b t ih =>
    intro c r h
    rw [List.cons_append, rawG, if_neg (h b (by simp)), ih (c ++ [b]) r (fun d hd => h d (by simp [hd])), List.append_assoc]; rfl
theorem raw_found {l : List UInt8} {i : Nat} (h : Lib.indexByte l 10 = (i : Nat)) : rawL l = l.take (i + 1) :: rawL (l.drop (i + 1)) ∧ i < l.length := by
  obtain ⟨h1, h2⟩ := Lib.indexByte_some h
  have hi : i < l.length := (List.getElem?_eq_some_iff.1 h1).1
  have e : l = l.take i ++ 10 :: l.drop (i + 1) := by
    have := (List.take_append_drop i l).symm
    rw [List.drop_eq_getElem_cons hi] at this
    rw [show l[i] = 10 from (List.getElem?_eq_some_iff.1 h1).2] at this
    exact this
  refine ⟨?_, hi⟩
  have hno : ∀ b ∈ l.take i, b ≠ 10 := by
    intro b hb hq
    obtain ⟨j, hj⟩ := List.getElem?_of_mem hb
    have hji : j < i := by have := (List.getElem?_eq_some_iff.1 hj).1; rw [List.length_take] at this; omega
    rw [List.getElem?_take_of_lt hji, hq] at hj
    exact h2 j hji hj
  have ht : l.take (i + 1) = l.take i ++ [10] := by rw [takeSucc h1]
  unfold rawL
  rw [ht]
  conv => lhs; rw [e]
  rw [rawG_all _ _ _ hno, List.nil_append, rawG, if_pos rfl]
theorem raw_none {l : List UInt8} (h : Lib.indexByte l 10 = -1) (hne : l ≠ []) : rawL l = [l] := by
  have h2 := Lib.indexByte_none h
  have hno : ∀ b ∈ l, b ≠ 10 := by
    intro b hb hq
    obtain ⟨j, hj⟩ := List.getElem?_of_mem hb
    exact h2 j (by rw [hj, hq])
  unfold rawL
  have := rawG_all l [] [] hno
  rw [List.append_nil, List.nil_append] at this
  rw [this, rawG, if_neg hne]
def trimN (x : List UInt8) : List UInt8 := Lib.trimSuffix x [10]
theorem trimN_10 (c : List UInt8) : trimN (c ++ [10]) = c := by
  unfold trimN Lib.trimSuffix
  rw [if_pos (by unfold Lib.hasSuffix; simp)]
  simp
theorem trimN_no {c : List UInt8} (h : ∀ b ∈ c, b ≠ 10) : trimN c = c := by
  unfold trimN Lib.trimSuffix
  rw [if_neg]
  intro q
  have : ([10] : List UInt8) <:+ c := by unfold Lib.hasSuffix at q; simpa using q
  exact h 10 (this.subset (by simp)) rfl
theorem ln_raw (l : List UInt8) : ∀ c, (∀ b ∈ c, b ≠ 10) → lnG c l = (rawG c l).map trimN := by
  induction l with
  | nil =>
    intro c h
    rw [lnG, rawG]
    split
    · rfl
    · rw [List.map_cons, trimN_no h]; rfl
  | cons b r ih =>
    intro c h
    rw [lnG, rawG]
    split
    · next e => subst e; rw [List.map_cons, trimN_10, ih [] (by simp)]
    · next e => exact ih (c ++ [b]) (by intro d hd; rcases List.mem_append.1 hd with q | q; exact h d q; simp at q; subst q; exact e)
theorem lines_raw (l : List UInt8) : linesL l = (rawL l).map trimN := ln_raw l [] (by simp)
theorem trimN_len (x : List UInt8) : (trimN x).length ≤ x.length := by
  unfold trimN Lib.trimSuffix
  split
  · rw [List.length_take]; omega
  · exact Nat.le_refl _
end Go.Proofs.YtdamhdceajmdfaaDoor
