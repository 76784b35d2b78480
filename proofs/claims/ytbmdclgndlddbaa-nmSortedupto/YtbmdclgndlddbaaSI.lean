
-- The order of rows, plainly; merges.
import Derived.Test.YtbmdclgndlddbaaSU
import Derived.Test.YtbmdclgndlddbaaOS
import Derived.Sort.Walk0
namespace Go.Proofs.Ytbmdclgndlddbaa
open Go.Sort
set_option linter.unusedVariables false
set_option maxRecDepth 100000
def sltB (a b : ByteArray) : Bool := Op.bytesLess a.toList b.toList
theorem sltB_irr (a : ByteArray) : sltB a a = false := by
  unfold sltB; rw [bytesLess_eq]; simp [List.lt_irrefl]
theorem sltB_tr {a b c : ByteArray} (h1 : sltB a b = true) (h2 : sltB b c = true) : sltB a c = true := by
  unfold sltB at *; rw [bytesLess_eq] at *
  simp only [decide_eq_true_eq] at *
  exact List.lt_trans h1 h2
theorem toList_inj {a b : ByteArray} (h : a.toList = b.toList) : a = b := by
  by_cases e : a = b
  · exact e
  · have := strNe e
    rw [h] at this
    simp at this
theorem sltB_tri {a b : ByteArray} (h1 : sltB a b = false) (h2 : sltB b a = false) : a = b := by
  unfold sltB at *; rw [bytesLess_eq] at *
  simp only [decide_eq_false_iff_not] at *
  exact toList_inj (List.le_antisymm (List.not_lt.1 h2) (List.not_lt.1 h1))
def cN (x y : Rw) : Int := if sltB x.nm y.nm = true then -1 else if sltB y.nm x.nm = true then 1 else 0
def cV (x y : Rw) : Int := if x.va < y.va then -1 else if y.va < x.va then 1 else 0
def cU (x y : Rw) : Int := if x.sc = 0 ∧ y.sc ≠ 0 then -1 else if x.sc ≠ 0 ∧ y.sc = 0 then 1 else 0
def or2 (a b : Int) : Int := if a ≠ 0 then a else b
def cfR (num : Bool) (x y : Rw) : Int := if num = true then or2 (cU x y) (or2 (cV x y) (cN x y)) else or2 (cN x y) (cV x y)
/-- one row comes ahead of another -/
def LtR (num : Bool) (x y : Rw) : Prop := if num = true then (x.sc = 0 ∧ y.sc ≠ 0) ∨ ((x.sc = 0 ↔ y.sc = 0) ∧ (x.va < y.va ∨ (x.va = y.va ∧ sltB x.nm y.nm = true))) else sltB x.nm y.nm = true ∨ (x.nm = y.nm ∧ x.va < y.va)
theorem sltB_asym {a b : ByteArray} (h : sltB a b = true) : sltB b a = false := by
  cases h2 : sltB b a with
  | false => rfl
  | true => have := sltB_tr h h2; rw [sltB_irr] at this; cases this
theorem lt_iff (num : Bool) (x y : Rw) : cfR num x y < 0 ↔ LtR num x y := by
  have t1 := @sltB_tri x.nm y.nm
  have t2 := @sltB_asym x.nm y.nm
  have t3 : x.nm = y.nm → sltB x.nm y.nm = false := fun e => by rw [e]; exact sltB_irr _
  unfold cfR LtR or2 cN cV cU
  cases num <;> simp only [Bool.false_eq_true, if_false, if_true] <;> grind
theorem LtR.irr (num : Bool) (x : Rw) : ¬ LtR num x x := by
  have := sltB_irr x.nm
  unfold LtR
  cases num <;> simp [this]
theorem LtR.tr {num : Bool} {x y z : Rw} (h1 : LtR num x y) (h2 : LtR num y z) : LtR num x z := by
  have t1 := @sltB_tr x.nm y.nm z.nm
  unfold LtR at *
  cases num <;> simp only [Bool.false_eq_true, if_false, if_true] at * <;> grind
theorem LtR.neg {num : Bool} {x y z : Rw} (h1 : ¬ LtR num x y) (h2 : ¬ LtR num y z) : ¬ LtR num x z := by
  have t1 := @sltB_tr x.nm z.nm y.nm
  have t2 := @sltB_tr y.nm x.nm z.nm
  have t3 := @sltB_tri x.nm y.nm
  have t4 := @sltB_tri y.nm z.nm
  have t5 := @sltB_tri y.nm x.nm
  have t6 := @sltB_asym x.nm z.nm
  unfold LtR at *
  cases num <;> simp only [Bool.false_eq_true, if_false, if_true] at * <;> grind
end Go.Proofs.Ytbmdclgndlddbaa
