
-- Plain mathematics: lists of names written.
import Derived.Test.YtmlnnbinbbmmhaaDoorG0
namespace Go.Proofs.YtmlnnbinbbmmhaaDoor
set_option linter.unusedVariables false
set_option maxRecDepth 100000

def ownB (l : List UInt8) : Bool := decide (l.length ≤ 16) && (!decide ((32 : UInt8) ∈ l) && !decide (l = fSYMDEF))
/-- the field of a name, where the table has t bytes so far -/
def fieldOf (k : Int) (l : List UInt8) (t : Nat) : List UInt8 :=
  if k = 2 then (if ownB l = true then l else [35, 49, 47] ++ dg 10 l.length)
  else if k = 0 ∧ l.length ≤ 15 then l ++ [47] else 47 :: dg 10 t
abbrev inTab (k : Int) (l : List UInt8) : Prop := ¬ k = 2 ∧ ¬ (k = 0 ∧ l.length ≤ 15)

def inlOf (k : Int) (l : List UInt8) : List UInt8 := if k = 2 ∧ ownB l = false then l else []
def tabOf (k : Int) (l : List UInt8) : List UInt8 := if inTab k l then l ++ [47, 10] else []
def tabL (k : Int) (L : List (List UInt8)) : List UInt8 := L.flatMap (tabOf k)
/-- the field of the j-th name -/
def fAt (k : Int) (L : List (List UInt8)) (j : Nat) : List UInt8 := fieldOf k (L.getD j []) (tabL k (L.take j)).length
def iAt (k : Int) (L : List (List UInt8)) (j : Nat) : List UInt8 := inlOf k (L.getD j [])
theorem tab_next (k : Int) (L : List (List UInt8)) (j : Nat) (x : List UInt8) (h : L[j]? = some x) : tabL k (L.take (j + 1)) = tabL k (L.take j) ++ tabOf k x := by
  unfold tabL
  rw [List.take_add_one, h]
  simp [List.flatMap_append]
end Go.Proofs.YtmlnnbinbbmmhaaDoor
