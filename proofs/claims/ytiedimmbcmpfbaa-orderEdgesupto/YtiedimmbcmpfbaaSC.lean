
-- setOf of places, numbersByPlace, Clone.
import Derived.Test.YtiedimmbcmpfbaaAP
import Derived.Lib.SliceRun
namespace Go.Proofs.Ytiedimmbcmpfbaa
open Go.ChangeShapes Go.WideShapes Go.ChangeAt Go.RowKit Go.MapKept
set_option linter.unusedVariables false
set_option maxRecDepth 100000
theorem elT : El txL 1 9 27 16 := ⟨Try.underlying27, ⟨.string ⟨#[]⟩, by kernel_rfl, rfl⟩, txL_len, by decide⟩
theorem elI : El nmL 1 3 40 8 := ⟨Try.underlying40, ⟨.int .i64 0, by kernel_rfl, rfl⟩, nmL_len, by decide⟩
/-- the first place of a number in a list -/
def idx (A : List Int) (x : Int) : Option Nat := A.findIdx? (fun y => decide (y = x))
def plcF (A : List Int) (k : Nat) : Int → Option Value := fun x => (idx (A.drop k) x).map fun i => .int .i64 ((i + k : Nat) : Int)
theorem plcF_step {A : List Int} {k : Nat} {y : Int} (h : A[k]? = some y) (x : Int) : (if x = y then some (Value.int .i64 (k : Int)) else plcF A (k + 1) x) = plcF A k x := by
  have hd : A.drop k = y :: A.drop (k + 1) := by
    obtain ⟨hl, he⟩ := List.getElem?_eq_some_iff.1 h
    rw [← List.getElem_cons_drop hl, he]
  unfold plcF idx
  rw [hd, List.findIdx?_cons]
  by_cases hxy : x = y
  · subst hxy; simp
  · have : decide (y = x) = false := by simp; exact fun e => hxy e.symm
    rw [if_neg hxy, this]
    simp only [Bool.false_eq_true, if_false, Option.map_map, Function.comp_def]
    congr 1
    funext i
    congr 1
    omega
theorem plcF_end {A : List Int} {k : Nat} (h : A.length ≤ k) (x : Int) : plcF A k x = none := by
  unfold plcF idx; rw [List.drop_eq_nil_of_le h]; rfl
end Go.Proofs.Ytiedimmbcmpfbaa
