
-- shelflaw8.wide, twin: contracts.
import Derived.Test.YtmlnnbinbbmmhaaDoorK1
import Derived.Laws.AppendOwnNone
namespace Go.Proofs.YtmlnnbinbbmmhaaDoor
open Go.ChangeShapes Go.WideShapes Go.ChangeAt Go.RowKit
set_option linter.unusedVariables false
set_option maxRecDepth 100000

def wsum (L : List ByteArray) : Nat := (L.map (fun b => b.size + 2)).sum
theorem wsum_next (L : List ByteArray) (j : Nat) (hj : j < L.length) : wsum (L.take (j + 1)) = wsum (L.take j) + (L.getD j .empty).size + 2 := by
  have : L.getD j .empty = L[j] := by simp [List.getD, List.getElem?_eq_getElem hj]
  unfold wsum
  rw [List.take_add_one, List.map_append, List.sum_append, List.getElem?_eq_getElem hj, this]
  simp; omega
end Go.Proofs.YtmlnnbinbbmmhaaDoor
