
-- The document's has, index, taken, copied, without, element.
import Derived.Test.YtnnpdomfkedhpaaHB
namespace Go.Proofs.Ytnnpdomfkedhpaa
open Go.ChangeShapes Go.WideShapes Go.ChangeAt Go.RowKit Go.MapKept
set_option linter.unusedVariables false
set_option maxRecDepth 100000
theorem woN_take {L : List ByteArray} {k : Nat} {y x : ByteArray} (h : L[k]? = some y) : woN (L.take (k + 1)) x = if y = x then woN (L.take k) x else woN (L.take k) x ++ [y] := by
  rw [takeSucc h]
  unfold woN
  rw [List.filter_append]
  by_cases e : y = x
  · subst e; simp
  · simp [e]
end Go.Proofs.Ytnnpdomfkedhpaa
