
-- strings.Lines: the iterator over a text's lines.
import Derived.Test.YtdamhdceajmdfaaDoorRZ
import Derived.Test.YtdamhdceajmdfaaDoorV2
import Derived.Test.YtdamhdceajmdfaaDoorShelf
import Derived.Deep.RegionLaw
namespace Go.Proofs.YtdamhdceajmdfaaDoor
open Go.RowKit Go.Shelf Go.ChangeShapes Go.WideShapes Go.ChangeAt Go.MapKept
set_option linter.unusedVariables false
set_option maxRecDepth 100000
set_option linter.unusedSimpArgs false
attribute [local go_sem] Oper.semAt_some
theorem lines_c (s : ByteArray) (w : World) : Calls Tryd.prog 36 #[.string s] w fun e w' => e = .returned (.func (.func 49) #[] #[.pointer (some ⟨w.heap.size, 0, none⟩)]) ∧ w' = w.alloc (.cells #[.string s] 9) := by
  go_enter Tryd.func36, Tryd.ntmps36
  go_wp2
  go_ret
  exact ⟨rfl, rfl⟩
end Go.Proofs.YtdamhdceajmdfaaDoor
