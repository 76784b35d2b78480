
-- commandOf, whole.
import Derived.Test.YtdamhdceajmdfaaDoorCB
import Derived.Test.YtdamhdceajmdfaaDoorCN
namespace Go.Proofs.YtdamhdceajmdfaaDoor
open Go.ChangeShapes Go.WideShapes Go.ChangeAt Go.RowKit Go.MapKept
set_option linter.unusedVariables false
set_option maxRecDepth 100000
theorem commandOf_c (v : Value) (x : ByteArray) (r : List ByteArray) (w : World) (hT : VT w) (hx : x.size ≤ 33554432) (hv : RowT w v (x :: r)) (hn : r.length ≤ 16777216) :
    Calls Tryd.prog 25 #[v] w fun e w' => CmSays (cmdA (x :: r)) w e w' := by
  obtain ⟨b, off, cap, e1, d1⟩ := RowG.tx hv (k := 0) (x := x) rfl
  rw [Nat.add_zero] at d1
  rw [List.length_cons] at e1
  subst e1
  have hl := verbN_lt x
  by_cases h0 : verbN x = 0
  · exact cmd_none x r r.length b off cap w hT hx h0 d1
  · cases hb : namedV (verbN x)
    · exact cmd_bare x r r.length b off cap (verbN x) _ w hT hx rfl (by omega) hl rfl hb hv rfl hn
    · exact cmd_named x r r.length b off cap (verbN x) _ w hT hx rfl (by omega) hl rfl hb hv rfl hn
end Go.Proofs.YtdamhdceajmdfaaDoor
