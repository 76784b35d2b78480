
-- A builder stands still where nothing below is written.
import Derived.Test.YtdamhdceajmdfaaDoorB1
import Derived.Test.YtdamhdceajmdfaaDoorM1
namespace Go.Proofs.YtdamhdceajmdfaaDoor
open Go.ChangeShapes Go.WideShapes Go.ChangeAt Go.RowKit
set_option linter.unusedVariables false
set_option maxRecDepth 100000
theorem isB_on {B b : Nat} {l : List UInt8} {w w' : World} (h : IsB B b l w) (hb : Below w.heap.size w w') : IsB B b l w' := by
  have key : ∀ p, Lib.BuilderAtF 46 5 B b p (Lib.byteCells l) w → Lib.BuilderAtF 46 5 B b p (Lib.byteCells l) w' := by
    intro p h
    obtain ⟨hB, v, hbk, hown, hne⟩ := h
    exact ⟨hB, v, (hb.block b (blk_lt hbk)).trans hbk, hown.kept (row := none) ⟨hb.os, hb.tape, hb.output, hb.size, fun k hk _ => hb.block k hk⟩ (by cases hv : v.ownBlock <;> simp), hne⟩
  rcases h with h | h
  · exact .inl (key _ h)
  · exact .inr (key _ h)
theorem fst_at {P : List (Mr × Value)} {k : Nat} {p : Mr × Value} (h : P[k]? = some p) : (P.map (·.1))[k]? = some p.1 := by rw [List.getElem?_map, h]; rfl
end Go.Proofs.YtdamhdceajmdfaaDoor
