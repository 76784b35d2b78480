
-- A builder stands still where nothing below is written; what goes through a list.
import Derived.Test.YtjpoifoejbabiabDoorPS
import Derived.Test.YtjpoifoejbabiabDoorB1
import Derived.Test.YtjpoifoejbabiabDoorA1
namespace Go.Proofs.YtjpoifoejbabiabDoor
open Go.ChangeShapes Go.WideShapes Go.ChangeAt Go.RowKit
set_option linter.unusedVariables false
set_option maxRecDepth 100000
set_option linter.unusedSimpArgs false
theorem isB_on {B b : Nat} {l : List UInt8} {w w' : World} (h : IsB B b l w) (hb : Below w.heap.size w w') : IsB B b l w' := by
  have key : ∀ p, Lib.BuilderAtF 60 5 B b p (Lib.byteCells l) w → Lib.BuilderAtF 60 5 B b p (Lib.byteCells l) w' := by
    intro p h
    obtain ⟨hB, v, hbk, hown, hne⟩ := h
    exact ⟨hB, v, (hb.block b (blk_lt hbk)).trans hbk, hown.kept (row := none) ⟨hb.os, hb.tape, hb.output, hb.size, fun k hk _ => hb.block k hk⟩ (by cases hv : v.ownBlock <;> simp), hne⟩
  rcases h with h | h
  · exact .inl (key _ h)
  · exact .inr (key _ h)
theorem fm_take {α β : Type} (S : α → List β) {L : List α} {k : Nat} {x : α} (h : L[k]? = some x) : (L.take (k + 1)).flatMap S = (L.take k).flatMap S ++ S x := by
  rw [takeSucc h, List.flatMap_append]; simp
theorem fm_le {α β : Type} (S : α → List β) (L : List α) {k : Nat} : ((L.take k).flatMap S).length ≤ (L.flatMap S).length := by
  have := congrArg List.length (congrArg (List.flatMap S) (List.take_append_drop k L))
  rw [List.flatMap_append, List.length_append] at this
  omega
theorem fm_le1 {α β : Type} (S : α → List β) {L : List α} {k : Nat} {x : α} (h : L[k]? = some x) : ((L.take k).flatMap S).length + (S x).length ≤ (L.flatMap S).length := by
  have := fm_le S L (k := k + 1)
  rw [fm_take S h, List.length_append] at this
  exact this
end Go.Proofs.YtjpoifoejbabiabDoor
