
-- A world in which one block alone has changed.
import Derived.Test.YtkmehjikllilaaaDoorT2
import Derived.Test.YtkmehjikllilaaaDoorJ0
namespace Go.Proofs.YtkmehjikllilaaaDoor
open Go.ChangeShapes Go.WideShapes Go.ChangeAt Go.RowKit
set_option linter.unusedVariables false
set_option maxRecDepth 100000
/-- nothing has turned but block k, and blocks are new -/
structure Kq (k : Nat) (w w' : World) : Prop where
  os : w'.os = w.os
  tape : w'.tape = w.tape
  output : w'.output = w.output
  size : w.heap.size ≤ w'.heap.size
  block : ∀ j, j ≠ k → j < w.heap.size → w'.heap[j]? = w.heap[j]?
theorem Kq.of {k : Nat} {w w' : World} (h : Below w.heap.size w w') : Kq k w w' := ⟨h.os, h.tape, h.output, h.size, fun j _ hj => h.block j hj⟩
theorem Kq.trans {k : Nat} {a b c : World} (h : Kq k a b) (g : Kq k b c) : Kq k a c :=
  ⟨g.os.trans h.os, g.tape.trans h.tape, g.output.trans h.output, Nat.le_trans h.size g.size, fun j h1 h2 => (g.block j h1 (Nat.lt_of_lt_of_le h2 h.size)).trans (h.block j h1 h2)⟩
theorem Kq.set {k : Nat} {a w : World} (h : Kq k a w) (i : Nat) (v : Value) : Kq k a (w.setCell ⟨k, i, none⟩ v) := by
  have hb : Below 0 w (w.setCell ⟨k, i, none⟩ v) := Below.setCell (Below.refl _ _) (Nat.zero_le _) _
  exact ⟨hb.os.trans h.os, hb.tape.trans h.tape, hb.output.trans h.output, Nat.le_trans h.size hb.size, fun j h1 h2 => (Below.heap_setCell w _ _ j h1).trans (h.block j h1 h2)⟩
theorem Kq.below {k B : Nat} {w w' : World} (h : Kq k w w') (hk : B ≤ k) (hB : B ≤ w.heap.size) : Below B w w' := ⟨h.os, h.tape, h.output, h.size, fun j hj => h.block j (by omega) (by omega)⟩
theorem Kq.own {k B : Nat} {w w' : World} {e : TypeId} {s : Nat} {v : Value} {n : Nat} {xs : List Value} (h : Kq k w w') (ho : w.ownsRow B e s v n xs) (hk : k < B) : w'.ownsRow B e s v n xs := by
  refine ⟨ho.1, ?_⟩
  rcases ho.2 with h1 | ⟨g, cap, cur, h1, h2, h3, h4⟩
  · exact Or.inl h1
  · exact Or.inr ⟨g, cap, cur, h1, h2, (h.block g (by omega) (Array.getElem?_eq_some_iff.1 h3).1).trans h3, h4⟩
theorem secs_kq {k B : Nat} {w w' : World} {v : Value} {n : Nat} {s : Nat → Sec} (hq : Kq k w w') (h : SecsIn B w v n s) {t : TypeId} {cs : Array Value} (hk : w.heap[k]? = some (.cells cs t (0, 0))) (ht : t ≠ 60) : SecsIn B w' v n s := by
  obtain ⟨ao, c, hv, hr⟩ := h
  refine ⟨ao, c, hv, fun hn => ?_⟩
  obtain ⟨g, cur, h1, h2, h3, h4⟩ := hr hn
  refine ⟨g, cur, h1, h2, (hq.block g ?_ (Array.getElem?_eq_some_iff.1 h3).1).trans h3, h4⟩
  rintro rfl
  rw [h3] at hk
  simp only [Option.some.injEq, Obj.cells.injEq] at hk
  exact ht hk.2.1.symm
theorem set_row {w : World} {k i : Nat} {cs : Array Value} {t : TypeId} (v : Value) (h : w.heap[k]? = some (.cells cs t (0, 0))) : (w.setCell ⟨k, i, none⟩ v).heap[k]? = some (.cells (cs.setIfInBounds i v) t (0, 0)) := heap_setCell_same _ k i _ _ v h
end Go.Proofs.YtkmehjikllilaaaDoor
