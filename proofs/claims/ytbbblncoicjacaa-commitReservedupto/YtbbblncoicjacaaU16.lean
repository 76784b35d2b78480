
-- Stat of the volume.
import Derived.Test.YtbbblncoicjacaaU10
import Derived.Deep.DrawnRows
namespace Go.Proofs.Ytbbblncoicjacaa
open Go.RowKit
set_option linter.unusedVariables false
variable {PS : (Nat → Prop) → Nat → St → World → Prop}
attribute [local go_sem ↓] Go.wp_at_zero Go.wp_at_succ
theorem six_at {w : World} {r : Nat} {c0 c1 c2 c3 c4 c5 : Value} {t : TypeId} (h : w.heap[r]? = some (.cells #[c0, c1, c2, c3, c4, c5] t (0, 0))) : w.cell? ⟨r, 0, none⟩ = some c0 ∧ w.cell? ⟨r, 1, none⟩ = some c1 ∧ w.cell? ⟨r, 2, none⟩ = some c2 ∧ w.cell? ⟨r, 3, none⟩ = some c3 ∧ w.cell? ⟨r, 4, none⟩ = some c4 ∧ w.cell? ⟨r, 5, none⟩ = some c5 ∧ w.frozen? ⟨r, 0, none⟩ = false ∧ w.frozen? ⟨r, 1, none⟩ = false ∧ w.frozen? ⟨r, 2, none⟩ = false ∧ w.frozen? ⟨r, 3, none⟩ = false ∧ w.frozen? ⟨r, 4, none⟩ = false ∧ w.frozen? ⟨r, 5, none⟩ = false := by
  refine ⟨?_, ?_, ?_, ?_, ?_, ?_, Lib.frozen_of_heap h 0, Lib.frozen_of_heap h 1, Lib.frozen_of_heap h 2, Lib.frozen_of_heap h 3, Lib.frozen_of_heap h 4, Lib.frozen_of_heap h 5⟩ <;> (rw [Lib.cell_of_heap h]; rfl)
theorem VDid.six (C : PC PS) {G : Nat → Prop} {q : Nat} {v : Vs} {w0 w : World} (h : PV PS G q v w) (hk : Kp G w0 w) {r : Nat} (hr : ¬ G r) (hr0 : w0.heap.size ≤ r) (v0 v1 v2 v3 v4 v5 : Value) : VDid PS G q v w0 ((((((w.setCell ⟨r, 0, none⟩ v0).setCell ⟨r, 1, none⟩ v1).setCell ⟨r, 2, none⟩ v2).setCell ⟨r, 3, none⟩ v3).setCell ⟨r, 4, none⟩ v4).setCell ⟨r, 5, none⟩ v5) := by
  obtain ⟨p, m, Fd, O⟩ := h
  exact VDid.of ⟨p, m, Fd, (((((O.beside C hr 0 v0).beside C hr 1 v1).beside C hr 2 v2).beside C hr 3 v3).beside C hr 4 v4).beside C hr 5 v5⟩ ((((((hk.set hr0 0 v0).set hr0 1 v1).set hr0 2 v2).set hr0 3 v3).set hr0 4 v4).set hr0 5 v5)
end Go.Proofs.Ytbbblncoicjacaa
