
-- elf: the header's numbers: contracts.
import Derived.Test.YtoikagccopglkaaDoorC5
namespace Go.Proofs.YtoikagccopglkaaDoor
open Go.ChangeShapes Go.WideShapes Go.ChangeAt Go.RowKit
set_option linter.unusedVariables false
set_option maxRecDepth 100000
def numI (b : ByteArray) (a K : Int) (o : Int) : Int := num b a.toNat K.toNat o
theorem wrap_numI (b : ByteArray) (a K o : Int) (h : K = 2 ∨ K = 4) : IntKind.i64.wrap (numI b a K o) = numI b a K o := by
  rw [IntKind.wrap_i64]
  unfold numI
  rcases h with rfl | rfl
  · have := num_lt2 b a.toNat o; show _ = ((num b a.toNat 2 o : Nat) : Int); rw [show (2 : Int).toNat = 2 from rfl]; omega
  · have := num_lt4 b a.toNat o; show _ = ((num b a.toNat 4 o : Nat) : Int); rw [show (4 : Int).toNat = 4 from rfl]; omega
theorem wrap_numI64 (b : ByteArray) (a K o : Int) (h : K = 2 ∨ K = 4) : wrap64 (numI b a K o) = numI b a K o := by
  have h2 := wrap_numI b a K o h
  rw [IntKind.wrap_i64] at h2
  unfold wrap64
  exact h2
/-- the new block in which a header is laid, empty as yet -/
def RowE (R : Nat) (w : World) : Prop := w.heap[R]? = some (.cells #[.int .i64 0, .int .i64 0, .int .i64 0, .int .i64 0, .int .u64 0, .int .i64 0, .int .i64 0, .int .i64 0] 42 (0, 0))
theorem RowE.new (w : World) : RowE w.heap.size (w.alloc (.cells #[.int .i64 0, .int .i64 0, .int .i64 0, .int .i64 0, .int .u64 0, .int .i64 0, .int .i64 0, .int .i64 0] 42)) := heap_alloc_new w _
theorem RowE.kept {R : Nat} {w w' : World} (h : RowE R w) (hb : Below w.heap.size w w') : RowE R w' := (hb.block R (Array.getElem?_eq_some_iff.1 h).1).trans h
theorem RowE.cells {R : Nat} {w : World} (h : RowE R w) : w.cell? ⟨R, 0, none⟩ = some (.int .i64 0) ∧ w.cell? ⟨R, 1, none⟩ = some (.int .i64 0) ∧ w.cell? ⟨R, 2, none⟩ = some (.int .i64 0) ∧ w.cell? ⟨R, 3, none⟩ = some (.int .i64 0) ∧ w.cell? ⟨R, 4, none⟩ = some (.int .u64 0) ∧ w.cell? ⟨R, 5, none⟩ = some (.int .i64 0) ∧ w.cell? ⟨R, 6, none⟩ = some (.int .i64 0) ∧ w.cell? ⟨R, 7, none⟩ = some (.int .i64 0) ∧ w.frozen? ⟨R, 0, none⟩ = false ∧ w.frozen? ⟨R, 1, none⟩ = false ∧ w.frozen? ⟨R, 2, none⟩ = false ∧ w.frozen? ⟨R, 3, none⟩ = false ∧ w.frozen? ⟨R, 4, none⟩ = false ∧ w.frozen? ⟨R, 5, none⟩ = false ∧ w.frozen? ⟨R, 6, none⟩ = false ∧ w.frozen? ⟨R, 7, none⟩ = false :=
  ⟨cell_of_row _ _ 0 _ _ _ h, cell_of_row _ _ 1 _ _ _ h, cell_of_row _ _ 2 _ _ _ h, cell_of_row _ _ 3 _ _ _ h, cell_of_row _ _ 4 _ _ _ h, cell_of_row _ _ 5 _ _ _ h, cell_of_row _ _ 6 _ _ _ h, cell_of_row _ _ 7 _ _ _ h, frozen_of_row _ _ 0 _ _ h, frozen_of_row _ _ 1 _ _ h, frozen_of_row _ _ 2 _ _ h, frozen_of_row _ _ 3 _ _ h, frozen_of_row _ _ 4 _ _ h, frozen_of_row _ _ 5 _ _ h, frozen_of_row _ _ 6 _ _ h, frozen_of_row _ _ 7 _ _ h⟩
theorem RowE.store8 {R : Nat} {w' : World} {v0 v1 v2 v3 v4 v5 v6 v7 : Value} (h : RowE R w') : ((((((((w'.setCell ⟨R, 0, none⟩ v0).setCell ⟨R, 1, none⟩ v1).setCell ⟨R, 2, none⟩ v2).setCell ⟨R, 3, none⟩ v3).setCell ⟨R, 4, none⟩ v4).setCell ⟨R, 5, none⟩ v5).setCell ⟨R, 6, none⟩ v6).setCell ⟨R, 7, none⟩ v7).heap[R]? = some (.cells #[v0, v1, v2, v3, v4, v5, v6, v7] 42 (0, 0)) := by
  have e0 : (w'.setCell ⟨R, 0, none⟩ v0).heap[R]? = some (.cells #[v0, .int .i64 0, .int .i64 0, .int .i64 0, .int .u64 0, .int .i64 0, .int .i64 0, .int .i64 0] 42 (0, 0)) := (heap_setCell_same _ R 0 _ _ v0 h).trans rfl
  have e1 : ((w'.setCell ⟨R, 0, none⟩ v0).setCell ⟨R, 1, none⟩ v1).heap[R]? = some (.cells #[v0, v1, .int .i64 0, .int .i64 0, .int .u64 0, .int .i64 0, .int .i64 0, .int .i64 0] 42 (0, 0)) := (heap_setCell_same _ R 1 _ _ v1 e0).trans rfl
  have e2 : (((w'.setCell ⟨R, 0, none⟩ v0).setCell ⟨R, 1, none⟩ v1).setCell ⟨R, 2, none⟩ v2).heap[R]? = some (.cells #[v0, v1, v2, .int .i64 0, .int .u64 0, .int .i64 0, .int .i64 0, .int .i64 0] 42 (0, 0)) := (heap_setCell_same _ R 2 _ _ v2 e1).trans rfl
  have e3 : ((((w'.setCell ⟨R, 0, none⟩ v0).setCell ⟨R, 1, none⟩ v1).setCell ⟨R, 2, none⟩ v2).setCell ⟨R, 3, none⟩ v3).heap[R]? = some (.cells #[v0, v1, v2, v3, .int .u64 0, .int .i64 0, .int .i64 0, .int .i64 0] 42 (0, 0)) := (heap_setCell_same _ R 3 _ _ v3 e2).trans rfl
  have e4 : (((((w'.setCell ⟨R, 0, none⟩ v0).setCell ⟨R, 1, none⟩ v1).setCell ⟨R, 2, none⟩ v2).setCell ⟨R, 3, none⟩ v3).setCell ⟨R, 4, none⟩ v4).heap[R]? = some (.cells #[v0, v1, v2, v3, v4, .int .i64 0, .int .i64 0, .int .i64 0] 42 (0, 0)) := (heap_setCell_same _ R 4 _ _ v4 e3).trans rfl
  have e5 : ((((((w'.setCell ⟨R, 0, none⟩ v0).setCell ⟨R, 1, none⟩ v1).setCell ⟨R, 2, none⟩ v2).setCell ⟨R, 3, none⟩ v3).setCell ⟨R, 4, none⟩ v4).setCell ⟨R, 5, none⟩ v5).heap[R]? = some (.cells #[v0, v1, v2, v3, v4, v5, .int .i64 0, .int .i64 0] 42 (0, 0)) := (heap_setCell_same _ R 5 _ _ v5 e4).trans rfl
  have e6 : (((((((w'.setCell ⟨R, 0, none⟩ v0).setCell ⟨R, 1, none⟩ v1).setCell ⟨R, 2, none⟩ v2).setCell ⟨R, 3, none⟩ v3).setCell ⟨R, 4, none⟩ v4).setCell ⟨R, 5, none⟩ v5).setCell ⟨R, 6, none⟩ v6).heap[R]? = some (.cells #[v0, v1, v2, v3, v4, v5, v6, .int .i64 0] 42 (0, 0)) := (heap_setCell_same _ R 6 _ _ v6 e5).trans rfl
  have e7 : ((((((((w'.setCell ⟨R, 0, none⟩ v0).setCell ⟨R, 1, none⟩ v1).setCell ⟨R, 2, none⟩ v2).setCell ⟨R, 3, none⟩ v3).setCell ⟨R, 4, none⟩ v4).setCell ⟨R, 5, none⟩ v5).setCell ⟨R, 6, none⟩ v6).setCell ⟨R, 7, none⟩ v7).heap[R]? = some (.cells #[v0, v1, v2, v3, v4, v5, v6, v7] 42 (0, 0)) := (heap_setCell_same _ R 7 _ _ v7 e6).trans rfl
  exact e7
theorem below_store8 {w w' : World} {R : Nat} {v0 v1 v2 v3 v4 v5 v6 v7 : Value} (h : Below w.heap.size w w') (hR : w.heap.size ≤ R) : Below w.heap.size w ((((((((w'.setCell ⟨R, 0, none⟩ v0).setCell ⟨R, 1, none⟩ v1).setCell ⟨R, 2, none⟩ v2).setCell ⟨R, 3, none⟩ v3).setCell ⟨R, 4, none⟩ v4).setCell ⟨R, 5, none⟩ v5).setCell ⟨R, 6, none⟩ v6).setCell ⟨R, 7, none⟩ v7) :=
  Below.setCell (Below.setCell (Below.setCell (Below.setCell (Below.setCell (Below.setCell (Below.setCell (Below.setCell h hR _) hR _) hR _) hR _) hR _) hR _) hR _) hR _
end Go.Proofs.YtoikagccopglkaaDoor
