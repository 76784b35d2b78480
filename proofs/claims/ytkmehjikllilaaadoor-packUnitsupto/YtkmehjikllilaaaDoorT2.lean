
-- syms: the new block in which a symbol is laid.
import Derived.Test.YtkmehjikllilaaaDoorT1
import Derived.Test.YtkmehjikllilaaaDoorR3
namespace Go.Proofs.YtkmehjikllilaaaDoor
open Go.ChangeShapes Go.WideShapes Go.ChangeAt Go.RowKit
set_option linter.unusedVariables false
set_option maxRecDepth 100000
def RowY (R : Nat) (w : World) : Prop := w.heap[R]? = some (.cells #[.string ⟨#[]⟩, .int .i64 0, .int .i64 0, .int .i64 0, .int .i64 0, .int .u64 0, .int .u64 0] 42 (0, 0))
theorem RowY.new (w : World) : RowY w.heap.size (w.alloc (.cells #[.string ⟨#[]⟩, .int .i64 0, .int .i64 0, .int .i64 0, .int .i64 0, .int .u64 0, .int .u64 0] 42)) := heap_alloc_new w _
theorem RowY.kept {R : Nat} {w w' : World} (h : RowY R w) (hb : Below w.heap.size w w') : RowY R w' := (hb.block R (Array.getElem?_eq_some_iff.1 h).1).trans h
theorem RowY.cells {R : Nat} {w : World} (h : RowY R w) : w.cell? ⟨R, 0, none⟩ = some (.string ⟨#[]⟩) ∧ w.cell? ⟨R, 1, none⟩ = some (.int .i64 0) ∧ w.cell? ⟨R, 2, none⟩ = some (.int .i64 0) ∧ w.cell? ⟨R, 3, none⟩ = some (.int .i64 0) ∧ w.cell? ⟨R, 4, none⟩ = some (.int .i64 0) ∧ w.cell? ⟨R, 5, none⟩ = some (.int .u64 0) ∧ w.cell? ⟨R, 6, none⟩ = some (.int .u64 0) ∧ w.frozen? ⟨R, 0, none⟩ = false ∧ w.frozen? ⟨R, 1, none⟩ = false ∧ w.frozen? ⟨R, 2, none⟩ = false ∧ w.frozen? ⟨R, 3, none⟩ = false ∧ w.frozen? ⟨R, 4, none⟩ = false ∧ w.frozen? ⟨R, 5, none⟩ = false ∧ w.frozen? ⟨R, 6, none⟩ = false :=
  ⟨cell_of_row _ _ 0 _ _ _ h, cell_of_row _ _ 1 _ _ _ h, cell_of_row _ _ 2 _ _ _ h, cell_of_row _ _ 3 _ _ _ h, cell_of_row _ _ 4 _ _ _ h, cell_of_row _ _ 5 _ _ _ h, cell_of_row _ _ 6 _ _ _ h, frozen_of_row _ _ 0 _ _ h, frozen_of_row _ _ 1 _ _ h, frozen_of_row _ _ 2 _ _ h, frozen_of_row _ _ 3 _ _ h, frozen_of_row _ _ 4 _ _ h, frozen_of_row _ _ 5 _ _ h, frozen_of_row _ _ 6 _ _ h⟩
theorem RowY.store7 {R : Nat} {w' : World} {v0 v1 v2 v3 v4 v5 v6 : Value} (h : RowY R w') : (((((((w'.setCell ⟨R, 0, none⟩ v0).setCell ⟨R, 1, none⟩ v1).setCell ⟨R, 2, none⟩ v2).setCell ⟨R, 3, none⟩ v3).setCell ⟨R, 4, none⟩ v4).setCell ⟨R, 5, none⟩ v5).setCell ⟨R, 6, none⟩ v6).heap[R]? = some (.cells #[v0, v1, v2, v3, v4, v5, v6] 42 (0, 0)) := by
  have e0 : (w'.setCell ⟨R, 0, none⟩ v0).heap[R]? = some (.cells #[v0, .int .i64 0, .int .i64 0, .int .i64 0, .int .i64 0, .int .u64 0, .int .u64 0] 42 (0, 0)) := (heap_setCell_same _ R 0 _ _ v0 h).trans rfl
  have e1 : ((w'.setCell ⟨R, 0, none⟩ v0).setCell ⟨R, 1, none⟩ v1).heap[R]? = some (.cells #[v0, v1, .int .i64 0, .int .i64 0, .int .i64 0, .int .u64 0, .int .u64 0] 42 (0, 0)) := (heap_setCell_same _ R 1 _ _ v1 e0).trans rfl
  have e2 : (((w'.setCell ⟨R, 0, none⟩ v0).setCell ⟨R, 1, none⟩ v1).setCell ⟨R, 2, none⟩ v2).heap[R]? = some (.cells #[v0, v1, v2, .int .i64 0, .int .i64 0, .int .u64 0, .int .u64 0] 42 (0, 0)) := (heap_setCell_same _ R 2 _ _ v2 e1).trans rfl
  have e3 : ((((w'.setCell ⟨R, 0, none⟩ v0).setCell ⟨R, 1, none⟩ v1).setCell ⟨R, 2, none⟩ v2).setCell ⟨R, 3, none⟩ v3).heap[R]? = some (.cells #[v0, v1, v2, v3, .int .i64 0, .int .u64 0, .int .u64 0] 42 (0, 0)) := (heap_setCell_same _ R 3 _ _ v3 e2).trans rfl
  have e4 : (((((w'.setCell ⟨R, 0, none⟩ v0).setCell ⟨R, 1, none⟩ v1).setCell ⟨R, 2, none⟩ v2).setCell ⟨R, 3, none⟩ v3).setCell ⟨R, 4, none⟩ v4).heap[R]? = some (.cells #[v0, v1, v2, v3, v4, .int .u64 0, .int .u64 0] 42 (0, 0)) := (heap_setCell_same _ R 4 _ _ v4 e3).trans rfl
  have e5 : ((((((w'.setCell ⟨R, 0, none⟩ v0).setCell ⟨R, 1, none⟩ v1).setCell ⟨R, 2, none⟩ v2).setCell ⟨R, 3, none⟩ v3).setCell ⟨R, 4, none⟩ v4).setCell ⟨R, 5, none⟩ v5).heap[R]? = some (.cells #[v0, v1, v2, v3, v4, v5, .int .u64 0] 42 (0, 0)) := (heap_setCell_same _ R 5 _ _ v5 e4).trans rfl
  have e6 : (((((((w'.setCell ⟨R, 0, none⟩ v0).setCell ⟨R, 1, none⟩ v1).setCell ⟨R, 2, none⟩ v2).setCell ⟨R, 3, none⟩ v3).setCell ⟨R, 4, none⟩ v4).setCell ⟨R, 5, none⟩ v5).setCell ⟨R, 6, none⟩ v6).heap[R]? = some (.cells #[v0, v1, v2, v3, v4, v5, v6] 42 (0, 0)) := (heap_setCell_same _ R 6 _ _ v6 e5).trans rfl
  exact e6
theorem below_store7 {w w' : World} {R : Nat} {v0 v1 v2 v3 v4 v5 v6 : Value} (h : Below w.heap.size w w') (hR : w.heap.size ≤ R) : Below w.heap.size w (((((((w'.setCell ⟨R, 0, none⟩ v0).setCell ⟨R, 1, none⟩ v1).setCell ⟨R, 2, none⟩ v2).setCell ⟨R, 3, none⟩ v3).setCell ⟨R, 4, none⟩ v4).setCell ⟨R, 5, none⟩ v5).setCell ⟨R, 6, none⟩ v6) :=
  Below.setCell (Below.setCell (Below.setCell (Below.setCell (Below.setCell (Below.setCell (Below.setCell h hR _) hR _) hR _) hR _) hR _) hR _) hR _
theorem num_lt1 (b : ByteArray) (p : Nat) (o : Int) : num b p 1 o < 256 := num_lt b p 1 o
theorem wrap_numI1 (b : ByteArray) (a o : Int) : IntKind.i64.wrap (numI b a 1 o) = numI b a 1 o := by
  rw [IntKind.wrap_i64]
  unfold numI
  have := num_lt1 b a.toNat o
  show _ = ((num b a.toNat 1 o : Nat) : Int)
  rw [show (1 : Int).toNat = 1 from rfl]
  omega
theorem wrap_numI1' (b : ByteArray) (a o : Int) : wrap64 (numI b a 1 o) = numI b a 1 o := by
  have h2 := wrap_numI1 b a o
  rw [IntKind.wrap_i64] at h2
  unfold wrap64
  exact h2
theorem wrap_small (z : Nat) (h : z < 256) : IntKind.i64.wrap (z : Int) = (z : Int) ∧ wrap64 (z : Int) = (z : Int) := by
  constructor
  · rw [IntKind.wrap_i64]; omega
  · unfold wrap64; omega
theorem div16 (z : Nat) (h : z < 256) : IntKind.i64.wrap ((z : Int) / 16) = ((z / 16 : Nat) : Int) := by rw [IntKind.wrap_i64]; omega
theorem mod16 (z : Nat) : Int.tmod (z : Int) 16 = ((z % 16 : Nat) : Int) := by rw [Int.tmod_eq_emod_of_nonneg (by omega)]; omega
/-- a table in memory: the columns of its class, its order, its entries and its names -/
def tabCells (cols : Array Value) (o : Int) (t names : ByteArray) : Array Value := cols ++ #[.int .i64 o, .string t, .string names]
end Go.Proofs.YtkmehjikllilaaaDoor
