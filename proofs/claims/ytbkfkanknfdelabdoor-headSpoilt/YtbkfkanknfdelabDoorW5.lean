
-- shelfref7.Format: a contract.
import Derived.Test.YtbkfkanknfdelabDoorX7
import Derived.Test.YtbkfkanknfdelabDoorO2
import Derived.Test.YtbkfkanknfdelabDoorRPut
namespace Go.Proofs.YtbkfkanknfdelabDoor
open Go.ChangeShapes Go.WideShapes Go.ChangeAt Go.RowKit
set_option linter.unusedVariables false
set_option maxRecDepth 100000

structure RowB (R : Nat) (d u g m s : Int) (n : ByteArray) (w : World) : Prop where
  row : w.heap[R]? = some (.cells #[.int .i64 d, .int .i64 u, .int .i64 g, .int .i64 m, .string n, .int .i64 s] 25 (0, 0))
theorem RowB.cells {R : Nat} {d u g m s : Int} {n : ByteArray} {w : World} (h : RowB R d u g m s n w) : w.cell? ⟨R, 0, none⟩ = some (.int .i64 d) ∧ w.cell? ⟨R, 1, none⟩ = some (.int .i64 u) ∧ w.cell? ⟨R, 2, none⟩ = some (.int .i64 g) ∧ w.cell? ⟨R, 3, none⟩ = some (.int .i64 m) ∧ w.cell? ⟨R, 4, none⟩ = some (.string n) ∧ w.cell? ⟨R, 5, none⟩ = some (.int .i64 s) :=
  ⟨cell_of_row _ _ 0 _ _ _ h.row, cell_of_row _ _ 1 _ _ _ h.row, cell_of_row _ _ 2 _ _ _ h.row, cell_of_row _ _ 3 _ _ _ h.row, cell_of_row _ _ 4 _ _ _ h.row, cell_of_row _ _ 5 _ _ _ h.row⟩
end Go.Proofs.YtbkfkanknfdelabDoor
