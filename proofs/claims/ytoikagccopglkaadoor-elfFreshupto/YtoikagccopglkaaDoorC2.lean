
-- elf: the shapes and the orders that the first bytes mean: contracts.
import Derived.Test.YtoikagccopglkaaDoorF2
import Derived.Test.YtoikagccopglkaaDoorE0
import Derived.Test.YtoikagccopglkaaDoorW1
namespace Go.Proofs.YtoikagccopglkaaDoor
open Go.ChangeShapes Go.WideShapes Go.ChangeAt Go.RowKit
set_option linter.unusedVariables false
set_option maxRecDepth 100000

def sh32 : Array Value := #[.int .i64 32, .int .u64 52, .int .i64 16, .int .i64 2, .int .i64 18, .int .i64 2, .int .i64 32, .int .i64 4, .int .i64 46, .int .i64 2, .int .i64 48, .int .i64 2, .int .i64 50, .int .i64 2, .int .u64 40, .int .i64 0, .int .i64 4, .int .i64 4, .int .i64 4, .int .i64 8, .int .i64 4, .int .i64 16, .int .i64 4, .int .i64 20, .int .i64 4, .int .i64 24, .int .i64 4, .int .i64 28, .int .i64 4, .int .i64 36, .int .i64 4]
def sh64 : Array Value := #[.int .i64 64, .int .u64 64, .int .i64 16, .int .i64 2, .int .i64 18, .int .i64 2, .int .i64 40, .int .i64 8, .int .i64 58, .int .i64 2, .int .i64 60, .int .i64 2, .int .i64 62, .int .i64 2, .int .u64 64, .int .i64 0, .int .i64 4, .int .i64 4, .int .i64 4, .int .i64 8, .int .i64 8, .int .i64 24, .int .i64 8, .int .i64 32, .int .i64 8, .int .i64 40, .int .i64 4, .int .i64 44, .int .i64 4, .int .i64 56, .int .i64 8]
theorem size_alloc (w : World) (o : Obj) : (w.alloc o).heap.size = w.heap.size + 1 := by show (w.heap.push o).size = _; simp
set_option maxHeartbeats 2000000 in
theorem shape32_c (w : World) : Calls Tryd.prog 31 #[] w fun r w' => r = .returned (.agg sh32) ∧ Below w.heap.size w w' := by
  go_enter Tryd.func31, Tryd.ntmps31
  go_wp2_with (refine wpList_store_row rfl _ _ _ rfl w.heap.size sh32 rfl rfl _ _ (heap_alloc_new w _) rfl (by kernel_rfl) (by kernel_rfl) ?_)
  exact bodyPost_ret (results_cell_row rfl _ _ w.heap.size _ sh32 _ _ rfl (setRow_heap _ _ _ _ _ _ (heap_alloc_new w _)) Tryd.underlying60 rfl (by kernel_rfl)) rfl ⟨rfl, below_setRow (Below.alloc (Below.refl _ _) (Nat.le_refl _) _) (Nat.le_refl _) _⟩
set_option maxHeartbeats 2000000 in
theorem shape64_c (w : World) : Calls Tryd.prog 32 #[] w fun r w' => r = .returned (.agg sh64) ∧ Below w.heap.size w w' := by
  go_enter Tryd.func32, Tryd.ntmps32
  go_wp2_with (refine wpList_store_row rfl _ _ _ rfl w.heap.size sh64 rfl rfl _ _ (heap_alloc_new w _) rfl (by kernel_rfl) (by kernel_rfl) ?_)
  exact bodyPost_ret (results_cell_row rfl _ _ w.heap.size _ sh64 _ _ rfl (setRow_heap _ _ _ _ _ _ (heap_alloc_new w _)) Tryd.underlying60 rfl (by kernel_rfl)) rfl ⟨rfl, below_setRow (Below.alloc (Below.refl _ _) (Nat.le_refl _) _) (Nat.le_refl _) _⟩
set_option maxHeartbeats 1000000 in
theorem shapeOf_1 (w : World) : Calls Tryd.prog 27 #[.int .u8 1] w fun r w' => r = .returned (.agg sh32) ∧ Below w.heap.size w w' := by
  have HS := Hid.mk' shape32_c
  go_enter Tryd.func27, Tryd.ntmps27
  go_wp2_with (first
    | (go_at_call 31; refine (HS.out _).mono ?_; rintro r w1 ⟨rfl, hb⟩; have hR := Below.row hb (Nat.lt_of_lt_of_eq (Nat.lt_succ_self _) (size_alloc w _).symm) (heap_alloc_new w _))
    | (refine wpList_store_row rfl _ _ _ rfl w.heap.size sh32 rfl rfl _ _ hR rfl (by kernel_rfl) (by kernel_rfl) ?_))
  exact bodyPost_ret (results_cell_row rfl _ _ w.heap.size _ sh32 _ _ rfl (setRow_heap _ _ _ _ _ _ hR) Tryd.underlying60 rfl (by kernel_rfl)) rfl
    ⟨rfl, below_setRow ((Below.alloc (Below.refl _ _) (Nat.le_refl _) _).trans (hb.mono (by rw [size_alloc]; exact Nat.le_succ _))) (Nat.le_refl _) _⟩
set_option maxHeartbeats 1000000 in
theorem shapeOf_2 (w : World) : Calls Tryd.prog 27 #[.int .u8 2] w fun r w' => r = .returned (.agg sh64) ∧ Below w.heap.size w w' := by
  have HS := Hid.mk' shape64_c
  go_enter Tryd.func27, Tryd.ntmps27
  go_wp2_with (first
    | (go_at_call 32; refine (HS.out _).mono ?_; rintro r w1 ⟨rfl, hb⟩; have hR := Below.row hb (Nat.lt_of_lt_of_eq (Nat.lt_succ_self _) (size_alloc w _).symm) (heap_alloc_new w _))
    | (refine wpList_store_row rfl _ _ _ rfl w.heap.size sh64 rfl rfl _ _ hR rfl (by kernel_rfl) (by kernel_rfl) ?_))
  exact bodyPost_ret (results_cell_row rfl _ _ w.heap.size _ sh64 _ _ rfl (setRow_heap _ _ _ _ _ _ hR) Tryd.underlying60 rfl (by kernel_rfl)) rfl
    ⟨rfl, below_setRow ((Below.alloc (Below.refl _ _) (Nat.le_refl _) _).trans (hb.mono (by rw [size_alloc]; exact Nat.le_succ _))) (Nat.le_refl _) _⟩
theorem shapeOf_no (x : Nat) (w : World) (h1 : ((x : Int) == 1) = false) (h2 : ((x : Int) == 2) = false) : Calls Tryd.prog 27 #[.int .u8 x] w fun r w' => r = .panicked (gives 51) ∧ Below w.heap.size w w' := by
  go_enter Tryd.func27, Tryd.ntmps27
  go_wp2
  exact ⟨rfl, rfl, Below.alloc (Below.refl _ _) (Nat.le_refl _) _⟩
theorem orderOf_1 (w : World) : Calls Tryd.prog 28 #[.int .u8 1] w fun r w' => r = .returned (.int .i64 0) ∧ w' = w := by
  go_enter Tryd.func28, Tryd.ntmps28
  go_wp2
  go_ret
  exact ⟨rfl, rfl⟩
theorem orderOf_2 (w : World) : Calls Tryd.prog 28 #[.int .u8 2] w fun r w' => r = .returned (.int .i64 1) ∧ w' = w := by
  go_enter Tryd.func28, Tryd.ntmps28
  go_wp2
  go_ret
  exact ⟨rfl, rfl⟩
theorem orderOf_no (x : Nat) (w : World) (h1 : ((x : Int) == 1) = false) (h2 : ((x : Int) == 2) = false) : Calls Tryd.prog 28 #[.int .u8 x] w fun r w' => r = .panicked (gives 52) ∧ w' = w := by
  go_enter Tryd.func28, Tryd.ntmps28
  go_wp2
  exact ⟨rfl, rfl, rfl⟩
/-- a file in memory: its shape, its bytes, its order -/
def fileCells (c : Nat) (o : Int) (b : ByteArray) : Array Value :=
  if c = 32 then #[.int .i64 32, .int .u64 52, .int .i64 16, .int .i64 2, .int .i64 18, .int .i64 2, .int .i64 32, .int .i64 4, .int .i64 46, .int .i64 2, .int .i64 48, .int .i64 2, .int .i64 50, .int .i64 2, .int .u64 40, .int .i64 0, .int .i64 4, .int .i64 4, .int .i64 4, .int .i64 8, .int .i64 4, .int .i64 16, .int .i64 4, .int .i64 20, .int .i64 4, .int .i64 24, .int .i64 4, .int .i64 28, .int .i64 4, .int .i64 36, .int .i64 4, .string b, .int .i64 o]
  else #[.int .i64 64, .int .u64 64, .int .i64 16, .int .i64 2, .int .i64 18, .int .i64 2, .int .i64 40, .int .i64 8, .int .i64 58, .int .i64 2, .int .i64 60, .int .i64 2, .int .i64 62, .int .i64 2, .int .u64 64, .int .i64 0, .int .i64 4, .int .i64 4, .int .i64 4, .int .i64 8, .int .i64 8, .int .i64 24, .int .i64 8, .int .i64 32, .int .i64 8, .int .i64 40, .int .i64 4, .int .i64 44, .int .i64 4, .int .i64 56, .int .i64 8, .string b, .int .i64 o]
theorem build_32 (b : ByteArray) (o : Int) (w : World) : (Instr.build 62 #[(1, .string b), (0, .agg sh32), (2, .int .i64 o)]).run Tryd.prog w = .ok (.agg (fileCells 32 o b)) w := run_build w 62 _ _ (by kernel_rfl)
theorem build_64 (b : ByteArray) (o : Int) (w : World) : (Instr.build 62 #[(1, .string b), (0, .agg sh64), (2, .int .i64 o)]).run Tryd.prog w = .ok (.agg (fileCells 64 o b)) w := run_build w 62 _ _ (by kernel_rfl)
end Go.Proofs.YtoikagccopglkaaDoor
