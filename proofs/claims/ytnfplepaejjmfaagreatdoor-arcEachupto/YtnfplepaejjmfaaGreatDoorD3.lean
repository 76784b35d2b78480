
-- names.tell: contracts.
import Derived.Test.YtnfplepaejjmfaaGreatDoorD1
import Derived.Test.YtnfplepaejjmfaaGreatDoorFV
namespace Go.Proofs.YtnfplepaejjmfaaGreatDoor
open Go.ChangeShapes Go.WideShapes Go.ChangeAt Go.RowKit
set_option linter.unusedVariables false
set_option maxRecDepth 100000

theorem heap2 (w : World) (o o2 : Obj) : ((w.alloc o).alloc o2).heap[w.heap.size]? = some o := by
  rw [heap_alloc_old _ _ (by simp), heap_alloc_new]
theorem msort_special (x : Value) (w : World) : (method 337 158 x "shelf/names.sort").run Tryz.prog w = .ok (164, x) w := by kernel_rfl
theorem msort_short (x : Value) (w : World) : (method 337 162 x "shelf/names.sort").run Tryz.prog w = .ok (166, x) w := by kernel_rfl
theorem msort_plain (x : Value) (w : World) : (method 337 159 x "shelf/names.sort").run Tryz.prog w = .ok (165, x) w := by kernel_rfl
theorem msort_ref (x : Value) (w : World) : (method 337 165 x "shelf/names.sort").run Tryz.prog w = .ok (167, x) w := by kernel_rfl
theorem msort_long (x : Value) (w : World) : (method 337 166 x "shelf/names.sort").run Tryz.prog w = .ok (168, x) w := by kernel_rfl
theorem ta_special_short (x : Value) (w : World) : (Instr.typeAssert (.iface 158 x) 125 162 true).run Tryz.prog w = .ok (.tuple #[.string ⟨#[]⟩, .bool false]) w := by kernel_rfl
theorem ta_special_plain (x : Value) (w : World) : (Instr.typeAssert (.iface 158 x) 125 159 true).run Tryz.prog w = .ok (.tuple #[.string ⟨#[]⟩, .bool false]) w := by kernel_rfl
theorem ta_special_ref (x : Value) (w : World) : (Instr.typeAssert (.iface 158 x) 125 165 true).run Tryz.prog w = .ok (.tuple #[.int .i64 0, .bool false]) w := by kernel_rfl
theorem ta_special_long (x : Value) (w : World) : (Instr.typeAssert (.iface 158 x) 125 166 true).run Tryz.prog w = .ok (.tuple #[.int .i64 0, .bool false]) w := by kernel_rfl
theorem ta_short_short (x : Value) (w : World) : (Instr.typeAssert (.iface 162 x) 125 162 true).run Tryz.prog w = .ok (.tuple #[x, .bool true]) w := by kernel_rfl
theorem ta_short_plain (x : Value) (w : World) : (Instr.typeAssert (.iface 162 x) 125 159 true).run Tryz.prog w = .ok (.tuple #[.string ⟨#[]⟩, .bool false]) w := by kernel_rfl
theorem ta_short_ref (x : Value) (w : World) : (Instr.typeAssert (.iface 162 x) 125 165 true).run Tryz.prog w = .ok (.tuple #[.int .i64 0, .bool false]) w := by kernel_rfl
theorem ta_short_long (x : Value) (w : World) : (Instr.typeAssert (.iface 162 x) 125 166 true).run Tryz.prog w = .ok (.tuple #[.int .i64 0, .bool false]) w := by kernel_rfl
theorem ta_plain_short (x : Value) (w : World) : (Instr.typeAssert (.iface 159 x) 125 162 true).run Tryz.prog w = .ok (.tuple #[.string ⟨#[]⟩, .bool false]) w := by kernel_rfl
theorem ta_plain_plain (x : Value) (w : World) : (Instr.typeAssert (.iface 159 x) 125 159 true).run Tryz.prog w = .ok (.tuple #[x, .bool true]) w := by kernel_rfl
theorem ta_plain_ref (x : Value) (w : World) : (Instr.typeAssert (.iface 159 x) 125 165 true).run Tryz.prog w = .ok (.tuple #[.int .i64 0, .bool false]) w := by kernel_rfl
theorem ta_plain_long (x : Value) (w : World) : (Instr.typeAssert (.iface 159 x) 125 166 true).run Tryz.prog w = .ok (.tuple #[.int .i64 0, .bool false]) w := by kernel_rfl
theorem ta_ref_short (x : Value) (w : World) : (Instr.typeAssert (.iface 165 x) 125 162 true).run Tryz.prog w = .ok (.tuple #[.string ⟨#[]⟩, .bool false]) w := by kernel_rfl
theorem ta_ref_plain (x : Value) (w : World) : (Instr.typeAssert (.iface 165 x) 125 159 true).run Tryz.prog w = .ok (.tuple #[.string ⟨#[]⟩, .bool false]) w := by kernel_rfl
theorem ta_ref_ref (x : Value) (w : World) : (Instr.typeAssert (.iface 165 x) 125 165 true).run Tryz.prog w = .ok (.tuple #[x, .bool true]) w := by kernel_rfl
theorem ta_ref_long (x : Value) (w : World) : (Instr.typeAssert (.iface 165 x) 125 166 true).run Tryz.prog w = .ok (.tuple #[.int .i64 0, .bool false]) w := by kernel_rfl
theorem ta_long_short (x : Value) (w : World) : (Instr.typeAssert (.iface 166 x) 125 162 true).run Tryz.prog w = .ok (.tuple #[.string ⟨#[]⟩, .bool false]) w := by kernel_rfl
theorem ta_long_plain (x : Value) (w : World) : (Instr.typeAssert (.iface 166 x) 125 159 true).run Tryz.prog w = .ok (.tuple #[.string ⟨#[]⟩, .bool false]) w := by kernel_rfl
theorem ta_long_ref (x : Value) (w : World) : (Instr.typeAssert (.iface 166 x) 125 165 true).run Tryz.prog w = .ok (.tuple #[.int .i64 0, .bool false]) w := by kernel_rfl
theorem ta_long_long (x : Value) (w : World) : (Instr.typeAssert (.iface 166 x) 125 166 true).run Tryz.prog w = .ok (.tuple #[x, .bool true]) w := by kernel_rfl
theorem sort_special (n : Int) (w : World) : Calls Tryz.prog 164 #[.int .i64 n] w fun e w' => e = .returned (.int .i64 n) ∧ w' = w := by
  go_enter Tryz.func164, Tryz.ntmps164
  go_wp2
  go_ret
  exact ⟨rfl, rfl⟩
theorem tell_special (n : Int) (w : World) :
    Calls Tryz.prog 61 #[.iface 158 (.int .i64 n)] w fun e w' => e = .returned (flV ⟨n, 0, ⟨#[]⟩⟩) ∧ Below w.heap.size w w' := by
  have HM := msort_special
  have T1 := ta_special_short
  have T2 := ta_special_plain
  have T3 := ta_special_ref
  have T4 := ta_special_long
  have HS : Hid (∀ w, Calls Tryz.prog 164 #[.int .i64 n] w fun e w' => e = .returned (.int .i64 n) ∧ w' = w) := fun w => sort_special n w
  go_enter Tryz.func61, Tryz.ntmps61
  go_wp2_with (first | (go_at_call 164; refine (HS.out _).mono ?_; rintro e w1 ⟨rfl, hw1⟩; subst w1) )
  exact bodyPost_ret (results_cell_row rfl _ _ w.heap.size _ _ _ _ rfl (heap2 w _ _) Tryz.underlying84 rfl (by kernel_rfl)) rfl ⟨rfl, bup (bup (Below.refl _ _) _) _⟩
theorem sort_short (s : ByteArray) (w : World) : Calls Tryz.prog 166 #[.string s] w fun e w' => e = .returned (.int .i64 4) ∧ w' = w := by
  go_enter Tryz.func166, Tryz.ntmps166
  go_wp2
  go_ret
  exact ⟨rfl, rfl⟩
theorem tell_short (s : ByteArray) (w : World) :
    Calls Tryz.prog 61 #[.iface 162 (.string s)] w fun e w' => e = .returned (flV ⟨4, 0, s⟩) ∧ Below w.heap.size w w' := by
  have HM := msort_short
  have T1 := ta_short_short
  have T2 := ta_short_plain
  have T3 := ta_short_ref
  have T4 := ta_short_long
  have HS : Hid (∀ w, Calls Tryz.prog 166 #[.string s] w fun e w' => e = .returned (.int .i64 4) ∧ w' = w) := fun w => sort_short s w
  go_enter Tryz.func61, Tryz.ntmps61
  go_wp2_with (first | (go_at_call 166; refine (HS.out _).mono ?_; rintro e w1 ⟨rfl, hw1⟩; subst w1) )
  exact bodyPost_ret (results_cell_row rfl _ _ w.heap.size _ _ _ _ rfl (heap2 w _ _) Tryz.underlying84 rfl (by kernel_rfl)) rfl ⟨rfl, bup (bup (Below.refl _ _) _) _⟩
theorem sort_plain (s : ByteArray) (w : World) : Calls Tryz.prog 165 #[.string s] w fun e w' => e = .returned (.int .i64 6) ∧ w' = w := by
  go_enter Tryz.func165, Tryz.ntmps165
  go_wp2
  go_ret
  exact ⟨rfl, rfl⟩
theorem tell_plain (s : ByteArray) (w : World) :
    Calls Tryz.prog 61 #[.iface 159 (.string s)] w fun e w' => e = .returned (flV ⟨6, 0, s⟩) ∧ Below w.heap.size w w' := by
  have HM := msort_plain
  have T1 := ta_plain_short
  have T2 := ta_plain_plain
  have T3 := ta_plain_ref
  have T4 := ta_plain_long
  have HS : Hid (∀ w, Calls Tryz.prog 165 #[.string s] w fun e w' => e = .returned (.int .i64 6) ∧ w' = w) := fun w => sort_plain s w
  go_enter Tryz.func61, Tryz.ntmps61
  go_wp2_with (first | (go_at_call 165; refine (HS.out _).mono ?_; rintro e w1 ⟨rfl, hw1⟩; subst w1) )
  exact bodyPost_ret (results_cell_row rfl _ _ w.heap.size _ _ _ _ rfl (heap2 w _ _) Tryz.underlying84 rfl (by kernel_rfl)) rfl ⟨rfl, bup (bup (Below.refl _ _) _) _⟩
theorem sort_ref (n : Int) (w : World) : Calls Tryz.prog 167 #[.int .i64 n] w fun e w' => e = .returned (.int .i64 5) ∧ w' = w := by
  go_enter Tryz.func167, Tryz.ntmps167
  go_wp2
  go_ret
  exact ⟨rfl, rfl⟩
theorem tell_ref (n : Int) (w : World) :
    Calls Tryz.prog 61 #[.iface 165 (.int .i64 n)] w fun e w' => e = .returned (flV ⟨5, n, ⟨#[]⟩⟩) ∧ Below w.heap.size w w' := by
  have HM := msort_ref
  have T1 := ta_ref_short
  have T2 := ta_ref_plain
  have T3 := ta_ref_ref
  have T4 := ta_ref_long
  have HS : Hid (∀ w, Calls Tryz.prog 167 #[.int .i64 n] w fun e w' => e = .returned (.int .i64 5) ∧ w' = w) := fun w => sort_ref n w
  go_enter Tryz.func61, Tryz.ntmps61
  go_wp2_with (first | (go_at_call 167; refine (HS.out _).mono ?_; rintro e w1 ⟨rfl, hw1⟩; subst w1) )
  exact bodyPost_ret (results_cell_row rfl _ _ w.heap.size _ _ _ _ rfl (heap2 w _ _) Tryz.underlying84 rfl (by kernel_rfl)) rfl ⟨rfl, bup (bup (Below.refl _ _) _) _⟩
theorem sort_long (n : Int) (w : World) : Calls Tryz.prog 168 #[.int .i64 n] w fun e w' => e = .returned (.int .i64 7) ∧ w' = w := by
  go_enter Tryz.func168, Tryz.ntmps168
  go_wp2
  go_ret
  exact ⟨rfl, rfl⟩
theorem tell_long (n : Int) (w : World) :
    Calls Tryz.prog 61 #[.iface 166 (.int .i64 n)] w fun e w' => e = .returned (flV ⟨7, n, ⟨#[]⟩⟩) ∧ Below w.heap.size w w' := by
  have HM := msort_long
  have T1 := ta_long_short
  have T2 := ta_long_plain
  have T3 := ta_long_ref
  have T4 := ta_long_long
  have HS : Hid (∀ w, Calls Tryz.prog 168 #[.int .i64 n] w fun e w' => e = .returned (.int .i64 7) ∧ w' = w) := fun w => sort_long n w
  go_enter Tryz.func61, Tryz.ntmps61
  go_wp2_with (first | (go_at_call 168; refine (HS.out _).mono ?_; rintro e w1 ⟨rfl, hw1⟩; subst w1) )
  exact bodyPost_ret (results_cell_row rfl _ _ w.heap.size _ _ _ _ rfl (heap2 w _ _) Tryz.underlying84 rfl (by kernel_rfl)) rfl ⟨rfl, bup (bup (Below.refl _ _) _) _⟩
end Go.Proofs.YtnfplepaejjmfaaGreatDoor
