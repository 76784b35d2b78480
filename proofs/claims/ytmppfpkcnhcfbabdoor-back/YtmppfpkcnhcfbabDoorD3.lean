
-- names.tell: contracts.
import Derived.Test.YtmppfpkcnhcfbabDoorD1
import Derived.Test.YtmppfpkcnhcfbabDoorFV
namespace Go.Proofs.YtmppfpkcnhcfbabDoor
open Go.ChangeShapes Go.WideShapes Go.ChangeAt Go.RowKit
set_option linter.unusedVariables false
set_option maxRecDepth 100000

theorem heap2 (w : World) (o o2 : Obj) : ((w.alloc o).alloc o2).heap[w.heap.size]? = some o := by
  rw [heap_alloc_old _ _ (by simp), heap_alloc_new]
theorem msort_special (x : Value) (w : World) : (method 257 91 x "shelf/names.sort").run Tryd.prog w = .ok (127, x) w := by kernel_rfl
theorem msort_short (x : Value) (w : World) : (method 257 78 x "shelf/names.sort").run Tryd.prog w = .ok (126, x) w := by kernel_rfl
theorem msort_plain (x : Value) (w : World) : (method 257 77 x "shelf/names.sort").run Tryd.prog w = .ok (125, x) w := by kernel_rfl
theorem msort_ref (x : Value) (w : World) : (method 257 59 x "shelf/names.sort").run Tryd.prog w = .ok (123, x) w := by kernel_rfl
theorem msort_long (x : Value) (w : World) : (method 257 65 x "shelf/names.sort").run Tryd.prog w = .ok (124, x) w := by kernel_rfl
theorem ta_special_short (x : Value) (w : World) : (Instr.typeAssert (.iface 91 x) 54 78 true).run Tryd.prog w = .ok (.tuple #[.string ⟨#[]⟩, .bool false]) w := by kernel_rfl
theorem ta_special_plain (x : Value) (w : World) : (Instr.typeAssert (.iface 91 x) 54 77 true).run Tryd.prog w = .ok (.tuple #[.string ⟨#[]⟩, .bool false]) w := by kernel_rfl
theorem ta_special_ref (x : Value) (w : World) : (Instr.typeAssert (.iface 91 x) 54 59 true).run Tryd.prog w = .ok (.tuple #[.int .i64 0, .bool false]) w := by kernel_rfl
theorem ta_special_long (x : Value) (w : World) : (Instr.typeAssert (.iface 91 x) 54 65 true).run Tryd.prog w = .ok (.tuple #[.int .i64 0, .bool false]) w := by kernel_rfl
theorem ta_short_short (x : Value) (w : World) : (Instr.typeAssert (.iface 78 x) 54 78 true).run Tryd.prog w = .ok (.tuple #[x, .bool true]) w := by kernel_rfl
theorem ta_short_plain (x : Value) (w : World) : (Instr.typeAssert (.iface 78 x) 54 77 true).run Tryd.prog w = .ok (.tuple #[.string ⟨#[]⟩, .bool false]) w := by kernel_rfl
theorem ta_short_ref (x : Value) (w : World) : (Instr.typeAssert (.iface 78 x) 54 59 true).run Tryd.prog w = .ok (.tuple #[.int .i64 0, .bool false]) w := by kernel_rfl
theorem ta_short_long (x : Value) (w : World) : (Instr.typeAssert (.iface 78 x) 54 65 true).run Tryd.prog w = .ok (.tuple #[.int .i64 0, .bool false]) w := by kernel_rfl
theorem ta_plain_short (x : Value) (w : World) : (Instr.typeAssert (.iface 77 x) 54 78 true).run Tryd.prog w = .ok (.tuple #[.string ⟨#[]⟩, .bool false]) w := by kernel_rfl
theorem ta_plain_plain (x : Value) (w : World) : (Instr.typeAssert (.iface 77 x) 54 77 true).run Tryd.prog w = .ok (.tuple #[x, .bool true]) w := by kernel_rfl
theorem ta_plain_ref (x : Value) (w : World) : (Instr.typeAssert (.iface 77 x) 54 59 true).run Tryd.prog w = .ok (.tuple #[.int .i64 0, .bool false]) w := by kernel_rfl
theorem ta_plain_long (x : Value) (w : World) : (Instr.typeAssert (.iface 77 x) 54 65 true).run Tryd.prog w = .ok (.tuple #[.int .i64 0, .bool false]) w := by kernel_rfl
theorem ta_ref_short (x : Value) (w : World) : (Instr.typeAssert (.iface 59 x) 54 78 true).run Tryd.prog w = .ok (.tuple #[.string ⟨#[]⟩, .bool false]) w := by kernel_rfl
theorem ta_ref_plain (x : Value) (w : World) : (Instr.typeAssert (.iface 59 x) 54 77 true).run Tryd.prog w = .ok (.tuple #[.string ⟨#[]⟩, .bool false]) w := by kernel_rfl
theorem ta_ref_ref (x : Value) (w : World) : (Instr.typeAssert (.iface 59 x) 54 59 true).run Tryd.prog w = .ok (.tuple #[x, .bool true]) w := by kernel_rfl
theorem ta_ref_long (x : Value) (w : World) : (Instr.typeAssert (.iface 59 x) 54 65 true).run Tryd.prog w = .ok (.tuple #[.int .i64 0, .bool false]) w := by kernel_rfl
theorem ta_long_short (x : Value) (w : World) : (Instr.typeAssert (.iface 65 x) 54 78 true).run Tryd.prog w = .ok (.tuple #[.string ⟨#[]⟩, .bool false]) w := by kernel_rfl
theorem ta_long_plain (x : Value) (w : World) : (Instr.typeAssert (.iface 65 x) 54 77 true).run Tryd.prog w = .ok (.tuple #[.string ⟨#[]⟩, .bool false]) w := by kernel_rfl
theorem ta_long_ref (x : Value) (w : World) : (Instr.typeAssert (.iface 65 x) 54 59 true).run Tryd.prog w = .ok (.tuple #[.int .i64 0, .bool false]) w := by kernel_rfl
theorem ta_long_long (x : Value) (w : World) : (Instr.typeAssert (.iface 65 x) 54 65 true).run Tryd.prog w = .ok (.tuple #[x, .bool true]) w := by kernel_rfl
theorem sort_special (n : Int) (w : World) : Calls Tryd.prog 127 #[.int .i64 n] w fun e w' => e = .returned (.int .i64 n) ∧ w' = w := by
  go_enter Tryd.func127, Tryd.ntmps127
  go_wp2
  go_ret
  exact ⟨rfl, rfl⟩
theorem tell_special (n : Int) (w : World) :
    Calls Tryd.prog 45 #[.iface 91 (.int .i64 n)] w fun e w' => e = .returned (flV ⟨n, 0, ⟨#[]⟩⟩) ∧ Below w.heap.size w w' := by
  have HM := msort_special
  have T1 := ta_special_short
  have T2 := ta_special_plain
  have T3 := ta_special_ref
  have T4 := ta_special_long
  have HS : Hid (∀ w, Calls Tryd.prog 127 #[.int .i64 n] w fun e w' => e = .returned (.int .i64 n) ∧ w' = w) := fun w => sort_special n w
  go_enter Tryd.func45, Tryd.ntmps45
  go_wp2_with (first | (go_at_call 127; refine (HS.out _).mono ?_; rintro e w1 ⟨rfl, hw1⟩; subst w1) )
  exact bodyPost_ret (results_cell_row rfl _ _ w.heap.size _ _ _ _ rfl (heap2 w _ _) Tryd.underlying69 rfl (by kernel_rfl)) rfl ⟨rfl, bup (bup (Below.refl _ _) _) _⟩
theorem sort_short (s : ByteArray) (w : World) : Calls Tryd.prog 126 #[.string s] w fun e w' => e = .returned (.int .i64 4) ∧ w' = w := by
  go_enter Tryd.func126, Tryd.ntmps126
  go_wp2
  go_ret
  exact ⟨rfl, rfl⟩
theorem tell_short (s : ByteArray) (w : World) :
    Calls Tryd.prog 45 #[.iface 78 (.string s)] w fun e w' => e = .returned (flV ⟨4, 0, s⟩) ∧ Below w.heap.size w w' := by
  have HM := msort_short
  have T1 := ta_short_short
  have T2 := ta_short_plain
  have T3 := ta_short_ref
  have T4 := ta_short_long
  have HS : Hid (∀ w, Calls Tryd.prog 126 #[.string s] w fun e w' => e = .returned (.int .i64 4) ∧ w' = w) := fun w => sort_short s w
  go_enter Tryd.func45, Tryd.ntmps45
  go_wp2_with (first | (go_at_call 126; refine (HS.out _).mono ?_; rintro e w1 ⟨rfl, hw1⟩; subst w1) )
  exact bodyPost_ret (results_cell_row rfl _ _ w.heap.size _ _ _ _ rfl (heap2 w _ _) Tryd.underlying69 rfl (by kernel_rfl)) rfl ⟨rfl, bup (bup (Below.refl _ _) _) _⟩
theorem sort_plain (s : ByteArray) (w : World) : Calls Tryd.prog 125 #[.string s] w fun e w' => e = .returned (.int .i64 6) ∧ w' = w := by
  go_enter Tryd.func125, Tryd.ntmps125
  go_wp2
  go_ret
  exact ⟨rfl, rfl⟩
theorem tell_plain (s : ByteArray) (w : World) :
    Calls Tryd.prog 45 #[.iface 77 (.string s)] w fun e w' => e = .returned (flV ⟨6, 0, s⟩) ∧ Below w.heap.size w w' := by
  have HM := msort_plain
  have T1 := ta_plain_short
  have T2 := ta_plain_plain
  have T3 := ta_plain_ref
  have T4 := ta_plain_long
  have HS : Hid (∀ w, Calls Tryd.prog 125 #[.string s] w fun e w' => e = .returned (.int .i64 6) ∧ w' = w) := fun w => sort_plain s w
  go_enter Tryd.func45, Tryd.ntmps45
  go_wp2_with (first | (go_at_call 125; refine (HS.out _).mono ?_; rintro e w1 ⟨rfl, hw1⟩; subst w1) )
  exact bodyPost_ret (results_cell_row rfl _ _ w.heap.size _ _ _ _ rfl (heap2 w _ _) Tryd.underlying69 rfl (by kernel_rfl)) rfl ⟨rfl, bup (bup (Below.refl _ _) _) _⟩
theorem sort_ref (n : Int) (w : World) : Calls Tryd.prog 123 #[.int .i64 n] w fun e w' => e = .returned (.int .i64 5) ∧ w' = w := by
  go_enter Tryd.func123, Tryd.ntmps123
  go_wp2
  go_ret
  exact ⟨rfl, rfl⟩
theorem tell_ref (n : Int) (w : World) :
    Calls Tryd.prog 45 #[.iface 59 (.int .i64 n)] w fun e w' => e = .returned (flV ⟨5, n, ⟨#[]⟩⟩) ∧ Below w.heap.size w w' := by
  have HM := msort_ref
  have T1 := ta_ref_short
  have T2 := ta_ref_plain
  have T3 := ta_ref_ref
  have T4 := ta_ref_long
  have HS : Hid (∀ w, Calls Tryd.prog 123 #[.int .i64 n] w fun e w' => e = .returned (.int .i64 5) ∧ w' = w) := fun w => sort_ref n w
  go_enter Tryd.func45, Tryd.ntmps45
  go_wp2_with (first | (go_at_call 123; refine (HS.out _).mono ?_; rintro e w1 ⟨rfl, hw1⟩; subst w1) )
  exact bodyPost_ret (results_cell_row rfl _ _ w.heap.size _ _ _ _ rfl (heap2 w _ _) Tryd.underlying69 rfl (by kernel_rfl)) rfl ⟨rfl, bup (bup (Below.refl _ _) _) _⟩
theorem sort_long (n : Int) (w : World) : Calls Tryd.prog 124 #[.int .i64 n] w fun e w' => e = .returned (.int .i64 7) ∧ w' = w := by
  go_enter Tryd.func124, Tryd.ntmps124
  go_wp2
  go_ret
  exact ⟨rfl, rfl⟩
theorem tell_long (n : Int) (w : World) :
    Calls Tryd.prog 45 #[.iface 65 (.int .i64 n)] w fun e w' => e = .returned (flV ⟨7, n, ⟨#[]⟩⟩) ∧ Below w.heap.size w w' := by
  have HM := msort_long
  have T1 := ta_long_short
  have T2 := ta_long_plain
  have T3 := ta_long_ref
  have T4 := ta_long_long
  have HS : Hid (∀ w, Calls Tryd.prog 124 #[.int .i64 n] w fun e w' => e = .returned (.int .i64 7) ∧ w' = w) := fun w => sort_long n w
  go_enter Tryd.func45, Tryd.ntmps45
  go_wp2_with (first | (go_at_call 124; refine (HS.out _).mono ?_; rintro e w1 ⟨rfl, hw1⟩; subst w1) )
  exact bodyPost_ret (results_cell_row rfl _ _ w.heap.size _ _ _ _ rfl (heap2 w _ _) Tryd.underlying69 rfl (by kernel_rfl)) rfl ⟨rfl, bup (bup (Below.refl _ _) _) _⟩
end Go.Proofs.YtmppfpkcnhcfbabDoor
