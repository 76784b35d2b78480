
-- index.codecs, codecOf: contracts.
import Derived.Test.YtegjklllnegghaaGreatDoorKQ
import Derived.Test.YtegjklllnegghaaGreatDoorI0
import Derived.BigCall
import Derived.Handy
namespace Go.Proofs.YtegjklllnegghaaGreatDoor
open Go.ChangeShapes Go.WideShapes Go.ChangeAt Go.RowKit
set_option linter.unusedVariables false
set_option maxRecDepth 100000

def fnV (f : Nat) : Value := .func (.func f) #[] #[]
/-- the codecs -/
def ca1 : Array Value := #[.int .i64 1, .int .i64 4, .int .i64 1, fnV 42, fnV 43, fnV 44, fnV 45]
def ca2 : Array Value := #[.int .i64 2, .int .i64 8, .int .i64 1, fnV 42, fnV 43, fnV 44, fnV 45]
def ca3 : Array Value := #[.int .i64 3, .int .i64 4, .int .i64 0, fnV 46, fnV 47, fnV 48, fnV 49]
def ca0 : Array Value := #[.int .i64 0, .int .i64 0, .int .i64 0, .nilFunc, .nilFunc, .nilFunc, .nilFunc]
def caS : Array Value := ca1 ++ ca2 ++ ca3
set_option maxHeartbeats 1000000 in
theorem codecs_c (w : World) : Calls Tryz.prog 31 #[] w fun e w' => e = .returned (.agg caS) ∧ Below w.heap.size w w' := by
  go_enter Tryz.func31, Tryz.ntmps31
  go_wp2_with (refine wpList_store_kz rfl rfl _ _ _ rfl w.heap.size 0 (.agg caS) rfl rfl _ _ caS (heap_alloc_new w _) (by kernel_rfl) rfl rfl rfl ?_; intro W1 R1 q1)
  refine bodyPost_ret (results_cell_row rfl _ _ w.heap.size _ _ _ _ rfl R1 Tryz.underlying76 rfl (by kernel_rfl)) rfl ?_
  exact ⟨rfl, q1.belowN (bupK (Below.refl _ _) _) (Nat.le_refl _) (Nat.le_refl _)⟩
theorem results_cell_tmp_rowC {P : Program} {fn : Func} {p u : Tmp} {ty : TypeId} (h : fn.results = #[.cell p ty, .tmp u]) (tmps : Array Value) (w : World) (g : Nat) (t : TypeId) (cs : Array Value) (fr : Nat × Nat) (d : TypeDesc) (x : Value)
    (hp : tmps.getD p undef = .pointer (some ⟨g, 0, none⟩)) (hx : tmps.getD u undef = x) (hg : w.heap[g]? = some (.cells cs t fr))
    (hu : P.underlying ty = some d) (hd : (match d with | .struct _ | .array _ _ => true | _ => false) = true) (hi : (P.info? ty).map (·.size) = some cs.size) :
    (results fn tmps).run P w = .ok (.tuple #[.agg cs, x]) w := by
  rw [results_cell_tmp h, hp, hx]
  simp [asAddr, Result.andThen, run_loadVar_row w g t ty cs fr d hg hu hd hi]
/-- the codec of a form, and what codecOf says of it -/
def codOf (f : Int) : Array Value := if f = 1 then ca1 else if f = 2 then ca2 else if f = 3 then ca3 else ca0
theorem ix_0 : ∀ w, (Instr.index 76 (.agg caS) (.int .i64 0)).run Tryz.prog w = .ok (.agg ca1) w := fun _ => by kernel_rfl
theorem ix_1 : ∀ w, (Instr.index 76 (.agg caS) (.int .i64 1)).run Tryz.prog w = .ok (.agg ca2) w := fun _ => by kernel_rfl
theorem ix_2 : ∀ w, (Instr.index 76 (.agg caS) (.int .i64 2)).run Tryz.prog w = .ok (.agg ca3) w := fun _ => by kernel_rfl
theorem sz_cod : (Tryz.prog.info? 52).map (·.size) = some 7 := by kernel_rfl
theorem sz_ca1 : ca1.size = 7 := rfl
theorem sz_ca2 : ca2.size = 7 := rfl
theorem sz_ca3 : ca3.size = 7 := rfl
end Go.Proofs.YtegjklllnegghaaGreatDoor
