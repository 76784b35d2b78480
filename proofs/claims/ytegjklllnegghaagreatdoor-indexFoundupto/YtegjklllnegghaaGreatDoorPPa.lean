
-- (index.codec).readPairs: its short ways.
import Derived.Test.YtegjklllnegghaaGreatDoorCC
import Derived.Test.YtegjklllnegghaaGreatDoorRS
import Derived.Deep.CutRange
namespace Go.Proofs.YtegjklllnegghaaGreatDoor
open Go.ChangeShapes Go.WideShapes Go.ChangeAt Go.RowKit
set_option linter.unusedVariables false
set_option maxRecDepth 100000
set_option maxHeartbeats 4000000 in
theorem pp_no1 (s : ByteArray) (w : World)
    (HC : Hid (∀ w, Calls Tryz.prog 57 #[.agg ca3, .string s] w fun e w' => e = .returned (.tuple #[.string ⟨#[]⟩, .string ⟨#[]⟩, .bool false]) ∧ Below w.heap.size w w')) :
    Calls Tryz.prog 49 #[.agg ca3, .string s] w fun e w' => e = .returned (.tuple #[.slice none 0 0, .bool false]) ∧ Below w.heap.size w w' := by
  have R0 : (w.alloc (.cells ca3 52)).heap[w.heap.size]? = some (.cells ca3 52 (0, 0)) := heap_alloc_new w _
  go_enter Tryz.func49, Tryz.ntmps49
  go_upto_region 2 with (first
    | (refine wpList_load_row rfl _ _ rfl w.heap.size rfl _ _ _ _ R0 Tryz.underlying52 rfl (by kernel_rfl) ?_)
    | (go_at_call 57; refine (HC.out _).mono ?_; rintro e w1 ⟨rfl, hb1⟩))
  have B1 := bel3K (bupK (Below.refl w.heap.size w) (.cells ca3 52)) hb1
  clear R0 hb1
  go_wp2
  go_ret2
  exact ⟨rfl, B1⟩
set_option maxHeartbeats 4000000 in
theorem pp_mod (s A1 A2 : ByteArray) (V Q : Nat) (w : World) (hz1 : A1.size = V) (hVb : V ≤ 67108864) (hmod : (V : Int).tmod 8 = (Q : Int)) (hq : ((Q : Int) == 0) = false) (hq' : ((Q : Int) != 0) = true)
    (HC1 : Hid (∀ w, Calls Tryz.prog 57 #[.agg ca3, .string s] w fun e w' => e = .returned (.tuple #[.string A1, .string A2, .bool true]) ∧ Below w.heap.size w w')) :
    Calls Tryz.prog 49 #[.agg ca3, .string s] w fun e w' => e = .returned (.tuple #[.slice none 0 0, .bool false]) ∧ Below w.heap.size w w' := by
  have R0 : (w.alloc (.cells ca3 52)).heap[w.heap.size]? = some (.cells ca3 52 (0, 0)) := heap_alloc_new w _
  go_enter Tryz.func49, Tryz.ntmps49
  go_upto_region 2 with (first
    | (refine wpList_load_row rfl _ _ rfl w.heap.size rfl _ _ _ _ R0 Tryz.underlying52 rfl (by kernel_rfl) ?_)
    | (go_at_call 57; refine (HC1.out _).mono ?_; rintro e w1 ⟨rfl, hb1⟩))
  have R1 := hkeepK hb1 R0
  have B1 := bel3K (bupK (Below.refl w.heap.size w) (.cells ca3 52)) hb1
  have cw := cell_rowK R1 1 (.int .i64 4) rfl
  clear R0 hb1
  go_wp2
  go_ret2
  exact ⟨rfl, B1⟩
set_option maxHeartbeats 4000000 in
theorem pp_no2 (s A1 A2 : ByteArray) (V : Nat) (w : World) (hz1 : A1.size = V) (hVb : V ≤ 67108864) (hmod : (V : Int).tmod 8 = 0)
    (HC1 : Hid (∀ w, Calls Tryz.prog 57 #[.agg ca3, .string s] w fun e w' => e = .returned (.tuple #[.string A1, .string A2, .bool true]) ∧ Below w.heap.size w w'))
    (HC2 : Hid (∀ w, Calls Tryz.prog 57 #[.agg ca3, .string A2] w fun e w' => e = .returned (.tuple #[.string ⟨#[]⟩, .string ⟨#[]⟩, .bool false]) ∧ Below w.heap.size w w')) :
    Calls Tryz.prog 49 #[.agg ca3, .string s] w fun e w' => e = .returned (.tuple #[.slice none 0 0, .bool false]) ∧ Below w.heap.size w w' := by
  have R0 : (w.alloc (.cells ca3 52)).heap[w.heap.size]? = some (.cells ca3 52 (0, 0)) := heap_alloc_new w _
  go_enter Tryz.func49, Tryz.ntmps49
  go_upto_region 2 with (first
    | (refine wpList_load_row rfl _ _ rfl w.heap.size rfl _ _ _ _ R0 Tryz.underlying52 rfl (by kernel_rfl) ?_)
    | (go_at_call 57; refine (HC1.out _).mono ?_; rintro e w1 ⟨rfl, hb1⟩))
  have R1 := hkeepK hb1 R0
  have B1 := bel3K (bupK (Below.refl w.heap.size w) (.cells ca3 52)) hb1
  have cw := cell_rowK R1 1 (.int .i64 4) rfl
  clear R0 hb1
  go_upto_region 4 with fail
  clear cw hmod
  go_upto_region 5 with (first
    | (refine wpList_load_row rfl _ _ rfl w.heap.size rfl _ _ _ _ R1 Tryz.underlying52 rfl (by kernel_rfl) ?_)
    | (go_at_call 57; refine (HC2.out _).mono ?_; rintro e w2 ⟨rfl, hb2⟩))
  have B2 := bel3K B1 hb2
  clear R1 hb2 B1
  go_wp2
  go_ret2
  exact ⟨rfl, B2⟩
end Go.Proofs.YtegjklllnegghaaGreatDoor
