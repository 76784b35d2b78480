
-- (index.codec).cutCounted: contracts.
import Derived.Test.YtegjklllnegghaaGreatDoorPC
import Derived.Test.YtegjklllnegghaaGreatDoorLD
import Derived.Lib.IndexBytes
import Derived.Deep.QuietTactic
import Derived.BigQuiet
import Derived.Deep.Draws
namespace Go.Proofs.YtegjklllnegghaaGreatDoor
open Go.ChangeShapes Go.WideShapes Go.ChangeAt Go.RowKit
set_option linter.unusedVariables false
set_option maxRecDepth 100000
theorem below_drewC {n : Nat} {a b : World} (h : Below n a b) (k : Nat) : Below n a (b.drewN k) := by
  induction k with
  | zero => exact h
  | succ k ih => exact ih.drew
theorem slice_atC (s : ByteArray) (k : Nat) (z : Int) (hz : z = (k : Int)) (h : k ≤ s.size) : ∀ w, (Instr.slice 9 (.string s) (some (.int .i64 z)) none none).run Tryz.prog w = .ok (.string (strL (s.data.toList.drop k))) w := by
  subst hz
  intro w
  rw [run_slice_string_from_if w 9 s .i64 _ Tryz.underlying9, if_pos (by omega), Int.toNat_natCast, Lib.extract_from]; rfl
theorem slice_ab (s : ByteArray) (a b : Nat) (x y : Int) (hx : x = (a : Int)) (hy : y = (b : Int)) (h : a ≤ b) (h2 : b ≤ s.size) : ∀ w, (Instr.slice 9 (.string s) (some (.int .i64 x)) (some (.int .i64 y)) none).run Tryz.prog w = .ok (.string (strL ((s.data.toList.drop a).take (b - a)))) w := by
  subst hx hy
  intro w
  rw [run_slice_string w 9 s .i64 .i64 a b Tryz.underlying9 (by omega) (by omega) (by omega), Int.toNat_natCast, Int.toNat_natCast, Lib.extract_eq]; rfl
theorem cc_short (s : ByteArray) (w : World) (h : s.size < 4) :
    Calls Tryz.prog 57 #[.agg ca3, .string s] w fun e w' => e = .returned (.tuple #[.string ⟨#[]⟩, .string ⟨#[]⟩, .bool false]) ∧ Below w.heap.size w w' := by
  have R0 : (w.alloc (.cells ca3 52)).heap[w.heap.size]? = some (.cells ca3 52 (0, 0)) := heap_alloc_new w _
  have HC : Hid (∀ w, Calls Tryz.prog 54 #[.agg ca3, .string s, .int .i64 0] w fun e w' => e = .returned (.tuple #[.int .u64 0, .bool false]) ∧ Below w.heap.size w w') := fun w => cload3_no s w h
  clear h
  go_enter Tryz.func57, Tryz.ntmps57
  go_wp2_with (first
    | (refine wpList_load_row rfl _ _ rfl w.heap.size rfl _ _ _ _ R0 Tryz.underlying52 rfl (by kernel_rfl) ?_)
    | (go_at_call 54; refine (HC.out _).mono ?_; rintro e w1 ⟨rfl, hb1⟩))
  go_ret3
  exact ⟨rfl, bel3K (bupK (Below.refl _ _) _) hb1⟩
theorem cc_many (s : ByteArray) (w : World) (h : 4 ≤ s.size) (hm : s.size ≤ 67108864) (hv : s.size - 4 < leW s.data.toList 0 4) :
    Calls Tryz.prog 57 #[.agg ca3, .string s] w fun e w' => e = .returned (.tuple #[.string ⟨#[]⟩, .string ⟨#[]⟩, .bool false]) ∧ Below w.heap.size w w' := by
  have R0 : (w.alloc (.cells ca3 52)).heap[w.heap.size]? = some (.cells ca3 52 (0, 0)) := heap_alloc_new w _
  have hb : leW s.data.toList 0 4 < 4294967296 := Nat.lt_of_lt_of_le (le_w_lt _ _ _) (by decide)
  have HC : Hid (∀ w, Calls Tryz.prog 54 #[.agg ca3, .string s, .int .i64 0] w fun e w' => e = .returned (.tuple #[.int .u64 (leW s.data.toList 0 4), .bool true]) ∧ Below w.heap.size w w') := fun w => cload3_c s 0 w (by omega) (by unfold maxLen; omega)
  generalize leW s.data.toList 0 4 = V at *
  have c2 : ((s.size : Int) - 4) < (V : Int) := by omega
  go_enter Tryz.func57, Tryz.ntmps57
  go_wp2_with (first
    | (refine wpList_load_row rfl _ _ rfl w.heap.size rfl _ _ _ _ R0 Tryz.underlying52 rfl (by kernel_rfl) ?_)
    | (go_at_call 54; refine (HC.out _).mono ?_; rintro e w1 ⟨rfl, hb1⟩; have R1 := hkeepK hb1 R0; have cw := cell_rowK R1 1 (.int .i64 4) rfl))
  go_ret3
  exact ⟨rfl, bel3K (bupK (Below.refl _ _) _) hb1⟩
theorem cc_ok (s : ByteArray) (w : World) (h : 4 ≤ s.size) (hm : s.size ≤ 67108864) (hv : ¬ s.size - 4 < leW s.data.toList 0 4) :
    Calls Tryz.prog 57 #[.agg ca3, .string s] w fun e w' => e = .returned (.tuple #[.string (strL ((s.data.toList.drop 4).take (leW s.data.toList 0 4))), .string (strL (s.data.toList.drop (4 + leW s.data.toList 0 4))), .bool true]) ∧ Below w.heap.size w w' := by
  have R0 : (w.alloc (.cells ca3 52)).heap[w.heap.size]? = some (.cells ca3 52 (0, 0)) := heap_alloc_new w _
  have HC : Hid (∀ w, Calls Tryz.prog 54 #[.agg ca3, .string s, .int .i64 0] w fun e w' => e = .returned (.tuple #[.int .u64 (leW s.data.toList 0 4), .bool true]) ∧ Below w.heap.size w w') := fun w => cload3_c s 0 w (by omega) (by unfold maxLen; omega)
  generalize leW s.data.toList 0 4 = V at *
  have c2 : ¬ ((s.size : Int) - 4) < (V : Int) := by omega
  have s1 := slice_ab s 4 (4 + V) 4 (4 + (V : Int)) rfl (by omega) (by omega) (by omega)
  rw [show 4 + V - 4 = V by omega] at s1
  have s2 := slice_atC s (4 + V) (4 + (V : Int)) (by omega) (by omega)
  generalize strL ((s.data.toList.drop 4).take V) = A1 at *
  generalize strL (s.data.toList.drop (4 + V)) = A2 at *
  have hVb : V ≤ 67108864 := by omega
  go_enter Tryz.func57, Tryz.ntmps57
  go_wp2_with (first
    | (refine wpList_load_row rfl _ _ rfl w.heap.size rfl _ _ _ _ R0 Tryz.underlying52 rfl (by kernel_rfl) ?_)
    | (go_at_call 54; refine (HC.out _).mono ?_; rintro e w1 ⟨rfl, hb1⟩; have R1 := hkeepK hb1 R0; have cw := cell_rowK R1 1 (.int .i64 4) rfl))
  go_quiet (fail)
  go_wp2
  go_ret3
  exact ⟨rfl, below_drewC (bel3K (bupK (Below.refl _ _) _) hb1) _⟩
end Go.Proofs.YtegjklllnegghaaGreatDoor
