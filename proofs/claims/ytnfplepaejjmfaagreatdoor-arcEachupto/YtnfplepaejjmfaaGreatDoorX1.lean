
-- head.cut: a contract.
import Derived.Test.YtnfplepaejjmfaaGreatDoorRows
import Derived.Test.YtnfplepaejjmfaaGreatDoorX0
import Derived.Test.YtnfplepaejjmfaaGreatDoorSome
import Derived.WalkKit
import Derived.ProofKit
import Derived.WalkLawsBesides
import Derived.Laws.NewBlocks
import Derived.Deep.MidRow
namespace Go.Proofs.YtnfplepaejjmfaaGreatDoor
open Go.ChangeShapes Go.WideShapes Go.ChangeAt Go.RowKit
set_option linter.unusedVariables false
set_option maxRecDepth 100000

def colL : List Value := [.int .i64 0, .int .i64 16, .int .i64 0, .int .i64 16, .int .i64 12, .int .i64 10, .int .i64 28, .int .i64 6, .int .i64 10, .int .i64 34, .int .i64 6, .int .i64 10, .int .i64 40, .int .i64 8, .int .i64 8, .int .i64 48, .int .i64 10, .int .i64 10, .int .i64 58, .int .i64 2, .int .i64 0]
/-- the table of columns, in memory -/
def Cols (w : World) : Prop := ∀ j v, colL[j]? = some v → w.cell? ⟨0, j, none⟩ = some v
theorem Cols.lt {w : World} (h : Cols w) : 0 < w.heap.size := block_lt_of_cell (h 0 _ rfl)
theorem Cols.on {w w' : World} (h : Cols w) (b : Below w.heap.size w w') : Cols w' := fun j v hj => by
  rw [b.cell (p := ⟨0, j, none⟩) h.lt]; exact h j v hj
theorem Cols.alloc {w : World} (h : Cols w) (o : Obj) : Cols (w.alloc o) := h.on ((Below.refl _ _).alloc (Nat.le_refl _) _)
theorem Cols.range {w : World} (h : Cols w) : w.rangeAt 0 0 colL := fun j v hj => by rw [Nat.zero_add]; exact h j v hj
theorem col_0 : ∀ w, (Instr.index 148 (.agg colL.toArray) (.int .i64 0)).run Tryz.prog w = .ok (.agg #[.int .i64 0, .int .i64 16, .int .i64 0]) w := fun _ => by kernel_rfl
theorem col_1 : ∀ w, (Instr.index 148 (.agg colL.toArray) (.int .i64 1)).run Tryz.prog w = .ok (.agg #[.int .i64 16, .int .i64 12, .int .i64 10]) w := fun _ => by kernel_rfl
theorem col_2 : ∀ w, (Instr.index 148 (.agg colL.toArray) (.int .i64 2)).run Tryz.prog w = .ok (.agg #[.int .i64 28, .int .i64 6, .int .i64 10]) w := fun _ => by kernel_rfl
theorem col_3 : ∀ w, (Instr.index 148 (.agg colL.toArray) (.int .i64 3)).run Tryz.prog w = .ok (.agg #[.int .i64 34, .int .i64 6, .int .i64 10]) w := fun _ => by kernel_rfl
theorem col_4 : ∀ w, (Instr.index 148 (.agg colL.toArray) (.int .i64 4)).run Tryz.prog w = .ok (.agg #[.int .i64 40, .int .i64 8, .int .i64 8]) w := fun _ => by kernel_rfl
theorem col_5 : ∀ w, (Instr.index 148 (.agg colL.toArray) (.int .i64 5)).run Tryz.prog w = .ok (.agg #[.int .i64 48, .int .i64 10, .int .i64 10]) w := fun _ => by kernel_rfl
theorem col_6 : ∀ w, (Instr.index 148 (.agg colL.toArray) (.int .i64 6)).run Tryz.prog w = .ok (.agg #[.int .i64 58, .int .i64 2, .int .i64 0]) w := fun _ => by kernel_rfl
def strE : Value := .string ⟨#[]⟩
def col (H : ByteArray) (a n : Nat) : Value := .string (strL (fld H.data.toList a n))
def cutW (H : ByteArray) (w : World) : Nat → World
  | 0 => w.alloc (.cells #[strE, strE, strE, strE, strE, strE, strE] 117)
  | 1 => (w.alloc (.cells #[col H 0 16, strE, strE, strE, strE, strE, strE] 117)).alloc (.cells #[.int .i64 0, .int .i64 16, .int .i64 0] 147)
  | 2 => ((w.alloc (.cells #[col H 0 16, col H 16 12, strE, strE, strE, strE, strE] 117)).alloc (.cells #[.int .i64 0, .int .i64 16, .int .i64 0] 147)).alloc (.cells #[.int .i64 16, .int .i64 12, .int .i64 10] 147)
  | 3 => (((w.alloc (.cells #[col H 0 16, col H 16 12, col H 28 6, strE, strE, strE, strE] 117)).alloc (.cells #[.int .i64 0, .int .i64 16, .int .i64 0] 147)).alloc (.cells #[.int .i64 16, .int .i64 12, .int .i64 10] 147)).alloc (.cells #[.int .i64 28, .int .i64 6, .int .i64 10] 147)
  | 4 => ((((w.alloc (.cells #[col H 0 16, col H 16 12, col H 28 6, col H 34 6, strE, strE, strE] 117)).alloc (.cells #[.int .i64 0, .int .i64 16, .int .i64 0] 147)).alloc (.cells #[.int .i64 16, .int .i64 12, .int .i64 10] 147)).alloc (.cells #[.int .i64 28, .int .i64 6, .int .i64 10] 147)).alloc (.cells #[.int .i64 34, .int .i64 6, .int .i64 10] 147)
  | 5 => (((((w.alloc (.cells #[col H 0 16, col H 16 12, col H 28 6, col H 34 6, col H 40 8, strE, strE] 117)).alloc (.cells #[.int .i64 0, .int .i64 16, .int .i64 0] 147)).alloc (.cells #[.int .i64 16, .int .i64 12, .int .i64 10] 147)).alloc (.cells #[.int .i64 28, .int .i64 6, .int .i64 10] 147)).alloc (.cells #[.int .i64 34, .int .i64 6, .int .i64 10] 147)).alloc (.cells #[.int .i64 40, .int .i64 8, .int .i64 8] 147)
  | 6 => ((((((w.alloc (.cells #[col H 0 16, col H 16 12, col H 28 6, col H 34 6, col H 40 8, col H 48 10, strE] 117)).alloc (.cells #[.int .i64 0, .int .i64 16, .int .i64 0] 147)).alloc (.cells #[.int .i64 16, .int .i64 12, .int .i64 10] 147)).alloc (.cells #[.int .i64 28, .int .i64 6, .int .i64 10] 147)).alloc (.cells #[.int .i64 34, .int .i64 6, .int .i64 10] 147)).alloc (.cells #[.int .i64 40, .int .i64 8, .int .i64 8] 147)).alloc (.cells #[.int .i64 48, .int .i64 10, .int .i64 10] 147)
  | _ => (((((((w.alloc (.cells #[col H 0 16, col H 16 12, col H 28 6, col H 34 6, col H 40 8, col H 48 10, col H 58 2] 117)).alloc (.cells #[.int .i64 0, .int .i64 16, .int .i64 0] 147)).alloc (.cells #[.int .i64 16, .int .i64 12, .int .i64 10] 147)).alloc (.cells #[.int .i64 28, .int .i64 6, .int .i64 10] 147)).alloc (.cells #[.int .i64 34, .int .i64 6, .int .i64 10] 147)).alloc (.cells #[.int .i64 40, .int .i64 8, .int .i64 8] 147)).alloc (.cells #[.int .i64 48, .int .i64 10, .int .i64 10] 147)).alloc (.cells #[.int .i64 58, .int .i64 2, .int .i64 0] 147)
theorem slice_col (H : ByteArray) (a n : Nat) (h : a + n ≤ H.size) : ∀ w, (Instr.slice 9 (.string H) (some (.int .i64 (a : Int))) (some (.int .i64 ((a + n : Nat) : Int))) none).run Tryz.prog w = .ok (col H a n) w := by
  intro w
  rw [run_slice_string w 9 H .i64 .i64 a ((a + n : Nat) : Int) Tryz.underlying9 (by omega) (by omega) (by omega), Int.toNat_natCast, Int.toNat_natCast, Lib.extract_eq]
  unfold col fld strL
  rw [show a + n - a = n from by omega]
theorem bup {w w' : World} (h : Below w.heap.size w w') (o : Obj) : Below w.heap.size w (w'.alloc o) := h.alloc h.size o
theorem hup {w : World} {b : Nat} {x : Obj} (h : w.heap[b]? = some x) (o : Obj) : (w.alloc o).heap[b]? = some x := (Below.heap_alloc w o b (Array.getElem?_eq_some_iff.1 h).1).trans h
theorem col_is (H : ByteArray) (a n : Nat) : ∃ s, col H a n = .string s := ⟨_, rfl⟩

set_option maxHeartbeats 1000000 in
theorem cut_c (H : ByteArray) (w : World) (hC : Cols w) (hH : H.size = 60) :
    Calls Tryz.prog 57 #[.string H] w fun e w' => e = .returned (.agg #[col H 0 16, col H 16 12, col H 28 6, col H 34 6, col H 40 8, col H 48 10, col H 58 2]) ∧ Below w.heap.size w w' := by
  have hl := (hC.alloc (.cells #[strE, strE, strE, strE, strE, strE, strE] 117)).range
  have s0 : ∀ w, (Instr.slice 9 (.string H) (some (.int .i64 0)) (some (.int .i64 16)) none).run Tryz.prog w = .ok (.string (strL (fld H.data.toList 0 16))) w := slice_col H 0 16 (by omega)
  have s1 : ∀ w, (Instr.slice 9 (.string H) (some (.int .i64 16)) (some (.int .i64 28)) none).run Tryz.prog w = .ok (.string (strL (fld H.data.toList 16 12))) w := slice_col H 16 12 (by omega)
  have s2 : ∀ w, (Instr.slice 9 (.string H) (some (.int .i64 28)) (some (.int .i64 34)) none).run Tryz.prog w = .ok (.string (strL (fld H.data.toList 28 6))) w := slice_col H 28 6 (by omega)
  have s3 : ∀ w, (Instr.slice 9 (.string H) (some (.int .i64 34)) (some (.int .i64 40)) none).run Tryz.prog w = .ok (.string (strL (fld H.data.toList 34 6))) w := slice_col H 34 6 (by omega)
  have s4 : ∀ w, (Instr.slice 9 (.string H) (some (.int .i64 40)) (some (.int .i64 48)) none).run Tryz.prog w = .ok (.string (strL (fld H.data.toList 40 8))) w := slice_col H 40 8 (by omega)
  have s5 : ∀ w, (Instr.slice 9 (.string H) (some (.int .i64 48)) (some (.int .i64 58)) none).run Tryz.prog w = .ok (.string (strL (fld H.data.toList 48 10))) w := slice_col H 48 10 (by omega)
  have s6 : ∀ w, (Instr.slice 9 (.string H) (some (.int .i64 58)) (some (.int .i64 60)) none).run Tryz.prog w = .ok (.string (strL (fld H.data.toList 58 2))) w := slice_col H 58 2 (by omega)
  unfold strE at hl
  clear hC
  go_enter Tryz.func57, Tryz.ntmps57
  go_wp2_with (refine wpList_load_mid rfl _ _ rfl 0 0 rfl colL _ hl Tryz.underlying148 rfl (by kernel_rfl) ?_)
  clear hl
  go_loopw [6] (fun i wx => ∃ k : Nat, k ≤ 7 ∧ i = .int .i64 k ∧ wx = cutW H w k) (fun i _ => 7 - (intOf i).toNat)
  case atStart => exact ⟨0, by omega, rfl, rfl⟩
  case round =>
    obtain ⟨k, hk, rfl, rfl⟩ := hrel
    have hc : k = 0 ∨ k = 1 ∨ k = 2 ∨ k = 3 ∨ k = 4 ∨ k = 5 ∨ k = 6 ∨ k = 7 := by omega
    clear hk
    rcases hc with rfl | rfl | rfl | rfl | rfl | rfl | rfl | rfl
    · have hi := col_0
      simp only [cutW, strE, col]
      go_wp2
      go_roundw
      case rel => exact ⟨1, by omega, rfl, rfl⟩
      case measure => simp [intOf]
    · have hi := col_1
      simp only [cutW, strE, col]
      go_wp2
      go_roundw
      case rel => exact ⟨2, by omega, rfl, rfl⟩
      case measure => simp [intOf]
    · have hi := col_2
      simp only [cutW, strE, col]
      go_wp2
      go_roundw
      case rel => exact ⟨3, by omega, rfl, rfl⟩
      case measure => simp [intOf]
    · have hi := col_3
      simp only [cutW, strE, col]
      go_wp2
      go_roundw
      case rel => exact ⟨4, by omega, rfl, rfl⟩
      case measure => simp [intOf]
    · have hi := col_4
      simp only [cutW, strE, col]
      go_wp2
      go_roundw
      case rel => exact ⟨5, by omega, rfl, rfl⟩
      case measure => simp [intOf]
    · have hi := col_5
      simp only [cutW, strE, col]
      go_wp2
      go_roundw
      case rel => exact ⟨6, by omega, rfl, rfl⟩
      case measure => simp [intOf]
    · have hi := col_6
      simp only [cutW, strE, col]
      go_wp2
      go_roundw
      case rel => exact ⟨7, by omega, rfl, rfl⟩
      case measure => simp [intOf]
    · simp only [cutW, strE, col]
      go_wp2
      exact bodyPost_ret (results_cell_row rfl _ _ w.heap.size _ _ _ _ rfl (hup (hup (hup (hup (hup (hup (hup (heap_alloc_new w _) _) _) _) _) _) _) _) Tryz.underlying117 rfl (by kernel_rfl)) rfl ⟨rfl, bup (bup (bup (bup (bup (bup (bup (bup (Below.refl _ _) _) _) _) _) _) _) _) _⟩
end Go.Proofs.YtnfplepaejjmfaaGreatDoor
