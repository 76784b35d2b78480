
-- The table of columns as the rows list it; a head as it is handed in.
import Derived.Test.YtnfplepaejjmfaaGreatDoorX4
import Derived.OpenShut
import Derived.ChangeArms
import Derived.LaidLaws
import Derived.Stop.LaidErr
namespace Go.Proofs.YtnfplepaejjmfaaGreatDoor
open Go.ChangeShapes Go.WideShapes Go.ChangeAt Go.RowKit
set_option linter.unusedVariables false
set_option maxRecDepth 100000

theorem cellsI : Tryz.prog.cellsOf 3 = 1 := by kernel_rfl
theorem cellsS : Tryz.prog.cellsOf 9 = 1 := by kernel_rfl
theorem cellsC : Tryz.prog.cellsOf 147 = 3 := by kernel_rfl
theorem cellsM : Tryz.prog.cellsOf 52 = 4 := by kernel_rfl
theorem len3 {α : Type} {l : List α} (h : l.length = 3) : ∃ a b c, l = [a, b, c] := by
  match l, h with
  | [a, b, c], _ => exact ⟨_, _, _, rfl⟩
theorem len4 {α : Type} {l : List α} (h : l.length = 4) : ∃ a b c d, l = [a, b, c, d] := by
  match l, h with
  | [a, b, c, d], _ => exact ⟨_, _, _, _, rfl⟩
theorem len6 {α : Type} {l : List α} (h : l.length = 6) : ∃ a b c d e f, l = [a, b, c, d, e, f] := by
  match l, h with
  | [a, b, c, d, e, f], _ => exact ⟨_, _, _, _, _, _, rfl⟩
theorem len7 {α : Type} {l : List α} (h : l.length = 7) : ∃ a b c d e f g, l = [a, b, c, d, e, f, g] := by
  match l, h with
  | [a, b, c, d, e, f, g], _ => exact ⟨_, _, _, _, _, _, _, rfl⟩
theorem len21 {α : Type} {l : List α} (h : l.length = 21) : ∃ v0 v1 v2 v3 v4 v5 v6 v7 v8 v9 v10 v11 v12 v13 v14 v15 v16 v17 v18 v19 v20, l = [v0, v1, v2, v3, v4, v5, v6, v7, v8, v9, v10, v11, v12, v13, v14, v15, v16, v17, v18, v19, v20] := by
  match l, h with
  | [v0, v1, v2, v3, v4, v5, v6, v7, v8, v9, v10, v11, v12, v13, v14, v15, v16, v17, v18, v19, v20], _ => exact ⟨_, _, _, _, _, _, _, _, _, _, _, _, _, _, _, _, _, _, _, _, _, rfl⟩
section
variable {H : Type} {enc : TypeId × Value → H} {w : World}
theorem col_of_trod {base m : Nat} {sp : Nat → Bool} {held : Bool} {u0 u1 u2 : Value} {y : DataW H × List MemPlace} {a n b : Int} (h : DataW.trod enc Tryz.prog w base sp held m 147 [u0, u1, u2] = some y)
    (hy : y.1 = .agg [.lit (.int .i64 a), .lit (.int .i64 n), .lit (.int .i64 b)]) : u0 = .int .i64 a ∧ u1 = .int .i64 n ∧ u2 = .int .i64 b := by
  obtain ⟨xs, m, rfl, rfl, hl, hxl, hf⟩ := DataW.trod_struct Tryz.underlying147 h
  obtain ⟨y0, y1, y2, rfl⟩ := len3 hxl
  have g0 : DataW.trod enc Tryz.prog w base sp held m 3 [u0] = some y0 := by simpa [cellsI] using hf 0 _ rfl
  have g1 : DataW.trod enc Tryz.prog w base sp held m 3 [u1] = some y1 := by simpa [cellsI] using hf 1 _ rfl
  have g2 : DataW.trod enc Tryz.prog w base sp held m 3 [u2] = some y2 := by simpa [cellsI] using hf 2 _ rfl
  obtain ⟨k0, e0, rfl, _⟩ := DataW.trod_int Tryz.underlying3 g0
  obtain ⟨k1, e1, rfl, _⟩ := DataW.trod_int Tryz.underlying3 g1
  obtain ⟨k2, e2, rfl, _⟩ := DataW.trod_int Tryz.underlying3 g2
  cases e0; cases e1; cases e2
  simp only [List.map, DataW.agg.injEq, List.cons.injEq, DataW.lit.injEq, Lit.int.injEq, true_and, and_true] at hy
  obtain ⟨rfl, rfl, rfl⟩ := hy
  exact ⟨rfl, rfl, rfl⟩
theorem cols_of_trod {base fuel : Nat} {sp : Nat → Bool} {held : Bool} {cs : List Value} {p : List MemPlace} (h : DataW.trod enc Tryz.prog w base sp held fuel 148 cs = some (Rows.laid_shelf_head_columns, p)) : cs = colL := by
  obtain ⟨xs, m, rfl, hx, hl, hxl, hf⟩ := DataW.trod_array Tryz.underlying148 h
  rw [show Tryz.prog.cellsOf 148 = 21 from by kernel_rfl] at hl
  obtain ⟨v0, v1, v2, v3, v4, v5, v6, v7, v8, v9, v10, v11, v12, v13, v14, v15, v16, v17, v18, v19, v20, rfl⟩ := len21 hl
  obtain ⟨y0, y1, y2, y3, y4, y5, y6, rfl⟩ := len7 hxl
  have hx1 := congrArg Prod.fst hx
  simp only [Rows.laid_shelf_head_columns, List.map, DataW.agg.injEq, List.cons.injEq, and_true] at hx1
  obtain ⟨z0, z1, z2, z3, z4, z5, z6⟩ := hx1
  rw [cellsC] at hf
  obtain ⟨rfl, rfl, rfl⟩ := col_of_trod (a := 0) (n := 16) (b := 0) (show DataW.trod enc Tryz.prog w base sp held m 147 [v0, v1, v2] = some y0 from hf 0 (by decide)) (by rw [← z0])
  obtain ⟨rfl, rfl, rfl⟩ := col_of_trod (a := 16) (n := 12) (b := 10) (show DataW.trod enc Tryz.prog w base sp held m 147 [v3, v4, v5] = some y1 from hf 1 (by decide)) (by rw [← z1])
  obtain ⟨rfl, rfl, rfl⟩ := col_of_trod (a := 28) (n := 6) (b := 10) (show DataW.trod enc Tryz.prog w base sp held m 147 [v6, v7, v8] = some y2 from hf 2 (by decide)) (by rw [← z2])
  obtain ⟨rfl, rfl, rfl⟩ := col_of_trod (a := 34) (n := 6) (b := 10) (show DataW.trod enc Tryz.prog w base sp held m 147 [v9, v10, v11] = some y3 from hf 3 (by decide)) (by rw [← z3])
  obtain ⟨rfl, rfl, rfl⟩ := col_of_trod (a := 40) (n := 8) (b := 8) (show DataW.trod enc Tryz.prog w base sp held m 147 [v12, v13, v14] = some y4 from hf 4 (by decide)) (by rw [← z4])
  obtain ⟨rfl, rfl, rfl⟩ := col_of_trod (a := 48) (n := 10) (b := 10) (show DataW.trod enc Tryz.prog w base sp held m 147 [v15, v16, v17] = some y5 from hf 5 (by decide)) (by rw [← z5])
  obtain ⟨rfl, rfl, rfl⟩ := col_of_trod (a := 58) (n := 2) (b := 0) (show DataW.trod enc Tryz.prog w base sp held m 147 [v18, v19, v20] = some y6 from hf 6 (by decide)) (by rw [← z6])
  rfl
def HdOk (h : Hd) : Prop := (Lit.int .i64 h.date).wf = true ∧ (Lit.int .i64 h.uid).wf = true ∧ (Lit.int .i64 h.gid).wf = true ∧ (Lit.int .i64 h.mode).wf = true ∧ (Lit.int .i64 h.size).wf = true ∧ h.name.size ≤ maxLen
def hdC (h : Hd) : Array Value := #[.int .i64 h.date, .int .i64 h.uid, .int .i64 h.gid, .int .i64 h.mode, .string h.name, .int .i64 h.size]
theorem open_head {cs : Array Value} {d : DataW H} {p : List MemPlace} (h : DataW.Trod enc Tryz.prog w 0 (fun _ => true) true 59 (.agg cs) d p) : ∃ h : Hd, cs = hdC h ∧ HdOk h := by
  obtain ⟨fuel, h⟩ := h
  obtain ⟨xs, m, rfl, hx, hl, hxl, hf⟩ := DataW.trod_struct Tryz.underlying59 h
  rw [show Tryz.prog.cellsOf 59 = 6 from by kernel_rfl] at hl
  obtain ⟨y0, y1, y2, rfl⟩ := len3 hxl
  obtain ⟨v0, v1, v2, v3, v4, v5, hv⟩ := len6 hl
  have hv' : cs.toList = [v0, v1, v2, v3, v4, v5] := hv
  rw [hv] at hf
  have g0 : DataW.trod enc Tryz.prog w 0 (fun _ => true) true m 52 [v0, v1, v2, v3] = some y0 := by simpa [cellsM] using hf 0 _ rfl
  have g1 : DataW.trod enc Tryz.prog w 0 (fun _ => true) true m 9 [v4] = some y1 := by simpa [cellsS] using hf 1 _ rfl
  have g2 : DataW.trod enc Tryz.prog w 0 (fun _ => true) true m 3 [v5] = some y2 := by simpa [cellsI] using hf 2 _ rfl
  obtain ⟨k4, e4, _, w4⟩ := DataW.trod_string Tryz.underlying9 g1
  obtain ⟨k5, e5, _, w5⟩ := DataW.trod_int Tryz.underlying3 g2
  obtain ⟨ys, m', rfl, _, _, hyl, hg⟩ := DataW.trod_struct Tryz.underlying52 g0
  obtain ⟨x0, x1, x2, x3, rfl⟩ := len4 hyl
  have q0 : DataW.trod enc Tryz.prog w 0 (fun _ => true) true m' 3 [v0] = some x0 := by simpa [cellsI] using hg 0 _ rfl
  have q1 : DataW.trod enc Tryz.prog w 0 (fun _ => true) true m' 3 [v1] = some x1 := by simpa [cellsI] using hg 1 _ rfl
  have q2 : DataW.trod enc Tryz.prog w 0 (fun _ => true) true m' 3 [v2] = some x2 := by simpa [cellsI] using hg 2 _ rfl
  have q3 : DataW.trod enc Tryz.prog w 0 (fun _ => true) true m' 3 [v3] = some x3 := by simpa [cellsI] using hg 3 _ rfl
  obtain ⟨k0, e0, _, w0⟩ := DataW.trod_int Tryz.underlying3 q0
  obtain ⟨k1, e1, _, w1⟩ := DataW.trod_int Tryz.underlying3 q1
  obtain ⟨k2, e2, _, w2⟩ := DataW.trod_int Tryz.underlying3 q2
  obtain ⟨k3, e3, _, w3⟩ := DataW.trod_int Tryz.underlying3 q3
  cases e0; cases e1; cases e2; cases e3; cases e4; cases e5
  refine ⟨⟨k0, k1, k2, k3, k4, k5⟩, ?_, w0, w1, w2, w3, w5, w4⟩
  have h := congrArg List.toArray hv'
  rw [Array.toArray_toList] at h
  exact h
end
theorem gCols : Tryz.prog.globalNamed "shelf/head.columns" = some 0 := by kernel_rfl
theorem gColsT : (Tryz.prog.globals[0]?).map (·.type) = some 148 := by kernel_rfl
theorem cols_of_head {W : World} {rest : List (String × DataW Unit)} (h : laidMet Tryz.prog (("shelf/head.columns", Rows.laid_shelf_head_columns) :: rest) W) : Cols W := by
  obtain ⟨ps, ⟨g', t', cs, fuel, p, q, hg', ht', hvar, hd, _, _⟩, _⟩ := h
  obtain rfl := Option.some.inj (gCols.symm.trans hg')
  obtain rfl := Option.some.inj (gColsT.symm.trans ht')
  have hcs := cols_of_trod hd
  intro j v hj
  rw [World.var?_cell gCols hvar j, ← Array.getElem?_toList, hcs]
  exact hj
theorem wf64 {n : Int} (h : (Lit.int .i64 n).wf = true) : -9223372036854775808 ≤ n ∧ n ≤ 9223372036854775807 := by
  simp [Lit.wf] at h
  exact h
theorem HdOk.inn {h : Hd} (k : HdOk h) : HdIn h := ⟨(wf64 k.1).2, (wf64 k.2.1).2, (wf64 k.2.2.1).2, (wf64 k.2.2.2.1).2, (wf64 k.2.2.2.2.1).2⟩
end Go.Proofs.YtnfplepaejjmfaaGreatDoor
