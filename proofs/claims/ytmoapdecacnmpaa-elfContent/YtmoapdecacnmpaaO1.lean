
-- A section as it is handed in: its eight numbers.
import Derived.Test.YtmoapdecacnmpaaRows
import Derived.WalkKit
import Derived.ProofKit
import Derived.OpenShut
import Derived.ChangeArms
namespace Go.Proofs.Ytmoapdecacnmpaa
open Go.ChangeShapes Go.WideShapes Go.ChangeAt Go.RowKit
set_option linter.unusedVariables false
theorem cellsI : Try.prog.cellsOf 3 = 1 := by kernel_rfl
theorem cellsU : Try.prog.cellsOf 22 = 1 := by kernel_rfl
theorem len8 {α : Type} {l : List α} (h : l.length = 8) : ∃ a b c d e f g h, l = [a, b, c, d, e, f, g, h] := by
  match l, h with
  | [a, b, c, d, e, f, g, h], _ => exact ⟨_, _, _, _, _, _, _, _, rfl⟩
section
variable {H : Type} {enc : TypeId × Value → H} {w : World}
theorem wf_u64 {n : Int} (h : (Lit.int .u64 n).wf = true) : 0 ≤ n ∧ n < 18446744073709551616 := by
  simp [Lit.wf] at h
  have e1 : IntKind.u64.min = 0 := by decide
  have e2 : IntKind.u64.max = 18446744073709551615 := by decide
  rw [e1, e2] at h
  omega
theorem open_sec {cs : Array Value} {d : DataW H} {p : List MemPlace} (h : DataW.Trod enc Try.prog w 0 (fun _ => true) true 24 (.agg cs) d p) :
    ∃ a b c d e f g h : Int, cs = #[.int .i64 a, .int .i64 b, .int .u64 c, .int .i64 d, .int .i64 e, .int .u64 f, .int .u64 g, .int .u64 h] ∧ (0 ≤ f ∧ f < 18446744073709551616) ∧ (0 ≤ g ∧ g < 18446744073709551616) := by
  obtain ⟨fuel, h⟩ := h
  obtain ⟨xs, m, rfl, hx, hl, hxl, hf⟩ := DataW.trod_struct Try.underlying24 h
  rw [show Try.prog.cellsOf 24 = 8 from by kernel_rfl] at hl
  obtain ⟨y0, y1, y2, y3, y4, y5, y6, y7, rfl⟩ := len8 hxl
  obtain ⟨v0, v1, v2, v3, v4, v5, v6, v7, hv⟩ := len8 hl
  have hv' : cs.toList = [v0, v1, v2, v3, v4, v5, v6, v7] := hv
  rw [hv] at hf
  have g0 : DataW.trod enc Try.prog w 0 (fun _ => true) true m 3 [v0] = some y0 := by simpa [cellsI] using hf 0 _ rfl
  have g1 : DataW.trod enc Try.prog w 0 (fun _ => true) true m 3 [v1] = some y1 := by simpa [cellsI] using hf 1 _ rfl
  have g2 : DataW.trod enc Try.prog w 0 (fun _ => true) true m 22 [v2] = some y2 := by simpa [cellsU] using hf 2 _ rfl
  have g3 : DataW.trod enc Try.prog w 0 (fun _ => true) true m 3 [v3] = some y3 := by simpa [cellsI] using hf 3 _ rfl
  have g4 : DataW.trod enc Try.prog w 0 (fun _ => true) true m 3 [v4] = some y4 := by simpa [cellsI] using hf 4 _ rfl
  have g5 : DataW.trod enc Try.prog w 0 (fun _ => true) true m 22 [v5] = some y5 := by simpa [cellsU] using hf 5 _ rfl
  have g6 : DataW.trod enc Try.prog w 0 (fun _ => true) true m 22 [v6] = some y6 := by simpa [cellsU] using hf 6 _ rfl
  have g7 : DataW.trod enc Try.prog w 0 (fun _ => true) true m 22 [v7] = some y7 := by simpa [cellsU] using hf 7 _ rfl
  obtain ⟨k0, e0, _, _⟩ := DataW.trod_int Try.underlying3 g0
  obtain ⟨k1, e1, _, _⟩ := DataW.trod_int Try.underlying3 g1
  obtain ⟨k2, e2, _, _⟩ := DataW.trod_int Try.underlying22 g2
  obtain ⟨k3, e3, _, _⟩ := DataW.trod_int Try.underlying3 g3
  obtain ⟨k4, e4, _, _⟩ := DataW.trod_int Try.underlying3 g4
  obtain ⟨k5, e5, _, u5⟩ := DataW.trod_int Try.underlying22 g5
  obtain ⟨k6, e6, _, u6⟩ := DataW.trod_int Try.underlying22 g6
  obtain ⟨k7, e7, _, _⟩ := DataW.trod_int Try.underlying22 g7
  cases e0; cases e1; cases e2; cases e3; cases e4; cases e5; cases e6; cases e7
  refine ⟨k0, k1, k2, k3, k4, k5, k6, k7, ?_, wf_u64 u5, wf_u64 u6⟩
  have h := congrArg List.toArray hv'
  rw [Array.toArray_toList] at h
  exact h
end
end Go.Proofs.Ytmoapdecacnmpaa
