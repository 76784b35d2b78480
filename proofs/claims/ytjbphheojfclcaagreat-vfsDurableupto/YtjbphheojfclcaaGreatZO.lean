
-- A step as it is handed in by value.
import Derived.Test.YtjbphheojfclcaaGreatEO
import Derived.ProofKit
import Derived.OpenShut
import Derived.ChangeArms
namespace Go.Proofs.YtjbphheojfclcaaGreat
open Go.RowKit Go.ChangeShapes Go.Deep
set_option linter.unusedVariables false
set_option maxRecDepth 100000
theorem bulk_memM {H : Type} (l : List (DataW H)) (d : DataW H) (h : d ∈ l) : Rows.uptoBulk d ≤ Rows.uptoBulkAll l := bulk_mem l d h
section
variable {H : Type} {enc : TypeId × Value → H} {w : World} {spare : Nat → Bool} {held : Bool}
theorem open_opC {n : Nat} {cs : List Value} {x : DataW H × List MemPlace} (hlen : cs.length = 10) (h : DataW.trod enc Tryz.prog w 0 spare held n 39 cs = some x) :
    ∃ o : Opv, cs = [.int .i64 o.kind, .int .i64 o.n, .string o.a, .string o.b, .int .i64 o.m0, .int .i64 o.m1, .int .i64 o.m2, .int .i64 o.m3, o.pv, o.cv] ∧ RowI w o.cv o.cuts ∧ (o.cuts ≠ [] → ∀ k, o.cv.ownBlock = some k → k < w.heap.size) ∧ o.cuts.length ≤ Rows.uptoBulk x.1 ∧ o.a.size ≤ Rows.uptoBulk x.1 ∧ RowP w o.pv o.plan ∧ (o.plan ≠ [] → ∀ k, o.pv.ownBlock = some k → k < w.heap.size) ∧ o.plan.length ≤ Rows.uptoBulk x.1 := by
  obtain ⟨xs, m, rfl, hx, _, hxl, hf⟩ := DataW.trod_struct Tryz.underlying39 h
  obtain ⟨y0, y1, y2, y3, y4, y5, y6, rfl⟩ := len7 hxl
  obtain ⟨v0, v1, v2, v3, v4, v5, v6, v7, v8, v9, rfl⟩ := len10 hlen
  have g0 : DataW.trod enc Tryz.prog w 0 spare held m 3 [v0] = some y0 := by simpa [cellsI] using hf 0 _ rfl
  have g1 : DataW.trod enc Tryz.prog w 0 spare held m 3 [v1] = some y1 := by simpa [cellsI] using hf 1 _ rfl
  have g2 : DataW.trod enc Tryz.prog w 0 spare held m 9 [v2] = some y2 := by simpa [cellsS] using hf 2 _ rfl
  have g3 : DataW.trod enc Tryz.prog w 0 spare held m 9 [v3] = some y3 := by simpa [cellsS] using hf 3 _ rfl
  have g4 : DataW.trod enc Tryz.prog w 0 spare held m 23 [v4, v5, v6, v7] = some y4 := by simpa [cellsM] using hf 4 _ rfl
  have g5 : DataW.trod enc Tryz.prog w 0 spare held m 36 [v8] = some y5 := by simpa [cellsP] using hf 5 _ rfl
  have g6 : DataW.trod enc Tryz.prog w 0 spare held m 37 [v9] = some y6 := by simpa [cellsC] using hf 6 _ rfl
  obtain ⟨k0, e0, _, _⟩ := DataW.trod_int Tryz.underlying3 g0
  obtain ⟨k1, e1, _, _⟩ := DataW.trod_int Tryz.underlying3 g1
  obtain ⟨s2, e2, z2, _⟩ := DataW.trod_string Tryz.underlying9 g2
  obtain ⟨s3, e3, _, _⟩ := DataW.trod_string Tryz.underlying9 g3
  obtain ⟨ms, m', _, _, _, hml, hmf⟩ := DataW.trod_struct Tryz.underlying23 g4
  obtain ⟨plan, hpr, hpo, hpb⟩ := open_plan g5
  obtain ⟨cuts, hri, hlo, hcb⟩ := open_cuts g6
  obtain ⟨p0, p1, p2, p3, rfl⟩ := len4 hml
  have q0 : DataW.trod enc Tryz.prog w 0 spare held m' 3 [v4] = some p0 := by simpa [cellsI] using hmf 0 _ rfl
  have q1 : DataW.trod enc Tryz.prog w 0 spare held m' 3 [v5] = some p1 := by simpa [cellsI] using hmf 1 _ rfl
  have q2 : DataW.trod enc Tryz.prog w 0 spare held m' 3 [v6] = some p2 := by simpa [cellsI] using hmf 2 _ rfl
  have q3 : DataW.trod enc Tryz.prog w 0 spare held m' 3 [v7] = some p3 := by simpa [cellsI] using hmf 3 _ rfl
  obtain ⟨k4, e4, _, _⟩ := DataW.trod_int Tryz.underlying3 q0
  obtain ⟨k5, e5, _, _⟩ := DataW.trod_int Tryz.underlying3 q1
  obtain ⟨k6, e6, _, _⟩ := DataW.trod_int Tryz.underlying3 q2
  obtain ⟨k7, e7, _, _⟩ := DataW.trod_int Tryz.underlying3 q3
  cases e0; cases e1; cases e2; cases e3; cases e4; cases e5; cases e6; cases e7
  have hbx : Rows.uptoBulk y2.1 ≤ Rows.uptoBulk x.1 ∧ Rows.uptoBulk y5.1 ≤ Rows.uptoBulk x.1 ∧ Rows.uptoBulk y6.1 ≤ Rows.uptoBulk x.1 := by
    rw [hx]
    simp only [Rows.uptoBulk, List.map_cons, List.map_nil, Rows.uptoBulkAll]
    omega
  have hs2 : s2.size ≤ Rows.uptoBulk y2.1 := by
    rw [z2]
    simp only [Rows.uptoBulk, Array.length_toList]
    show s2.data.size ≤ _
    omega
  exact ⟨⟨k0, k1, s2, s3, k4, k5, k6, k7, v8, v9, plan, cuts⟩, rfl, hri, hlo, Nat.le_trans hcb hbx.2.2, Nat.le_trans hs2 hbx.1, hpr, hpo, Nat.le_trans hpb hbx.2.1⟩
/-- A step handed in by value. -/
theorem open_opV {cs : Array Value} {d : DataW H} {p : List MemPlace} (h : DataW.Trod enc Tryz.prog w 0 (fun _ => true) true 39 (.agg cs) d p) (hB : Rows.uptoBulk d ≤ 1048576) :
    ∃ o : Opv, Value.agg cs = o.v ∧ OpvOk w.heap.size o w := by
  obtain ⟨fuel, h⟩ := h
  obtain ⟨xs, m, rfl, hx, hl, hxl, hf⟩ := DataW.trod_struct Tryz.underlying39 h
  rw [cellsOp] at hl
  have hl' : cs.toList.length = 10 := hl
  obtain ⟨o, hcs, a2, a3, a4, a5, a6, a7, a8⟩ := open_opC (cs := cs.toList) hl' h
  refine ⟨o, ?_, ⟨a2, a3, by simp only at a4; omega, by simp only at a5; omega, a6, a7, by simp only at a8; omega⟩⟩
  have := congrArg List.toArray hcs
  rw [Array.toArray_toList] at this
  rw [this]; rfl
end
end Go.Proofs.YtjbphheojfclcaaGreat
