
-- A script as it is read.
import Derived.Test.YtjbphheojfclcaaGreatQ2
import Derived.Test.YtjbphheojfclcaaGreatRows
import Derived.WalkKit
import Derived.Deep.Slices
import Derived.ChangeSlices
namespace Go.Proofs.YtjbphheojfclcaaGreat
open Go.RowKit Go.ChangeShapes Go.Deep
set_option linter.unusedVariables false
set_option maxRecDepth 100000
theorem bulk_mem {H : Type} (l : List (DataW H)) (d : DataW H) (h : d ∈ l) : Rows.uptoBulk d ≤ Rows.uptoBulkAll l := by
  induction l with
  | nil => simp at h
  | cons x r ih =>
    simp only [Rows.uptoBulkAll]
    rcases List.mem_cons.1 h with rfl | h
    · omega
    · have := ih h; omega
theorem bulk_pos {H : Type} (d : DataW H) : 1 ≤ Rows.uptoBulk d := by
  cases d with
  | lit l => cases l <;> simp [Rows.uptoBulk]
  | _ => simp [Rows.uptoBulk]
theorem bulk_len {H : Type} (l : List (DataW H)) : l.length ≤ Rows.uptoBulkAll l := by
  induction l with
  | nil => simp [Rows.uptoBulkAll]
  | cons x r ih => simp only [Rows.uptoBulkAll, List.length_cons]; have := bulk_pos x; omega
theorem cellsI : Tryz.prog.cellsOf 3 = 1 := by kernel_rfl
theorem cellsS : Tryz.prog.cellsOf 9 = 1 := by kernel_rfl
theorem cellsM : Tryz.prog.cellsOf 23 = 4 := by kernel_rfl
theorem cellsC : Tryz.prog.cellsOf 37 = 1 := by kernel_rfl
theorem cellsF : Tryz.prog.cellsOf 52 = 3 := by kernel_rfl
theorem cellsP : Tryz.prog.cellsOf 36 = 1 := by kernel_rfl
theorem cellsOp : Tryz.prog.cellsOf 39 = 10 := by kernel_rfl
theorem len3 {α : Type} {l : List α} (h : l.length = 3) : ∃ a b c, l = [a, b, c] := by
  match l, h with
  | [a, b, c], _ => exact ⟨a, b, c, rfl⟩
section
variable {H : Type} {enc : TypeId × Value → H} {w : World} {spare : Nat → Bool} {held : Bool}
/-- A list of ints as it is read. -/
theorem open_cuts {fuel : Nat} {cv : Value} {x : DataW H × List MemPlace} (h : DataW.trod enc Tryz.prog w 0 spare held fuel 37 [cv] = some x) :
    ∃ cuts, RowI w cv cuts ∧ (cuts ≠ [] → ∀ k, cv.ownBlock = some k → k < w.heap.size) ∧ cuts.length ≤ Rows.uptoBulk x.1 := by
  rcases open_ints Tryz.underlying37 Tryz.underlying3 cellsI h with ⟨hcs, _⟩ | ⟨a, len, cap, zs, hcs, _, hl, hm, hz, hx, hc, _⟩
  · cases hcs
    exact ⟨[], .inl ⟨rfl, _, _, rfl⟩, fun h => absurd rfl h, by simp⟩
  · cases hcs
    have hlz : len ≤ zs.length := by rw [hz]; split <;> omega
    have hb : len ≤ Rows.uptoBulk x.1 := by
      rw [hx]
      simp only [Rows.uptoBulk]
      have h1 := bulk_len (lits (H := H) .i64 (zs.take len))
      have h2 : (lits (H := H) .i64 (zs.take len)).length = len := by simp [lits]; omega
      omega
    rcases Nat.eq_zero_or_pos len with h0 | h0
    · subst h0
      exact ⟨[], .inl ⟨rfl, _, _, rfl⟩, fun h => absurd rfl h, by simp⟩
    · obtain ⟨b, off, spot⟩ := a
      have c0 := hc 0 (by omega)
      have hs : spot = none := by simpa [Addr.add] using World.cell?_spot c0
      subst hs
      have hlt : (zs.take len).length = len := by rw [List.length_take]; omega
      have hbl : b < w.heap.size := by rw [add_off] at c0; exact World.block_lt_of_cell? w _ c0
      refine ⟨zs.take len, .inr ⟨b, off, cap, by rw [hlt], by omega, fun j hj => ?_⟩, fun _ k hk => ?_, by rw [hlt]; exact hb⟩
      · have := hc j (by omega)
        rw [add_off] at this
        rw [this]
        rw [hlt] at hj
        simp [List.getD, hj]
      · simp only [Value.ownBlock, Option.some.injEq] at hk; omega
/-- A fault as it is read. -/
theorem open_fault {n : Nat} {b off : Nat} {cs : List Value} {x : DataW H × List MemPlace} (h1 : w.cells? 0 ⟨b, off, none⟩ 3 = some cs) (h : DataW.trod enc Tryz.prog w 0 spare held n 52 cs = some x) :
    ∃ f : Flt, w.cell? ⟨b, off, none⟩ = some (.int .i64 f.at_) ∧ w.cell? ⟨b, off + 1, none⟩ = some (.int .i64 f.kind) ∧ w.cell? ⟨b, off + 2, none⟩ = some (.int .i64 f.n) := by
  obtain ⟨_, hlen, hcell⟩ := World.cells?_some h1
  obtain ⟨xs, m, hn, hx, hcl, hxl, hf⟩ := DataW.trod_struct Tryz.underlying52 h
  obtain ⟨y0, y1, y2, rfl⟩ := len3 hxl
  obtain ⟨v0, v1, v2, rfl⟩ := len3 hlen
  have g0 : DataW.trod enc Tryz.prog w 0 spare held m 3 [v0] = some y0 := by simpa [cellsI] using hf 0 _ rfl
  have g1 : DataW.trod enc Tryz.prog w 0 spare held m 3 [v1] = some y1 := by simpa [cellsI] using hf 1 _ rfl
  have g2 : DataW.trod enc Tryz.prog w 0 spare held m 3 [v2] = some y2 := by simpa [cellsI] using hf 2 _ rfl
  obtain ⟨k0, e0, _, _⟩ := DataW.trod_int Tryz.underlying3 g0
  obtain ⟨k1, e1, _, _⟩ := DataW.trod_int Tryz.underlying3 g1
  obtain ⟨k2, e2, _, _⟩ := DataW.trod_int Tryz.underlying3 g2
  cases e0; cases e1; cases e2
  have cell : ∀ i v, [Value.int .i64 k0, .int .i64 k1, .int .i64 k2][i]? = some v → w.cell? ⟨b, off + i, none⟩ = some v := fun i v hv => by
    have hi : i < 3 := by
      rcases Nat.lt_or_ge i 3 with h' | h'
      · exact h'
      · rw [List.getElem?_eq_none (by simpa using h')] at hv; cases hv
    have := hcell i hi
    rw [add_off] at this
    rw [this]; exact hv
  exact ⟨⟨k0, k1, k2⟩, cell 0 _ rfl, cell 1 _ rfl, cell 2 _ rfl⟩
/-- A plan as it is read. -/
theorem open_plan {fuel : Nat} {v : Value} {x : DataW H × List MemPlace} (h : DataW.trod enc Tryz.prog w 0 spare held fuel 36 [v] = some x) :
    ∃ plan : List Flt, RowP w v plan ∧ (plan ≠ [] → ∀ k, v.ownBlock = some k → k < w.heap.size) ∧ plan.length ≤ Rows.uptoBulk x.1 := by
  rcases open_slice Tryz.underlying36 h with ⟨hcs, _⟩ | ⟨a, len, cap, m, n, D, Pl, hcs, _, hl, hm, hmm, hx, hel⟩
  · cases hcs
    exact ⟨[], .inl ⟨rfl, _, _, rfl⟩, fun h => absurd rfl h, by simp⟩
  · cases hcs
    have hlm : len ≤ m := by rw [hmm]; split <;> omega
    have hxb : Rows.uptoBulk x.1 = Rows.uptoBulkAll ((List.range len).map D) + Rows.uptoBulkAll ((List.range (m - len)).map fun j => D (len + j)) + 1 := by rw [hx]; simp only [Rows.uptoBulk]
    have hlen : len ≤ Rows.uptoBulk x.1 := by
      have := bulk_len ((List.range len).map D)
      simp at this; omega
    rcases Nat.eq_zero_or_pos len with h0 | h0
    · subst h0
      exact ⟨[], .inl ⟨rfl, _, _, rfl⟩, fun h => absurd rfl h, by simp⟩
    · rw [cellsF] at hel
      obtain ⟨b, off, spot⟩ := a
      have hs : spot = none := by
        obtain ⟨cs', h1, _⟩ := hel 0 (by omega)
        obtain ⟨_, hl1, hc1⟩ := World.cells?_some h1
        have := hc1 0 (by omega)
        rw [List.getElem?_eq_getElem (by omega)] at this
        simpa [Addr.add] using World.cell?_spot this
      subst hs
      have each : ∀ i, i < len → ∃ f : Flt, w.cell? ⟨b, off + i * 3, none⟩ = some (.int .i64 f.at_) ∧ w.cell? ⟨b, off + i * 3 + 1, none⟩ = some (.int .i64 f.kind) ∧ w.cell? ⟨b, off + i * 3 + 2, none⟩ = some (.int .i64 f.n) := by
        intro i hi
        obtain ⟨cs', h1, h2⟩ := hel i (by omega)
        rw [add_off] at h1
        exact open_fault h1 h2
      haveI : Inhabited Flt := ⟨⟨0, 0, 0⟩⟩
      obtain ⟨f, hf⟩ := choose_lt each
      have hg : ∀ (j : Nat) (o : Flt), ((List.range len).map f)[j]? = some o → j < len ∧ o = f j := by
        intro j o hj
        rw [List.getElem?_map] at hj
        rcases Nat.lt_or_ge j len with h' | h'
        · rw [List.getElem?_range h'] at hj; cases hj; exact ⟨h', rfl⟩
        · rw [List.getElem?_eq_none (by simpa using h')] at hj; cases hj
      have hbl : b < w.heap.size := World.block_lt_of_cell? w _ (hf 0 h0).1
      refine ⟨(List.range len).map f, .inr ⟨b, off, cap, by simp, hbl, fun j o hj => ?_⟩, fun _ k hk => ?_, by simpa using hlen⟩
      · obtain ⟨hj', rfl⟩ := hg j o hj; exact hf j hj'
      · simp only [Value.ownBlock, Option.some.injEq] at hk; omega
/-- One call as it is read. -/
theorem open_op {n : Nat} {b off : Nat} {cs : List Value} {x : DataW H × List MemPlace} (h1 : w.cells? 0 ⟨b, off, none⟩ 10 = some cs) (h : DataW.trod enc Tryz.prog w 0 spare held n 39 cs = some x) :
    ∃ o : Opv, OpvAt w b off o ∧ RowI w o.cv o.cuts ∧ (o.cuts ≠ [] → ∀ k, o.cv.ownBlock = some k → k < w.heap.size) ∧ o.cuts.length ≤ Rows.uptoBulk x.1 ∧ o.a.size ≤ Rows.uptoBulk x.1 ∧ RowP w o.pv o.plan ∧ (o.plan ≠ [] → ∀ k, o.pv.ownBlock = some k → k < w.heap.size) ∧ o.plan.length ≤ Rows.uptoBulk x.1 := by
  obtain ⟨_, hlen, hcell⟩ := World.cells?_some h1
  obtain ⟨xs, m, rfl, hx, _, hxl, hf⟩ := DataW.trod_struct Tryz.underlying39 h
  obtain ⟨y0, y1, y2, y3, y4, y5, y6, rfl⟩ := len7 hxl
  obtain ⟨v0, v1, v2, v3, v4, v5, v6, v7, v8, v9, rfl⟩ := len10 hlen
  have g0 : DataW.trod enc Tryz.prog w 0 spare held m 3 [v0] = some y0 := by simpa [cellsI] using hf 0 _ rfl
  have g1 : DataW.trod enc Tryz.prog w 0 spare held m 3 [v1] = some y1 := by simpa [cellsI] using hf 1 _ rfl
  have g2 : DataW.trod enc Tryz.prog w 0 spare held m 9 [v2] = some y2 := by simpa [cellsS] using hf 2 _ rfl
  have g3 : DataW.trod enc Tryz.prog w 0 spare held m 9 [v3] = some y3 := by simpa [cellsS] using hf 3 _ rfl
  have g4 : DataW.trod enc Tryz.prog w 0 spare held m 23 [v4, v5, v6, v7] = some y4 := by simpa [cellsM] using hf 4 _ rfl
  have g5 : DataW.trod enc Tryz.prog w 0 spare held m 36 [v8] = some y5 := by simpa [cellsP] using hf 5 _ rfl
  have g6 : DataW.trod enc Tryz.prog w 0 spare held m 37 [v9] = some y6 := by simpa [cellsC] using hf 6 _ rfl
  obtain ⟨k0, e0, _, _⟩ := DataW.trod_int Tryz.underlying3 g0
  obtain ⟨k1, e1, _, _⟩ := DataW.trod_int Tryz.underlying3 g1
  obtain ⟨s2, e2, z2, _⟩ := DataW.trod_string Tryz.underlying9 g2
  obtain ⟨s3, e3, _, _⟩ := DataW.trod_string Tryz.underlying9 g3
  obtain ⟨ms, m', _, _, _, hml, hmf⟩ := DataW.trod_struct Tryz.underlying23 g4
  obtain ⟨plan, hpr, hpo, hpb⟩ := open_plan g5
  obtain ⟨cuts, hri, hlo, hcb⟩ := open_cuts g6
  obtain ⟨p0, p1, p2, p3, rfl⟩ := len4 hml
  have q0 : DataW.trod enc Tryz.prog w 0 spare held m' 3 [v4] = some p0 := by simpa [cellsI] using hmf 0 _ rfl
  have q1 : DataW.trod enc Tryz.prog w 0 spare held m' 3 [v5] = some p1 := by simpa [cellsI] using hmf 1 _ rfl
  have q2 : DataW.trod enc Tryz.prog w 0 spare held m' 3 [v6] = some p2 := by simpa [cellsI] using hmf 2 _ rfl
  have q3 : DataW.trod enc Tryz.prog w 0 spare held m' 3 [v7] = some p3 := by simpa [cellsI] using hmf 3 _ rfl
  obtain ⟨k4, e4, _, _⟩ := DataW.trod_int Tryz.underlying3 q0
  obtain ⟨k5, e5, _, _⟩ := DataW.trod_int Tryz.underlying3 q1
  obtain ⟨k6, e6, _, _⟩ := DataW.trod_int Tryz.underlying3 q2
  obtain ⟨k7, e7, _, _⟩ := DataW.trod_int Tryz.underlying3 q3
  cases e0; cases e1; cases e2; cases e3; cases e4; cases e5; cases e6; cases e7
  have cell : ∀ i v, [Value.int .i64 k0, .int .i64 k1, .string s2, .string s3, .int .i64 k4, .int .i64 k5, .int .i64 k6, .int .i64 k7, v8, v9][i]? = some v → w.cell? ⟨b, off + i, none⟩ = some v := fun i v hv => by
    have hi : i < 10 := by
      rcases Nat.lt_or_ge i 10 with h' | h'
      · exact h'
      · rw [List.getElem?_eq_none (by simpa using h')] at hv; cases hv
    have := hcell i hi
    rw [add_off] at this
    rw [this]; exact hv
  have hbx : Rows.uptoBulk y2.1 ≤ Rows.uptoBulk x.1 ∧ Rows.uptoBulk y5.1 ≤ Rows.uptoBulk x.1 ∧ Rows.uptoBulk y6.1 ≤ Rows.uptoBulk x.1 := by
    rw [hx]
    simp only [Rows.uptoBulk, List.map_cons, List.map_nil, Rows.uptoBulkAll]
    omega
  have hs2 : s2.size ≤ Rows.uptoBulk y2.1 := by
    rw [z2]
    simp only [Rows.uptoBulk, Array.length_toList]
    show s2.data.size ≤ _
    omega
  exact ⟨⟨k0, k1, s2, s3, k4, k5, k6, k7, v8, v9, plan, cuts⟩, ⟨cell 0 _ rfl, cell 1 _ rfl, cell 2 _ rfl, cell 3 _ rfl, cell 4 _ rfl, cell 5 _ rfl, cell 6 _ rfl, cell 7 _ rfl, cell 8 _ rfl, cell 9 _ rfl⟩, hri, hlo, Nat.le_trans hcb hbx.2.2, Nat.le_trans hs2 hbx.1, hpr, hpo, Nat.le_trans hpb hbx.2.1⟩
/-- A script as it is read. -/
theorem open_ops {fuel : Nat} {v : Value} {x : DataW H × List MemPlace} (h : DataW.trod enc Tryz.prog w 0 spare held fuel 47 [v] = some x) (hB : Rows.uptoBulk x.1 ≤ 1048576) :
    ∃ ops : List Opv, RowV w v ops ∧ (∀ (j : Nat) (o : Opv), ops[j]? = some o → OpvOk w.heap.size o w) ∧ ops.length ≤ Rows.uptoBulk x.1 := by
  rcases open_slice Tryz.underlying47 h with ⟨hcs, _⟩ | ⟨a, len, cap, m, n, D, Pl, hcs, _, hl, hm, hmm, hx, hel⟩
  · cases hcs
    exact ⟨[], .inl ⟨rfl, _, _, rfl⟩, fun j o hj => by simp at hj, by simp⟩
  · cases hcs
    have hlm : len ≤ m := by rw [hmm]; split <;> omega
    have hxb : Rows.uptoBulk x.1 = Rows.uptoBulkAll ((List.range len).map D) + Rows.uptoBulkAll ((List.range (m - len)).map fun j => D (len + j)) + 1 := by rw [hx]; simp only [Rows.uptoBulk]
    have hlen : len ≤ Rows.uptoBulk x.1 := by
      have := bulk_len ((List.range len).map D)
      simp at this; omega
    rcases Nat.eq_zero_or_pos len with h0 | h0
    · subst h0
      exact ⟨[], .inl ⟨rfl, _, _, rfl⟩, fun j o hj => by simp at hj, by simp⟩
    · rw [cellsOp] at hel
      obtain ⟨b, off, spot⟩ := a
      have hs : spot = none := by
        obtain ⟨cs', h1, _⟩ := hel 0 (by omega)
        obtain ⟨_, hl1, hc1⟩ := World.cells?_some h1
        have := hc1 0 (by omega)
        rw [List.getElem?_eq_getElem (by omega)] at this
        simpa [Addr.add] using World.cell?_spot this
      subst hs
      have each : ∀ i, i < len → ∃ o : Opv, OpvAt w b (off + i * 10) o ∧ OpvOk w.heap.size o w := by
        intro i hi
        obtain ⟨cs', h1, h2⟩ := hel i (by omega)
        rw [add_off] at h1
        obtain ⟨o, a1, a2, a3, a4, a5, a6, a7, a8⟩ := open_op h1 h2
        have hbd : Rows.uptoBulk (D i) ≤ Rows.uptoBulkAll ((List.range len).map D) := bulk_mem _ _ (List.mem_map.2 ⟨i, List.mem_range.2 hi, rfl⟩)
        exact ⟨o, a1, ⟨a2, a3, by simp only at a4; omega, by simp only at a5; omega, a6, a7, by simp only at a8; omega⟩⟩
      haveI : Inhabited Opv := ⟨⟨0, 0, ⟨#[]⟩, ⟨#[]⟩, 0, 0, 0, 0, .slice none 0 0, .slice none 0 0, [], []⟩⟩
      obtain ⟨f, hf⟩ := choose_lt each
      have hg : ∀ (j : Nat) (o : Opv), ((List.range len).map f)[j]? = some o → j < len ∧ o = f j := by
        intro j o hj
        rw [List.getElem?_map] at hj
        rcases Nat.lt_or_ge j len with h' | h'
        · rw [List.getElem?_range h'] at hj; cases hj; exact ⟨h', rfl⟩
        · rw [List.getElem?_eq_none (by simpa using h')] at hj; cases hj
      refine ⟨(List.range len).map f, .inr ⟨b, off, cap, by simp, ?_, fun j o hj => ?_⟩, fun j o hj => ?_, by simpa using hlen⟩
      · exact World.block_lt_of_cell? w _ (hf 0 h0).1.1
      · obtain ⟨hj', rfl⟩ := hg j o hj; exact (hf j hj').1
      · obtain ⟨hj', rfl⟩ := hg j o hj; exact (hf j hj').2
end
end Go.Proofs.YtjbphheojfclcaaGreat
