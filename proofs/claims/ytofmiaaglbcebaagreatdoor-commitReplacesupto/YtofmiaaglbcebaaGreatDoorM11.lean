import Derived.Test.YtofmiaaglbcebaaGreatDoorU13
import Derived.Test.YtofmiaaglbcebaaGreatDoorRows
import Derived.WalkKit
import Derived.Deep.Slices
import Derived.ChangeSlices
import Derived.Test.YtofmiaaglbcebaaGreatDoorFAz
import Derived.ProofKit
import Derived.OpenShut
import Derived.ChangeArms
import Derived.Test.YtofmiaaglbcebaaGreatDoorQ2

-- Plans and cuts as they are read.
namespace Go.Proofs.YtofmiaaglbcebaaGreatDoor
open Go.RowKit Go.ChangeShapes Go.Deep
set_option linter.unusedVariables false
theorem bulk_mem {H : Type} (l : List (DataW H)) (d : DataW H) (h : d ∈ l) : Rows.uptoBulk d ≤ Rows.uptoBulkAll l := by
  induction l with
  | nil => simp at h
  | cons x r ih =>
    simp only [Rows.uptoBulkAll]
    rcases List.mem_cons.1 h with rfl | h
    · omega
    · have := ih h; omega
theorem bulk_pos {H : Type} (d : DataW H) : 1 ≤ Rows.uptoBulk d := by
  cases d with
  | lit l => cases l <;> simp [Rows.uptoBulk]
  | _ => simp [Rows.uptoBulk]
theorem bulk_len {H : Type} (l : List (DataW H)) : l.length ≤ Rows.uptoBulkAll l := by
  induction l with
  | nil => simp [Rows.uptoBulkAll]
  | cons x r ih => simp only [Rows.uptoBulkAll, List.length_cons]; have := bulk_pos x; omega
theorem cellsI : Tryz.prog.cellsOf 3 = 1 := by kernel_rfl
theorem cellsS : Tryz.prog.cellsOf 9 = 1 := by kernel_rfl
theorem cellsM : Tryz.prog.cellsOf 30 = 4 := by kernel_rfl
theorem cellsC : Tryz.prog.cellsOf 32 = 1 := by kernel_rfl
theorem cellsF : Tryz.prog.cellsOf 86 = 3 := by kernel_rfl
theorem cellsP : Tryz.prog.cellsOf 31 = 1 := by kernel_rfl
theorem len3 {α : Type} {l : List α} (h : l.length = 3) : ∃ a b c, l = [a, b, c] := by
  match l, h with
  | [a, b, c], _ => exact ⟨a, b, c, rfl⟩
section
variable {H : Type} {enc : TypeId × Value → H} {w : World} {spare : Nat → Bool} {held : Bool}
/-- A list of ints as it is read. -/
theorem open_cuts {fuel : Nat} {cv : Value} {x : DataW H × List MemPlace} (h : DataW.trod enc Tryz.prog w 0 spare held fuel 32 [cv] = some x) :
    ∃ cuts, RowI w cv cuts ∧ (cuts ≠ [] → ∀ k, cv.ownBlock = some k → k < w.heap.size) ∧ cuts.length ≤ Rows.uptoBulk x.1 := by
  rcases open_ints Tryz.underlying32 Tryz.underlying3 cellsI h with ⟨hcs, _⟩ | ⟨a, len, cap, zs, hcs, _, hl, hm, hz, hx, hc, _⟩
  · cases hcs
    exact ⟨[], .inl ⟨rfl, _, _, rfl⟩, fun h => absurd rfl h, by simp⟩
  · cases hcs
    have hlz : len ≤ zs.length := by rw [hz]; split <;> omega
    have hb : len ≤ Rows.uptoBulk x.1 := by
      rw [hx]
      simp only [Rows.uptoBulk]
      have h1 := bulk_len (lits (H := H) .i64 (zs.take len))
      have h2 : (lits (H := H) .i64 (zs.take len)).length = len := by simp [lits]; omega
      omega
    rcases Nat.eq_zero_or_pos len with h0 | h0
    · subst h0
      exact ⟨[], .inl ⟨rfl, _, _, rfl⟩, fun h => absurd rfl h, by simp⟩
    · obtain ⟨b, off, spot⟩ := a
      have c0 := hc 0 (by omega)
      have hs : spot = none := by simpa [Addr.add] using World.cell?_spot c0
      subst hs
      have hlt : (zs.take len).length = len := by rw [List.length_take]; omega
      have hbl : b < w.heap.size := by rw [add_off] at c0; exact World.block_lt_of_cell? w _ c0
      refine ⟨zs.take len, .inr ⟨b, off, cap, by rw [hlt], by omega, fun j hj => ?_⟩, fun _ k hk => ?_, by rw [hlt]; exact hb⟩
      · have := hc j (by omega)
        rw [add_off] at this
        rw [this]
        rw [hlt] at hj
        simp [List.getD, hj]
      · simp only [Value.ownBlock, Option.some.injEq] at hk; omega
/-- A fault as it is read. -/
theorem open_fault {n : Nat} {b off : Nat} {cs : List Value} {x : DataW H × List MemPlace} (h1 : w.cells? 0 ⟨b, off, none⟩ 3 = some cs) (h : DataW.trod enc Tryz.prog w 0 spare held n 86 cs = some x) :
    ∃ f : Flt, w.cell? ⟨b, off, none⟩ = some (.int .i64 f.at_) ∧ w.cell? ⟨b, off + 1, none⟩ = some (.int .i64 f.kind) ∧ w.cell? ⟨b, off + 2, none⟩ = some (.int .i64 f.n) := by
  obtain ⟨_, hlen, hcell⟩ := World.cells?_some h1
  obtain ⟨xs, m, hn, hx, hcl, hxl, hf⟩ := DataW.trod_struct Tryz.underlying86 h
  obtain ⟨y0, y1, y2, rfl⟩ := len3 hxl
  obtain ⟨v0, v1, v2, rfl⟩ := len3 hlen
  have g0 : DataW.trod enc Tryz.prog w 0 spare held m 3 [v0] = some y0 := by simpa [cellsI] using hf 0 _ rfl
  have g1 : DataW.trod enc Tryz.prog w 0 spare held m 3 [v1] = some y1 := by simpa [cellsI] using hf 1 _ rfl
  have g2 : DataW.trod enc Tryz.prog w 0 spare held m 3 [v2] = some y2 := by simpa [cellsI] using hf 2 _ rfl
  obtain ⟨k0, e0, _, _⟩ := DataW.trod_int Tryz.underlying3 g0
  obtain ⟨k1, e1, _, _⟩ := DataW.trod_int Tryz.underlying3 g1
  obtain ⟨k2, e2, _, _⟩ := DataW.trod_int Tryz.underlying3 g2
  cases e0; cases e1; cases e2
  have cell : ∀ i v, [Value.int .i64 k0, .int .i64 k1, .int .i64 k2][i]? = some v → w.cell? ⟨b, off + i, none⟩ = some v := fun i v hv => by
    have hi : i < 3 := by
      rcases Nat.lt_or_ge i 3 with h' | h'
      · exact h'
      · rw [List.getElem?_eq_none (by simpa using h')] at hv; cases hv
    have := hcell i hi
    rw [add_off] at this
    rw [this]; exact hv
  exact ⟨⟨k0, k1, k2⟩, cell 0 _ rfl, cell 1 _ rfl, cell 2 _ rfl⟩
/-- A plan as it is read. -/
theorem open_plan {fuel : Nat} {v : Value} {x : DataW H × List MemPlace} (h : DataW.trod enc Tryz.prog w 0 spare held fuel 31 [v] = some x) :
    ∃ plan : List Flt, RowP w v plan ∧ (plan ≠ [] → ∀ k, v.ownBlock = some k → k < w.heap.size) ∧ plan.length ≤ Rows.uptoBulk x.1 := by
  rcases open_slice Tryz.underlying31 h with ⟨hcs, _⟩ | ⟨a, len, cap, m, n, D, Pl, hcs, _, hl, hm, hmm, hx, hel⟩
  · cases hcs
    exact ⟨[], .inl ⟨rfl, _, _, rfl⟩, fun h => absurd rfl h, by simp⟩
  · cases hcs
    have hlm : len ≤ m := by rw [hmm]; split <;> omega
    have hxb : Rows.uptoBulk x.1 = Rows.uptoBulkAll ((List.range len).map D) + Rows.uptoBulkAll ((List.range (m - len)).map fun j => D (len + j)) + 1 := by rw [hx]; simp only [Rows.uptoBulk]
    have hlen : len ≤ Rows.uptoBulk x.1 := by
      have := bulk_len ((List.range len).map D)
      simp at this; omega
    rcases Nat.eq_zero_or_pos len with h0 | h0
    · subst h0
      exact ⟨[], .inl ⟨rfl, _, _, rfl⟩, fun h => absurd rfl h, by simp⟩
    · rw [cellsF] at hel
      obtain ⟨b, off, spot⟩ := a
      have hs : spot = none := by
        obtain ⟨cs', h1, _⟩ := hel 0 (by omega)
        obtain ⟨_, hl1, hc1⟩ := World.cells?_some h1
        have := hc1 0 (by omega)
        rw [List.getElem?_eq_getElem (by omega)] at this
        simpa [Addr.add] using World.cell?_spot this
      subst hs
      have each : ∀ i, i < len → ∃ f : Flt, w.cell? ⟨b, off + i * 3, none⟩ = some (.int .i64 f.at_) ∧ w.cell? ⟨b, off + i * 3 + 1, none⟩ = some (.int .i64 f.kind) ∧ w.cell? ⟨b, off + i * 3 + 2, none⟩ = some (.int .i64 f.n) := by
        intro i hi
        obtain ⟨cs', h1, h2⟩ := hel i (by omega)
        rw [add_off] at h1
        exact open_fault h1 h2
      haveI : Inhabited Flt := ⟨⟨0, 0, 0⟩⟩
      obtain ⟨f, hf⟩ := choose_lt each
      have hg : ∀ (j : Nat) (o : Flt), ((List.range len).map f)[j]? = some o → j < len ∧ o = f j := by
        intro j o hj
        rw [List.getElem?_map] at hj
        rcases Nat.lt_or_ge j len with h' | h'
        · rw [List.getElem?_range h'] at hj; cases hj; exact ⟨h', rfl⟩
        · rw [List.getElem?_eq_none (by simpa using h')] at hj; cases hj
      have hbl : b < w.heap.size := World.block_lt_of_cell? w _ (hf 0 h0).1
      refine ⟨(List.range len).map f, .inr ⟨b, off, cap, by simp, hbl, fun j o hj => ?_⟩, fun _ k hk => ?_, by simpa using hlen⟩
      · obtain ⟨hj', rfl⟩ := hg j o hj; exact hf j hj'
      · simp only [Value.ownBlock, Option.some.injEq] at hk; omega
end
end Go.Proofs.YtofmiaaglbcebaaGreatDoor

-- Lists of files as they are read.
namespace Go.Proofs.YtofmiaaglbcebaaGreatDoor
open Go.RowKit Go.ChangeShapes Go.Deep
set_option linter.unusedVariables false
theorem add_offM (b off k : Nat) : (⟨b, off, none⟩ : Addr).add k = ⟨b, off + k, none⟩ := by unfold Addr.add; split <;> simp_all
theorem bulk_memM {H : Type} (l : List (DataW H)) (d : DataW H) (h : d ∈ l) : Rows.uptoBulk d ≤ Rows.uptoBulkAll l := bulk_mem l d h
theorem bulk_lenM {H : Type} (l : List (DataW H)) : l.length ≤ Rows.uptoBulkAll l := bulk_len l
theorem len4F {α : Type} {l : List α} (h : l.length = 4) : ∃ a b c d, l = [a, b, c, d] := by
  match l, h with
  | [a, b, c, d], _ => exact ⟨a, b, c, d, rfl⟩
theorem len6F {α : Type} {l : List α} (h : l.length = 6) : ∃ a b c d e f, l = [a, b, c, d, e, f] := by
  match l, h with
  | [a, b, c, d, e, f], _ => exact ⟨a, b, c, d, e, f, rfl⟩
section
variable {H : Type} {enc : TypeId × Value → H} {w : World} {spare : Nat → Bool} {held : Bool}
theorem sum_le_bulk {α : Type} (sz : α → Nat) (D : Nat → DataW H) (f : Nat → α) : ∀ n, (∀ i, i < n → sz (f i) ≤ Rows.uptoBulk (D i)) → (((List.range n).map f).map sz).sum ≤ Rows.uptoBulkAll ((List.range n).map D)
  | 0, _ => by simp
  | n + 1, h => by
    have ih := sum_le_bulk sz D f n (fun i hi => h i (by omega))
    rw [List.range_succ, List.map_append, List.map_append, List.sum_append_nat, List.map_append]
    have e : ∀ a b : List (DataW H), Rows.uptoBulkAll (a ++ b) = Rows.uptoBulkAll a + Rows.uptoBulkAll b := by
      intro a b
      induction a with
      | nil => simp [Rows.uptoBulkAll]
      | cons x r ih => simp only [List.cons_append, Rows.uptoBulkAll]; omega
    rw [e]
    have := h n (by omega)
    simp only [List.map_cons, List.map_nil, List.sum_cons, List.sum_nil, Rows.uptoBulkAll]
    omega
/-- A list as it is read. -/
theorem open_list {α : Type} (c : α → List Value) (z : Nat) (hz : 0 < z) (hc : ∀ x, (c x).length = z) (T E : TypeId) (hu : Tryz.prog.underlying T = some (.slice E)) (hcl : Tryz.prog.cellsOf E = z) (sz : α → Nat) (pr : α → Prop) (dflt : α)
    (open1 : ∀ (n b off : Nat) (cs : List Value) (x : DataW H × List MemPlace), w.cells? 0 ⟨b, off, none⟩ z = some cs → DataW.trod enc Tryz.prog w 0 spare held n E cs = some x → ∃ o : α, (∀ m u, (c o)[m]? = some u → w.cell? ⟨b, off + m, none⟩ = some u) ∧ sz o ≤ Rows.uptoBulk x.1 ∧ pr o)
    {fuel : Nat} {v : Value} {x : DataW H × List MemPlace} (h : DataW.trod enc Tryz.prog w 0 spare held fuel T [v] = some x) (hB : Rows.uptoBulk x.1 ≤ 1048576) :
    ∃ l : List α, RowG c w v l ∧ l.length ≤ 1048576 ∧ (l.map sz).sum ≤ 1048576 ∧ ∀ x ∈ l, pr x := by
  rcases open_slice hu h with ⟨hcs, _⟩ | ⟨a, len, cap, m, n, D, Pl, hcs, _, hl, hm, hmm, hx, hel⟩
  · cases hcs
    exact ⟨[], ⟨none, 0, rfl, Nat.le_refl _, by decide, fun _ => rfl, fun h => by simp at h⟩, by simp, by simp, by simp⟩
  · cases hcs
    have hlm : len ≤ m := by rw [hmm]; split <;> omega
    have hxb : Rows.uptoBulk x.1 = Rows.uptoBulkAll ((List.range len).map D) + Rows.uptoBulkAll ((List.range (m - len)).map fun j => D (len + j)) + 1 := by rw [hx]; simp only [Rows.uptoBulk]
    have hlen : len ≤ 1048576 := by
      have := bulk_lenM ((List.range len).map D)
      simp at this; omega
    rcases Nat.eq_zero_or_pos len with h0 | h0
    · subst h0
      exact ⟨[], ⟨some a, cap, rfl, Nat.zero_le _, hm, (fun h => by cases h), fun h => by simp at h⟩, by simp, by simp, by simp⟩
    · rw [hcl] at hel
      obtain ⟨b, off, spot⟩ := a
      have hs : spot = none := by
        obtain ⟨cs', h1, _⟩ := hel 0 (by omega)
        obtain ⟨_, hl1, hc1⟩ := World.cells?_some h1
        have := hc1 0 (by omega)
        rw [List.getElem?_eq_getElem (by omega)] at this
        simpa [Addr.add] using World.cell?_spot this
      subst hs
      have each : ∀ i, i < len → ∃ o : α, (∀ m u, (c o)[m]? = some u → w.cell? ⟨b, off + i * z + m, none⟩ = some u) ∧ sz o ≤ Rows.uptoBulk (D i) ∧ pr o := by
        intro i hi
        obtain ⟨cs', h1, h2⟩ := hel i (by omega)
        rw [add_offM] at h1
        obtain ⟨o, a1, a2, a3⟩ := open1 _ _ _ _ _ h1 h2
        exact ⟨o, a1, a2, a3⟩
      haveI : Inhabited α := ⟨dflt⟩
      obtain ⟨f, hf⟩ := choose_lt each
      have hgl : ((List.range len).map f).length = len := by simp
      refine ⟨(List.range len).map f, ⟨_, cap, by rw [hgl], by rw [hgl]; exact hl, hm, (fun h => by cases h), fun _ => ⟨b, off, rfl, fun j u hu => ?_⟩⟩, by rw [hgl]; exact hlen, ?_, ?_⟩
      · have hj : j < len * z := by have := (List.getElem?_eq_some_iff.1 hu).1; rwa [flatG_len c z hc, hgl] at this
        have hk : j / z < len := Nat.div_lt_of_lt_mul (by rw [Nat.mul_comm]; exact hj)
        have hmz : j % z < z := Nat.mod_lt _ hz
        have e : j = j / z * z + j % z := by have := Nat.div_add_mod j z; rw [Nat.mul_comm] at this; exact this.symm
        have hg : ((List.range len).map f)[j / z]? = some (f (j / z)) := by rw [List.getElem?_map, List.getElem?_range hk]; rfl
        have h2 := flatG_get hc ((List.range len).map f) (j / z) (j % z) _ hg hmz
        rw [← e, hu] at h2
        have h3 := (hf (j / z) hk).1 (j % z) u h2.symm
        rw [Nat.add_assoc, ← e] at h3
        exact h3
      · have := sum_le_bulk sz D f len (fun i hi => (hf i hi).2.1)
        omega
      · intro x hx
        obtain ⟨i, hi, rfl⟩ := List.mem_map.1 hx
        exact (hf i (List.mem_range.1 hi)).2.2
theorem size_four (l : List Fil) : sizeF l + 4 * l.length ≤ (l.map fun m => m.1.size + m.2.2.size + 4).sum := by
  unfold sizeF
  induction l with
  | nil => simp
  | cons y r ih => simp only [List.map_cons, List.sum_cons, List.length_cons]; omega
end
end Go.Proofs.YtofmiaaglbcebaaGreatDoor

-- A script as it is read.
namespace Go.Proofs.YtofmiaaglbcebaaGreatDoor
open Go.RowKit Go.ChangeShapes Go.Deep
set_option linter.unusedVariables false
theorem cellsOp16 : Tryz.prog.cellsOf 34 = 10 := by kernel_rfl
def opL (o : Opv) : List Value := [.int .i64 o.kind, .int .i64 o.n, .string o.a, .string o.b, .int .i64 o.m0, .int .i64 o.m1, .int .i64 o.m2, .int .i64 o.m3, o.pv, o.cv]
theorem opL_len (o : Opv) : (opL o).length = 10 := rfl
theorem len7O {α : Type} {l : List α} (h : l.length = 7) : ∃ a b c d e f g, l = [a, b, c, d, e, f, g] := by
  match l, h with
  | [a, b, c, d, e, f, g], _ => exact ⟨a, b, c, d, e, f, g, rfl⟩
theorem len10O {α : Type} {l : List α} (h : l.length = 10) : ∃ a b c d e f g i j k, l = [a, b, c, d, e, f, g, i, j, k] := by
  match l, h with
  | [a, b, c, d, e, f, g, i, j, k], _ => exact ⟨a, b, c, d, e, f, g, i, j, k, rfl⟩
section
variable {H : Type} {enc : TypeId × Value → H} {w : World} {spare : Nat → Bool} {held : Bool}
/-- One step as it is read. -/
theorem open_op16 {n : Nat} {b off : Nat} {cs : List Value} {x : DataW H × List MemPlace} (h1 : w.cells? 0 ⟨b, off, none⟩ 10 = some cs) (h : DataW.trod enc Tryz.prog w 0 spare held n 34 cs = some x) :
    ∃ o : Opv, (∀ m u, (opL o)[m]? = some u → w.cell? ⟨b, off + m, none⟩ = some u) ∧ o.b.size + o.a.size + o.plan.length + o.cuts.length + 8 ≤ Rows.uptoBulk x.1 ∧ (RowI w o.cv o.cuts ∧ (o.cuts ≠ [] → ∀ k, o.cv.ownBlock = some k → k < w.heap.size) ∧ RowP w o.pv o.plan ∧ (o.plan ≠ [] → ∀ k, o.pv.ownBlock = some k → k < w.heap.size)) := by
  obtain ⟨_, hlen, hcell⟩ := World.cells?_some h1
  obtain ⟨xs, m, rfl, hx, _, hxl, hf⟩ := DataW.trod_struct Tryz.underlying34 h
  obtain ⟨y0, y1, y2, y3, y4, y5, y6, rfl⟩ := len7O hxl
  obtain ⟨v0, v1, v2, v3, v4, v5, v6, v7, v8, v9, rfl⟩ := len10O hlen
  have g0 : DataW.trod enc Tryz.prog w 0 spare held m 3 [v0] = some y0 := by simpa [cellsI] using hf 0 _ rfl
  have g1 : DataW.trod enc Tryz.prog w 0 spare held m 3 [v1] = some y1 := by simpa [cellsI] using hf 1 _ rfl
  have g2 : DataW.trod enc Tryz.prog w 0 spare held m 9 [v2] = some y2 := by simpa [cellsS] using hf 2 _ rfl
  have g3 : DataW.trod enc Tryz.prog w 0 spare held m 9 [v3] = some y3 := by simpa [cellsS] using hf 3 _ rfl
  have g4 : DataW.trod enc Tryz.prog w 0 spare held m 30 [v4, v5, v6, v7] = some y4 := by simpa [cellsM] using hf 4 _ rfl
  have g5 : DataW.trod enc Tryz.prog w 0 spare held m 31 [v8] = some y5 := by simpa [cellsP] using hf 5 _ rfl
  have g6 : DataW.trod enc Tryz.prog w 0 spare held m 32 [v9] = some y6 := by simpa [cellsC] using hf 6 _ rfl
  obtain ⟨k0, e0, _, _⟩ := DataW.trod_int Tryz.underlying3 g0
  obtain ⟨k1, e1, _, _⟩ := DataW.trod_int Tryz.underlying3 g1
  obtain ⟨s2, e2, z2, _⟩ := DataW.trod_string Tryz.underlying9 g2
  obtain ⟨s3, e3, z3, _⟩ := DataW.trod_string Tryz.underlying9 g3
  obtain ⟨ms, m', _, hmx, _, hml, hmf⟩ := DataW.trod_struct Tryz.underlying30 g4
  obtain ⟨plan, hpr, hpo, hpb⟩ := open_plan g5
  obtain ⟨cuts, hri, hlo, hcb⟩ := open_cuts g6
  obtain ⟨p0, p1, p2, p3, rfl⟩ := len4F hml
  have q0 : DataW.trod enc Tryz.prog w 0 spare held m' 3 [v4] = some p0 := by simpa [cellsI] using hmf 0 _ rfl
  have q1 : DataW.trod enc Tryz.prog w 0 spare held m' 3 [v5] = some p1 := by simpa [cellsI] using hmf 1 _ rfl
  have q2 : DataW.trod enc Tryz.prog w 0 spare held m' 3 [v6] = some p2 := by simpa [cellsI] using hmf 2 _ rfl
  have q3 : DataW.trod enc Tryz.prog w 0 spare held m' 3 [v7] = some p3 := by simpa [cellsI] using hmf 3 _ rfl
  obtain ⟨k4, e4, _, _⟩ := DataW.trod_int Tryz.underlying3 q0
  obtain ⟨k5, e5, _, _⟩ := DataW.trod_int Tryz.underlying3 q1
  obtain ⟨k6, e6, _, _⟩ := DataW.trod_int Tryz.underlying3 q2
  obtain ⟨k7, e7, _, _⟩ := DataW.trod_int Tryz.underlying3 q3
  cases e0; cases e1; cases e2; cases e3; cases e4; cases e5; cases e6; cases e7
  have cell : ∀ i v, [Value.int .i64 k0, .int .i64 k1, .string s2, .string s3, .int .i64 k4, .int .i64 k5, .int .i64 k6, .int .i64 k7, v8, v9][i]? = some v → w.cell? ⟨b, off + i, none⟩ = some v := fun i v hv => by
    have hi : i < 10 := by
      rcases Nat.lt_or_ge i 10 with h' | h'
      · exact h'
      · rw [List.getElem?_eq_none (by simpa using h')] at hv; cases hv
    have := hcell i hi
    rw [add_offM] at this
    rw [this]; exact hv
  have hbx : Rows.uptoBulk y0.1 + Rows.uptoBulk y1.1 + Rows.uptoBulk y2.1 + Rows.uptoBulk y3.1 + Rows.uptoBulk y4.1 + Rows.uptoBulk y5.1 + Rows.uptoBulk y6.1 ≤ Rows.uptoBulk x.1 := by
    rw [hx]
    simp only [Rows.uptoBulk, List.map_cons, List.map_nil, Rows.uptoBulkAll]
    omega
  have hm4 : 4 ≤ Rows.uptoBulk y4.1 := by
    rw [hmx]
    have := bulk_pos p0.1
    have := bulk_pos p1.1
    have := bulk_pos p2.1
    have := bulk_pos p3.1
    simp only [Rows.uptoBulk, List.map_cons, List.map_nil, Rows.uptoBulkAll]
    omega
  have h0 := bulk_pos y0.1
  have h1' := bulk_pos y1.1
  have hs2 : s2.size + 1 ≤ Rows.uptoBulk y2.1 := by
    rw [z2]
    simp only [Rows.uptoBulk, Array.length_toList]
    show s2.data.size + 1 ≤ _
    omega
  have hs3 : s3.size + 1 ≤ Rows.uptoBulk y3.1 := by
    rw [z3]
    simp only [Rows.uptoBulk, Array.length_toList]
    show s3.data.size + 1 ≤ _
    omega
  refine ⟨⟨k0, k1, s2, s3, k4, k5, k6, k7, v8, v9, plan, cuts⟩, fun m u hu => cell m u hu, ?_, hri, hlo, hpr, hpo⟩
  show s3.size + s2.size + plan.length + cuts.length + 8 ≤ _
  omega
/-- What a script may cost. -/
def costs (l : List Opv) : Nat := (l.map fun o => o.b.size + 8).sum
theorem cost_le (l : List Opv) : costs l ≤ (l.map fun o => o.b.size + o.a.size + o.plan.length + o.cuts.length + 8).sum := by
  unfold costs
  induction l with
  | nil => simp
  | cons y r ih => simp only [List.map_cons, List.sum_cons]; omega
theorem each_le {l : List Opv} {o : Opv} (h : o ∈ l) : o.b.size + o.a.size + o.plan.length + o.cuts.length ≤ (l.map fun o => o.b.size + o.a.size + o.plan.length + o.cuts.length + 8).sum := by
  induction l with
  | nil => simp at h
  | cons y r ih =>
    rw [List.map_cons, List.sum_cons]
    rcases List.mem_cons.1 h with rfl | h
    · omega
    · have := ih h; omega
/-- A script as it is read. -/
theorem open_script {fuel : Nat} {v : Value} {x : DataW H × List MemPlace} (h : DataW.trod enc Tryz.prog w 0 spare held fuel 22 [v] = some x) (hB : Rows.uptoBulk x.1 ≤ 1048576) :
    ∃ l : List Opv, RowG opL w v l ∧ l.length ≤ 1048576 ∧ costs l ≤ 1048576 ∧ ∀ o ∈ l, OpvOk w.heap.size o w ∧ o.b.size ≤ 1048576 := by
  obtain ⟨l, h1, h2, h3, h4⟩ := open_list opL 10 (by decide) opL_len _ _ Tryz.underlying22 cellsOp16 (fun o => o.b.size + o.a.size + o.plan.length + o.cuts.length + 8) (fun o => RowI w o.cv o.cuts ∧ (o.cuts ≠ [] → ∀ k, o.cv.ownBlock = some k → k < w.heap.size) ∧ RowP w o.pv o.plan ∧ (o.plan ≠ [] → ∀ k, o.pv.ownBlock = some k → k < w.heap.size)) ⟨0, 0, ⟨#[]⟩, ⟨#[]⟩, 0, 0, 0, 0, .slice none 0 0, .slice none 0 0, [], []⟩ (fun n b off cs x h1 h2 => open_op16 h1 h2) h hB
  refine ⟨l, h1, h2, Nat.le_trans (cost_le l) h3, fun o ho => ?_⟩
  obtain ⟨a1, a2, a3, a4⟩ := h4 o ho
  have := each_le ho
  exact ⟨⟨a1, a2, by omega, by omega, a3, a4, by omega⟩, by omega⟩
end
end Go.Proofs.YtofmiaaglbcebaaGreatDoor
