
-- Lists of members and of events as they are read, with what they hold.
import Derived.Test.YtjpoifoejbabiaaDoorPS
import Derived.Test.YtjpoifoejbabiaaDoorRows
import Derived.WalkKit
import Derived.Deep.Slices
import Derived.ChangeSlices
import Derived.ProofKit
import Derived.OpenShut
import Derived.ChangeArms
namespace Go.Proofs.YtjpoifoejbabiaaDoor
open Go.RowKit Go.ChangeShapes Go.Deep
set_option linter.unusedVariables false
set_option maxRecDepth 100000
theorem bulk_memM {H : Type} (l : List (DataW H)) (d : DataW H) (h : d ∈ l) : Rows.uptoBulk d ≤ Rows.uptoBulkAll l := by
  induction l with
  | nil => simp at h
  | cons x r ih =>
    simp only [Rows.uptoBulkAll]
    rcases List.mem_cons.1 h with rfl | h
    · omega
    · have := ih h; omega
theorem bulk_posM {H : Type} (d : DataW H) : 1 ≤ Rows.uptoBulk d := by
  cases d with
  | lit l => cases l <;> simp [Rows.uptoBulk]
  | _ => simp [Rows.uptoBulk]
theorem bulk_lenM {H : Type} (l : List (DataW H)) : l.length ≤ Rows.uptoBulkAll l := by
  induction l with
  | nil => simp [Rows.uptoBulkAll]
  | cons x r ih => simp only [Rows.uptoBulkAll, List.length_cons]; have := bulk_posM x; omega
theorem cellsIM : Tryd.prog.cellsOf 3 = 1 := by kernel_rfl
theorem cellsSM : Tryd.prog.cellsOf 9 = 1 := by kernel_rfl
theorem cellsMM : Tryd.prog.cellsOf 24 = 4 := by kernel_rfl
theorem cellsMb : Tryd.prog.cellsOf 26 = 7 := by kernel_rfl
theorem add_offM (b off k : Nat) : (⟨b, off, none⟩ : Addr).add k = ⟨b, off + k, none⟩ := by unfold Addr.add; split <;> simp_all
theorem len4M {α : Type} {l : List α} (h : l.length = 4) : ∃ a b c d, l = [a, b, c, d] := by
  match l, h with
  | [a, b, c, d], _ => exact ⟨a, b, c, d, rfl⟩
theorem len7M {α : Type} {l : List α} (h : l.length = 7) : ∃ a b c d e f g, l = [a, b, c, d, e, f, g] := by
  match l, h with
  | [a, b, c, d, e, f, g], _ => exact ⟨a, b, c, d, e, f, g, rfl⟩
section
variable {H : Type} {enc : TypeId × Value → H} {w : World} {spare : Nat → Bool} {held : Bool}
/-- One member as it is read. -/
theorem wf_inI {k : Int} (h : (Lit.int .i64 k).wf = true) : inI k := by
  have h5 : IntKind.i64.min ≤ k ∧ k ≤ IntKind.i64.max := by simpa [Lit.wf] using h
  have e1 : IntKind.i64.min = -9223372036854775808 := by decide
  have e2 : IntKind.i64.max = 9223372036854775807 := by decide
  rw [e1, e2] at h5; exact h5
theorem open_member {n : Nat} {b off : Nat} {cs : List Value} {x : DataW H × List MemPlace} (h1 : w.cells? 0 ⟨b, off, none⟩ 7 = some cs) (h : DataW.trod enc Tryd.prog w 0 spare held n 26 cs = some x) :
    ∃ o : Mx, (∀ m u, (mxL o)[m]? = some u → w.cell? ⟨b, off + m, none⟩ = some u) ∧ o.n.size + o.dt.size ≤ Rows.uptoBulk x.1 ∧ okM o := by
  obtain ⟨_, hlen, hcell⟩ := World.cells?_some h1
  obtain ⟨xs, m, rfl, hx, _, hxl, hf⟩ := DataW.trod_struct Tryd.underlying26 h
  obtain ⟨y0, y1, y2, y3, rfl⟩ := len4M hxl
  obtain ⟨v0, v1, v2, v3, v4, v5, v6, rfl⟩ := len7M hlen
  have g0 : DataW.trod enc Tryd.prog w 0 spare held m 24 [v0, v1, v2, v3] = some y0 := by simpa [cellsMM] using hf 0 _ rfl
  have g1 : DataW.trod enc Tryd.prog w 0 spare held m 9 [v4] = some y1 := by simpa [cellsMM, cellsSM] using hf 1 _ rfl
  have g2 : DataW.trod enc Tryd.prog w 0 spare held m 3 [v5] = some y2 := by simpa [cellsMM, cellsSM, cellsIM] using hf 2 _ rfl
  have g3 : DataW.trod enc Tryd.prog w 0 spare held m 9 [v6] = some y3 := by simpa [cellsMM, cellsSM, cellsIM] using hf 3 _ rfl
  obtain ⟨s4, e4, z4, _⟩ := DataW.trod_string Tryd.underlying9 g1
  obtain ⟨k5, e5, _, y5⟩ := DataW.trod_int Tryd.underlying3 g2
  obtain ⟨s6, e6, z6, _⟩ := DataW.trod_string Tryd.underlying9 g3
  obtain ⟨ms, m', _, _, _, hml, hmf⟩ := DataW.trod_struct Tryd.underlying24 g0
  obtain ⟨p0, p1, p2, p3, rfl⟩ := len4M hml
  have q0 : DataW.trod enc Tryd.prog w 0 spare held m' 3 [v0] = some p0 := by simpa [cellsIM] using hmf 0 _ rfl
  have q1 : DataW.trod enc Tryd.prog w 0 spare held m' 3 [v1] = some p1 := by simpa [cellsIM] using hmf 1 _ rfl
  have q2 : DataW.trod enc Tryd.prog w 0 spare held m' 3 [v2] = some p2 := by simpa [cellsIM] using hmf 2 _ rfl
  have q3 : DataW.trod enc Tryd.prog w 0 spare held m' 3 [v3] = some p3 := by simpa [cellsIM] using hmf 3 _ rfl
  obtain ⟨k0, e0, _, y0w⟩ := DataW.trod_int Tryd.underlying3 q0
  obtain ⟨k1, e1, _, y1w⟩ := DataW.trod_int Tryd.underlying3 q1
  obtain ⟨k2, e2, _, y2w⟩ := DataW.trod_int Tryd.underlying3 q2
  obtain ⟨k3, e3, _, y3w⟩ := DataW.trod_int Tryd.underlying3 q3
  cases e0; cases e1; cases e2; cases e3; cases e4; cases e5; cases e6
  have cell : ∀ i v, [Value.int .i64 k0, .int .i64 k1, .int .i64 k2, .int .i64 k3, .string s4, .int .i64 k5, .string s6][i]? = some v → w.cell? ⟨b, off + i, none⟩ = some v := fun i v hv => by
    have hi : i < 7 := by
      rcases Nat.lt_or_ge i 7 with h' | h'
      · exact h'
      · rw [List.getElem?_eq_none (by simpa using h')] at hv; cases hv
    have := hcell i hi
    rw [add_offM] at this
    rw [this]; exact hv
  have hbx : Rows.uptoBulk y1.1 + Rows.uptoBulk y3.1 ≤ Rows.uptoBulk x.1 := by
    rw [hx]
    simp only [Rows.uptoBulk, List.map_cons, List.map_nil, Rows.uptoBulkAll]
    omega
  have hs4 : s4.size ≤ Rows.uptoBulk y1.1 := by
    rw [z4]
    simp only [Rows.uptoBulk, Array.length_toList]
    show s4.data.size ≤ _
    omega
  have hs6 : s6.size ≤ Rows.uptoBulk y3.1 := by
    rw [z6]
    simp only [Rows.uptoBulk, Array.length_toList]
    show s6.data.size ≤ _
    omega
  exact ⟨⟨k0, k1, k2, k3, s4, k5, s6⟩, fun m u hu => cell m u hu, by show s4.size + s6.size ≤ _; omega, ⟨wf_inI y0w, wf_inI y1w, wf_inI y2w, wf_inI y3w, wf_inI y5⟩⟩
theorem cells5 : Tryd.prog.cellsOf 5 = 1 := by kernel_rfl
theorem len2M {α : Type} {l : List α} (h : l.length = 2) : ∃ a b, l = [a, b] := by
  match l, h with
  | [a, b], _ => exact ⟨a, b, rfl⟩
theorem u8_of {k : Int} (h0 : 0 ≤ k) (h1 : k < 256) : ∃ c : UInt8, k = (c.toNat : Int) := by
  refine ⟨UInt8.ofNat k.toNat, ?_⟩
  rw [UInt8.toNat_ofNat']
  omega
theorem sum_le_bulk {α : Type} (sz : α → Nat) (D : Nat → DataW H) (f : Nat → α) : ∀ n, (∀ i, i < n → sz (f i) ≤ Rows.uptoBulk (D i)) → (((List.range n).map f).map sz).sum ≤ Rows.uptoBulkAll ((List.range n).map D)
  | 0, _ => by simp
  | n + 1, h => by
    have ih := sum_le_bulk sz D f n (fun i hi => h i (by omega))
    rw [List.range_succ, List.map_append, List.map_append, List.sum_append_nat, List.map_append]
    have e : ∀ a b : List (DataW H), Rows.uptoBulkAll (a ++ b) = Rows.uptoBulkAll a + Rows.uptoBulkAll b := by
      intro a b
      induction a with
      | nil => simp [Rows.uptoBulkAll]
      | cons x r ih => simp only [List.cons_append, Rows.uptoBulkAll]; omega
    rw [e]
    have := h n (by omega)
    simp only [List.map_cons, List.map_nil, List.sum_cons, List.sum_nil, Rows.uptoBulkAll]
    omega
/-- A list as it is read. -/
theorem open_list {α : Type} (c : α → List Value) (z : Nat) (hz : 0 < z) (hc : ∀ x, (c x).length = z) (T E : TypeId) (hu : Tryd.prog.underlying T = some (.slice E)) (hcl : Tryd.prog.cellsOf E = z) (sz : α → Nat) (pr : α → Prop) (dflt : α)
    (open1 : ∀ (n b off : Nat) (cs : List Value) (x : DataW H × List MemPlace), w.cells? 0 ⟨b, off, none⟩ z = some cs → DataW.trod enc Tryd.prog w 0 spare held n E cs = some x → ∃ o : α, (∀ m u, (c o)[m]? = some u → w.cell? ⟨b, off + m, none⟩ = some u) ∧ sz o ≤ Rows.uptoBulk x.1 ∧ pr o)
    {fuel : Nat} {v : Value} {x : DataW H × List MemPlace} (h : DataW.trod enc Tryd.prog w 0 spare held fuel T [v] = some x) (hB : Rows.uptoBulk x.1 ≤ 1048576) :
    ∃ l : List α, RowG c w v l ∧ l.length ≤ 1048576 ∧ (l.map sz).sum ≤ 1048576 ∧ ∀ x ∈ l, pr x := by
  rcases open_slice hu h with ⟨hcs, _⟩ | ⟨a, len, cap, m, n, D, Pl, hcs, _, hl, hm, hmm, hx, hel⟩
  · cases hcs
    exact ⟨[], ⟨none, 0, rfl, Nat.le_refl _, by decide, fun _ => rfl, fun h => by simp at h⟩, by simp, by simp, by simp⟩
  · cases hcs
    have hlm : len ≤ m := by rw [hmm]; split <;> omega
    have hxb : Rows.uptoBulk x.1 = Rows.uptoBulkAll ((List.range len).map D) + Rows.uptoBulkAll ((List.range (m - len)).map fun j => D (len + j)) + 1 := by rw [hx]; simp only [Rows.uptoBulk]
    have hlen : len ≤ 1048576 := by
      have := bulk_lenM ((List.range len).map D)
      simp at this; omega
    rcases Nat.eq_zero_or_pos len with h0 | h0
    · subst h0
      exact ⟨[], ⟨some a, cap, rfl, Nat.zero_le _, hm, (fun h => by cases h), fun h => by simp at h⟩, by simp, by simp, by simp⟩
    · rw [hcl] at hel
      obtain ⟨b, off, spot⟩ := a
      have hs : spot = none := by
        obtain ⟨cs', h1, _⟩ := hel 0 (by omega)
        obtain ⟨_, hl1, hc1⟩ := World.cells?_some h1
        have := hc1 0 (by omega)
        rw [List.getElem?_eq_getElem (by omega)] at this
        simpa [Addr.add] using World.cell?_spot this
      subst hs
      have each : ∀ i, i < len → ∃ o : α, (∀ m u, (c o)[m]? = some u → w.cell? ⟨b, off + i * z + m, none⟩ = some u) ∧ sz o ≤ Rows.uptoBulk (D i) ∧ pr o := by
        intro i hi
        obtain ⟨cs', h1, h2⟩ := hel i (by omega)
        rw [add_offM] at h1
        obtain ⟨o, a1, a2, a3⟩ := open1 _ _ _ _ _ h1 h2
        exact ⟨o, a1, a2, a3⟩
      haveI : Inhabited α := ⟨dflt⟩
      obtain ⟨f, hf⟩ := choose_lt each
      have hgl : ((List.range len).map f).length = len := by simp
      refine ⟨(List.range len).map f, ⟨_, cap, by rw [hgl], by rw [hgl]; exact hl, hm, (fun h => by cases h), fun _ => ⟨b, off, rfl, fun j u hu => ?_⟩⟩, by rw [hgl]; exact hlen, ?_, ?_⟩
      · have hj : j < len * z := by have := (List.getElem?_eq_some_iff.1 hu).1; rwa [flatG_len c z hc, hgl] at this
        have hk : j / z < len := Nat.div_lt_of_lt_mul (by rw [Nat.mul_comm]; exact hj)
        have hmz : j % z < z := Nat.mod_lt _ hz
        have e : j = j / z * z + j % z := by have := Nat.div_add_mod j z; rw [Nat.mul_comm] at this; exact this.symm
        have hg : ((List.range len).map f)[j / z]? = some (f (j / z)) := by rw [List.getElem?_map, List.getElem?_range hk]; rfl
        have h2 := flatG_get hc ((List.range len).map f) (j / z) (j % z) _ hg hmz
        rw [← e, hu] at h2
        have h3 := (hf (j / z) hk).1 (j % z) u h2.symm
        rw [Nat.add_assoc, ← e] at h3
        exact h3
      · have := sum_le_bulk sz D f len (fun i hi => (hf i hi).2.1)
        omega
      · intro x hx
        obtain ⟨i, hi, rfl⟩ := List.mem_map.1 hx
        exact (hf i (List.mem_range.1 hi)).2.2
/-- A list of members as it is read. -/
theorem open_members {fuel : Nat} {v : Value} {x : DataW H × List MemPlace} (h : DataW.trod enc Tryd.prog w 0 spare held fuel 22 [v] = some x) (hB : Rows.uptoBulk x.1 ≤ 1048576) :
    ∃ l : List Mx, RowM w v l ∧ l.length ≤ 1048576 ∧ totM l ≤ 1048576 ∧ ∀ m ∈ l, okM m :=
  open_list mxL 7 (by decide) mxL_len _ _ Tryd.underlying22 cellsMb (fun m => m.n.size + m.dt.size) okM ⟨0, 0, 0, 0, ⟨#[]⟩, 0, ⟨#[]⟩⟩ (fun n b off cs x h1 h2 => open_member h1 h2) h hB
/-- A member handed in by value. -/
theorem open_memberV {cs : Array Value} {d : DataW H} {p : List MemPlace} (h : DataW.Trod enc Tryd.prog w 0 (fun _ => true) true 26 (.agg cs) d p) (hB : Rows.uptoBulk d ≤ 1048576) :
    ∃ x : Mx, cs = (mxL x).toArray ∧ okM x ∧ x.n.size ≤ 1048576 := by
  obtain ⟨fuel, h⟩ := h
  obtain ⟨xs, m, rfl, hx, hl, hxl, hf⟩ := DataW.trod_struct Tryd.underlying26 h
  rw [cellsMb] at hl
  obtain ⟨y0, y1, y2, y3, rfl⟩ := len4M hxl
  obtain ⟨v0, v1, v2, v3, v4, v5, v6, hv⟩ := len7M hl
  have hv' : cs.toList = [v0, v1, v2, v3, v4, v5, v6] := hv
  rw [hv] at hf
  have g0 : DataW.trod enc Tryd.prog w 0 (fun _ => true) true m 24 [v0, v1, v2, v3] = some y0 := by simpa [cellsMM] using hf 0 _ rfl
  have g1 : DataW.trod enc Tryd.prog w 0 (fun _ => true) true m 9 [v4] = some y1 := by simpa [cellsMM, cellsSM] using hf 1 _ rfl
  have g2 : DataW.trod enc Tryd.prog w 0 (fun _ => true) true m 3 [v5] = some y2 := by simpa [cellsMM, cellsSM, cellsIM] using hf 2 _ rfl
  have g3 : DataW.trod enc Tryd.prog w 0 (fun _ => true) true m 9 [v6] = some y3 := by simpa [cellsMM, cellsSM, cellsIM] using hf 3 _ rfl
  obtain ⟨s4, e4, z4, _⟩ := DataW.trod_string Tryd.underlying9 g1
  obtain ⟨k5, e5, _, y5⟩ := DataW.trod_int Tryd.underlying3 g2
  obtain ⟨s6, e6, z6, _⟩ := DataW.trod_string Tryd.underlying9 g3
  obtain ⟨ms, m', _, _, _, hml, hmf⟩ := DataW.trod_struct Tryd.underlying24 g0
  obtain ⟨p0, p1, p2, p3, rfl⟩ := len4M hml
  have q0 : DataW.trod enc Tryd.prog w 0 (fun _ => true) true m' 3 [v0] = some p0 := by simpa [cellsIM] using hmf 0 _ rfl
  have q1 : DataW.trod enc Tryd.prog w 0 (fun _ => true) true m' 3 [v1] = some p1 := by simpa [cellsIM] using hmf 1 _ rfl
  have q2 : DataW.trod enc Tryd.prog w 0 (fun _ => true) true m' 3 [v2] = some p2 := by simpa [cellsIM] using hmf 2 _ rfl
  have q3 : DataW.trod enc Tryd.prog w 0 (fun _ => true) true m' 3 [v3] = some p3 := by simpa [cellsIM] using hmf 3 _ rfl
  obtain ⟨k0, e0, _, y0w⟩ := DataW.trod_int Tryd.underlying3 q0
  obtain ⟨k1, e1, _, y1w⟩ := DataW.trod_int Tryd.underlying3 q1
  obtain ⟨k2, e2, _, y2w⟩ := DataW.trod_int Tryd.underlying3 q2
  obtain ⟨k3, e3, _, y3w⟩ := DataW.trod_int Tryd.underlying3 q3
  cases e0; cases e1; cases e2; cases e3; cases e4; cases e5; cases e6
  refine ⟨⟨k0, k1, k2, k3, s4, k5, s6⟩, ?_, ⟨wf_inI y0w, wf_inI y1w, wf_inI y2w, wf_inI y3w, wf_inI y5⟩, ?_⟩
  · have h := congrArg List.toArray hv'
    rw [Array.toArray_toList] at h
    exact h
  · have hs4 : s4.size ≤ Rows.uptoBulk y1.1 := by
      rw [z4]
      simp only [Rows.uptoBulk, Array.length_toList]
      show s4.data.size ≤ _
      omega
    have hbx : Rows.uptoBulk y1.1 ≤ Rows.uptoBulk d := by
      have hd := congrArg Prod.fst hx
      simp only [] at hd
      rw [hd]
      simp only [Rows.uptoBulk, List.map_cons, List.map_nil, Rows.uptoBulkAll]
      omega
    show s4.size ≤ _
    omega
end
end Go.Proofs.YtjpoifoejbabiaaDoor
