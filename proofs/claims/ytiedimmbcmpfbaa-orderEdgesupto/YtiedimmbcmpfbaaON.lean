
-- What came in, opened: nodes, edges.
import Derived.Test.YtiedimmbcmpfbaaEK
import Derived.Test.YtiedimmbcmpfbaaND
import Derived.Test.YtiedimmbcmpfbaaRows
import Derived.WalkKit
import Derived.ProofKit
import Derived.OpenShut
import Derived.ChangeArms
import Derived.Deep.Slices
import Derived.ChangeSlices
namespace Go.Proofs.Ytiedimmbcmpfbaa
open Go.RowKit Go.ChangeShapes Go.Deep
set_option linter.unusedVariables false
set_option maxRecDepth 100000
theorem bulk_mem {H : Type} (l : List (DataW H)) (d : DataW H) (h : d ∈ l) : Rows.uptoBulk d ≤ Rows.uptoBulkAll l := by
  induction l with
  | nil => simp at h
  | cons x r ih =>
    simp only [Rows.uptoBulkAll]
    rcases List.mem_cons.1 h with rfl | h
    · omega
    · have := ih h; omega
theorem bulk_pos {H : Type} (d : DataW H) : 1 ≤ Rows.uptoBulk d := by
  cases d with
  | lit l => cases l <;> simp [Rows.uptoBulk]
  | _ => simp [Rows.uptoBulk]
theorem bulk_len {H : Type} (l : List (DataW H)) : l.length ≤ Rows.uptoBulkAll l := by
  induction l with
  | nil => simp [Rows.uptoBulkAll]
  | cons x r ih => simp only [Rows.uptoBulkAll, List.length_cons]; have := bulk_pos x; omega
theorem add_offM (b off k : Nat) : (⟨b, off, none⟩ : Addr).add k = ⟨b, off + k, none⟩ := by unfold Addr.add; split <;> simp_all
theorem cellsI : Try.prog.cellsOf 3 = 1 := by kernel_rfl
theorem cellsS : Try.prog.cellsOf 9 = 1 := by kernel_rfl
theorem cellsT : Try.prog.cellsOf 27 = 1 := by kernel_rfl
theorem len1 {α : Type} {l : List α} (h : l.length = 1) : ∃ a, l = [a] := by
  match l, h with
  | [a], _ => exact ⟨a, rfl⟩
theorem len2 {α : Type} {l : List α} (h : l.length = 2) : ∃ a b, l = [a, b] := by
  match l, h with
  | [a, b], _ => exact ⟨a, b, rfl⟩
theorem len3 {α : Type} {l : List α} (h : l.length = 3) : ∃ a b c, l = [a, b, c] := by
  match l, h with
  | [a, b, c], _ => exact ⟨a, b, c, rfl⟩
theorem cellsN : Try.prog.cellsOf 29 = 3 := by kernel_rfl
section
variable {H : Type} {enc : TypeId × Value → H} {w : World} {spare : Nat → Bool} {held : Bool}
theorem sum_le_bulk {α : Type} (sz : α → Nat) (D : Nat → DataW H) (f : Nat → α) : ∀ n, (∀ i, i < n → sz (f i) ≤ Rows.uptoBulk (D i)) → (((List.range n).map f).map sz).sum ≤ Rows.uptoBulkAll ((List.range n).map D)
  | 0, _ => by simp
  | n + 1, h => by
    have ih := sum_le_bulk sz D f n (fun i hi => h i (by omega))
    rw [List.range_succ, List.map_append, List.map_append, List.sum_append_nat, List.map_append]
    have e : ∀ a b : List (DataW H), Rows.uptoBulkAll (a ++ b) = Rows.uptoBulkAll a + Rows.uptoBulkAll b := by
      intro a b
      induction a with
      | nil => simp [Rows.uptoBulkAll]
      | cons x r ih => simp only [List.cons_append, Rows.uptoBulkAll]; omega
    rw [e]
    have := h n (by omega)
    simp only [List.map_cons, List.map_nil, List.sum_cons, List.sum_nil, Rows.uptoBulkAll]
    omega
/-- A list as it is read. -/
theorem open_list {α : Type} (c : α → List Value) (z : Nat) (hz : 0 < z) (hc : ∀ x, (c x).length = z) (T E : TypeId) (hu : Try.prog.underlying T = some (.slice E)) (hcl : Try.prog.cellsOf E = z) (sz : α → Nat) (pr : α → Prop) (dflt : α)
    (open1 : ∀ (n b off : Nat) (cs : List Value) (x : DataW H × List MemPlace), w.cells? 0 ⟨b, off, none⟩ z = some cs → DataW.trod enc Try.prog w 0 spare held n E cs = some x → ∃ o : α, (∀ m u, (c o)[m]? = some u → w.cell? ⟨b, off + m, none⟩ = some u) ∧ sz o ≤ Rows.uptoBulk x.1 ∧ pr o)
    {fuel : Nat} {v : Value} {x : DataW H × List MemPlace} (h : DataW.trod enc Try.prog w 0 spare held fuel T [v] = some x) :
    ∃ l : List α, RowG c w v l ∧ l.length + 1 ≤ Rows.uptoBulk x.1 ∧ (l.map sz).sum + 1 ≤ Rows.uptoBulk x.1 ∧ ∀ x ∈ l, pr x := by
  rcases open_slice hu h with ⟨hcs, _⟩ | ⟨a, len, cap, m, n, D, Pl, hcs, _, hl, hm, hmm, hx, hel⟩
  · cases hcs
    exact ⟨[], ⟨none, 0, rfl, Nat.le_refl _, by decide, fun _ => rfl, fun h => by simp at h⟩, by have := bulk_pos x.1; simp; omega, by have := bulk_pos x.1; simp; omega, by simp⟩
  · cases hcs
    have hlm : len ≤ m := by rw [hmm]; split <;> omega
    have hxb : Rows.uptoBulk x.1 = Rows.uptoBulkAll ((List.range len).map D) + Rows.uptoBulkAll ((List.range (m - len)).map fun j => D (len + j)) + 1 := by rw [hx]; simp only [Rows.uptoBulk]
    have hlen : len + 1 ≤ Rows.uptoBulk x.1 := by
      have := bulk_len ((List.range len).map D)
      simp at this; omega
    rcases Nat.eq_zero_or_pos len with h0 | h0
    · subst h0
      exact ⟨[], ⟨some a, cap, rfl, Nat.zero_le _, hm, (fun h => by cases h), fun h => by simp at h⟩, by simpa using bulk_pos x.1, by simpa using bulk_pos x.1, by simp⟩
    · rw [hcl] at hel
      obtain ⟨b, off, spot⟩ := a
      have hs : spot = none := by
        obtain ⟨cs', h1, _⟩ := hel 0 (by omega)
        obtain ⟨_, hl1, hc1⟩ := World.cells?_some h1
        have := hc1 0 (by omega)
        rw [List.getElem?_eq_getElem (by omega)] at this
        simpa [Addr.add] using World.cell?_spot this
      subst hs
      have each : ∀ i, i < len → ∃ o : α, (∀ m u, (c o)[m]? = some u → w.cell? ⟨b, off + i * z + m, none⟩ = some u) ∧ sz o ≤ Rows.uptoBulk (D i) ∧ pr o := by
        intro i hi
        obtain ⟨cs', h1, h2⟩ := hel i (by omega)
        rw [add_offM] at h1
        obtain ⟨o, a1, a2, a3⟩ := open1 _ _ _ _ _ h1 h2
        exact ⟨o, a1, a2, a3⟩
      haveI : Inhabited α := ⟨dflt⟩
      obtain ⟨f, hf⟩ := choose_lt each
      have hgl : ((List.range len).map f).length = len := by simp
      refine ⟨(List.range len).map f, ⟨_, cap, by rw [hgl], by rw [hgl]; exact hl, hm, (fun h => by cases h), fun _ => ⟨b, off, rfl, fun j u hu => ?_⟩⟩, by rw [hgl]; exact hlen, ?_, ?_⟩
      · have hj : j < len * z := by have := (List.getElem?_eq_some_iff.1 hu).1; rwa [flatG_len c z hc, hgl] at this
        have hk : j / z < len := Nat.div_lt_of_lt_mul (by rw [Nat.mul_comm]; exact hj)
        have hmz : j % z < z := Nat.mod_lt _ hz
        have e : j = j / z * z + j % z := by have := Nat.div_add_mod j z; rw [Nat.mul_comm] at this; exact this.symm
        have hg : ((List.range len).map f)[j / z]? = some (f (j / z)) := by rw [List.getElem?_map, List.getElem?_range hk]; rfl
        have h2 := flatG_get hc ((List.range len).map f) (j / z) (j % z) _ hg hmz
        rw [← e, hu] at h2
        have h3 := (hf (j / z) hk).1 (j % z) u h2.symm
        rw [Nat.add_assoc, ← e] at h3
        exact h3
      · have := sum_le_bulk sz D f len (fun i hi => (hf i hi).2.1)
        omega
      · intro x hx
        obtain ⟨i, hi, rfl⟩ := List.mem_map.1 hx
        exact (hf i (List.mem_range.1 hi)).2.2
theorem cells_at {b off z : Nat} {cs l : List Value} (h1 : w.cells? 0 ⟨b, off, none⟩ z = some cs) (hl : cs = l) : ∀ (m : Nat) (u : Value), l[m]? = some u → w.cell? ⟨b, off + m, none⟩ = some u := by
  obtain ⟨_, hlen, hcell⟩ := World.cells?_some h1
  intro m u hu
  subst hl
  have hm : m < z := by have := (List.getElem?_eq_some_iff.1 hu).1; omega
  have := hcell m hm
  rw [add_offM] at this
  rw [this]; exact hu
theorem open_texts {fuel : Nat} {v : Value} {x : DataW H × List MemPlace} (h : DataW.trod enc Try.prog w 0 spare held fuel 27 [v] = some x) : ∃ l : List ByteArray, RowT w v l ∧ l.length + 1 ≤ Rows.uptoBulk x.1 := by
  obtain ⟨l, h1, h2, _⟩ := open_list txL 1 (by decide) txL_len 27 9 Try.underlying27 cellsS (fun _ => 0) (fun _ => True) ⟨#[]⟩ (fun n b off cs x h1 h2 => by
    obtain ⟨_, hlen, _⟩ := World.cells?_some h1
    obtain ⟨u, rfl⟩ := len1 hlen
    obtain ⟨s, e, _⟩ := DataW.trod_string Try.underlying9 h2
    cases e
    exact ⟨s, cells_at h1 rfl, Nat.zero_le _, trivial⟩) h
  exact ⟨l, h1, h2⟩
theorem sum_mem (l : List Nat) (x : Nat) (h : x ∈ l) : x ≤ l.sum := by
  induction l with
  | nil => simp at h
  | cons y r ih =>
    rw [List.sum_cons]
    rcases List.mem_cons.1 h with rfl | h
    · omega
    · have := ih h; omega
def F0 (w : World) : Nat → Prop := fun b => w.heap.size ≤ b
theorem pick_list {α β : Type} (l : List α) (p : α → β → Prop) (h : ∀ x ∈ l, ∃ y, p x y) : ∃ m : List β, m.length = l.length ∧ ∀ (i : Nat) (x : α) (y : β), l[i]? = some x → m[i]? = some y → p x y := by
  induction l with
  | nil => exact ⟨[], rfl, fun i x y hx => by simp at hx⟩
  | cons a r ih =>
    obtain ⟨y, hy⟩ := h a (.head _)
    obtain ⟨m, hm, hp⟩ := ih (fun x hx => h x (.tail _ hx))
    refine ⟨y :: m, by simp [hm], fun i x z hx hz => ?_⟩
    cases i with
    | zero => simp at hx hz; subst hx; subst hz; exact hy
    | succ i => exact hp i x z (by simpa using hx) (by simpa using hz)
theorem open_edges {fuel : Nat} {v : Value} {x : DataW H × List MemPlace} (h : DataW.trod enc Try.prog w 0 spare held fuel 24 [v] = some x) : ∃ l : List Ed, RowEd w v l ∧ l.length + 1 ≤ Rows.uptoBulk x.1 := by
  have c2 : Try.prog.cellsOf 38 = 2 := by kernel_rfl
  obtain ⟨l, h1, h2, _⟩ := open_list edL 2 (by decide) edL_len 24 38 Try.underlying24 c2 (fun _ => 0) (fun _ => True) (⟨#[]⟩, ⟨#[]⟩) (fun n b off cs x h1 h2 => by
    obtain ⟨_, hlen, _⟩ := World.cells?_some h1
    obtain ⟨u0, u1, rfl⟩ := len2 hlen
    obtain ⟨xs, m, _, hx, _, hxl, hf⟩ := DataW.trod_struct Try.underlying38 h2
    obtain ⟨y0, y1, rfl⟩ := len2 hxl
    have g0 : DataW.trod enc Try.prog w 0 spare held m 9 [u0] = some y0 := by simpa [cellsS] using hf 0 _ rfl
    have g1 : DataW.trod enc Try.prog w 0 spare held m 9 [u1] = some y1 := by simpa [cellsS] using hf 1 _ rfl
    obtain ⟨s0, e0, _⟩ := DataW.trod_string Try.underlying9 g0
    obtain ⟨s1, e1, _⟩ := DataW.trod_string Try.underlying9 g1
    cases e0
    cases e1
    exact ⟨(s0, s1), cells_at h1 rfl, Nat.zero_le _, trivial⟩) h
  exact ⟨l, h1, h2⟩
/-- one node, opened -/
structure NodO (w : World) (B : Nat) (x : Nv) (N : No) : Prop where
  nm : x.nm = N.nm
  d : RowT w (slV x.d) N.df
  n : RowT w (slV x.n) N.nd
  dl : N.df.length ≤ B
  nl : N.nd.length ≤ B
theorem slV_of {w : World} {v : Value} {l : List ByteArray} (h : RowT w v l) : ∃ s : Sl, v = slV s := by
  obtain ⟨a, c, e, _⟩ := h
  exact ⟨(a, l.length, c), e⟩
theorem open_node {n : Nat} {u0 u1 u2 : Value} {x : DataW H × List MemPlace} (h : DataW.trod enc Try.prog w 0 spare held n 29 [u0, u1, u2] = some x) : ∃ (v : Nv) (N : No), [u0, u1, u2] = noL v ∧ NodO w (Rows.uptoBulk x.1) v N := by
  obtain ⟨xs, m, _, hx, _, hxl, hf⟩ := DataW.trod_struct Try.underlying29 h
  obtain ⟨y0, y1, y2, rfl⟩ := len3 hxl
  have g0 : DataW.trod enc Try.prog w 0 spare held m 9 [u0] = some y0 := by simpa [cellsS] using hf 0 _ rfl
  have g1 : DataW.trod enc Try.prog w 0 spare held m 27 [u1] = some y1 := by simpa [cellsS, cellsT] using hf 1 _ rfl
  have g2 : DataW.trod enc Try.prog w 0 spare held m 27 [u2] = some y2 := by simpa [cellsS, cellsT] using hf 2 _ rfl
  obtain ⟨s, e, _⟩ := DataW.trod_string Try.underlying9 g0
  cases e
  obtain ⟨l1, r1, n1⟩ := open_texts g1
  obtain ⟨l2, r2, n2⟩ := open_texts g2
  obtain ⟨s1, rfl⟩ := slV_of r1
  obtain ⟨s2, rfl⟩ := slV_of r2
  have hbx : Rows.uptoBulk y0.1 + Rows.uptoBulk y1.1 + Rows.uptoBulk y2.1 ≤ Rows.uptoBulk x.1 := by
    rw [hx]
    simp only [Rows.uptoBulk, List.map_cons, List.map_nil, Rows.uptoBulkAll]
    omega
  exact ⟨⟨s, s1, s2⟩, ⟨s, l1, l2⟩, rfl, rfl, r1, r2, by show l1.length ≤ _; omega, by show l2.length ≤ _; omega⟩
theorem open_nodes {fuel : Nat} {v : Value} {x : DataW H × List MemPlace} (h : DataW.trod enc Try.prog w 0 spare held fuel 22 [v] = some x) : ∃ (vs : List Nv) (Ns : List No), NodesAt (fun b => w.heap.size ≤ b) w v vs Ns ∧ Ns.length ≤ Rows.uptoBulk x.1 ∧ ∀ N ∈ Ns, N.df.length ≤ Rows.uptoBulk x.1 ∧ N.nd.length ≤ Rows.uptoBulk x.1 := by
  have hcl : ∀ (x : Nv × Nat), (noL x.1).length = 3 := fun _ => rfl
  obtain ⟨l, h1, h2, h3, h4⟩ := open_list (fun (x : Nv × Nat) => noL x.1) 3 (by decide) hcl 22 29 Try.underlying22 cellsN (fun x => x.2) (fun x => ∃ N : No, NodO w x.2 x.1 N) (⟨⟨#[]⟩, (none, 0, 0), (none, 0, 0)⟩, 0) (fun n b off cs x h1 h2 => by
    obtain ⟨_, hlen, _⟩ := World.cells?_some h1
    obtain ⟨u0, u1, u2, rfl⟩ := len3 hlen
    obtain ⟨y, N, e, hN⟩ := open_node h2
    exact ⟨(y, Rows.uptoBulk x.1), cells_at h1 e, Nat.le_refl _, N, hN⟩) h
  obtain ⟨Ns, g1, g2⟩ := pick_list l (fun x N => NodO w x.2 x.1 N) h4
  have hF : ∀ b, (fun b => w.heap.size ≤ b) b → w.heap.size ≤ b := fun b hb => hb
  have hle : ∀ y, y ∈ l → y.2 ≤ Rows.uptoBulk x.1 := fun y hy => by
    have := sum_mem (l.map (·.2)) y.2 (List.mem_map.2 ⟨y, hy, rfl⟩)
    omega
  refine ⟨l.map (·.1), Ns, ⟨?_, by simp [g1], fun i v N hv hN => ?_⟩, by omega, fun N hN => ?_⟩
  · have e : (l.map (·.1)).flatMap noL = l.flatMap (fun (x : Nv × Nat) => noL x.1) := by rw [List.flatMap_map]
    have hr : RowG noL w v (l.map (·.1)) := by
      obtain ⟨ao, cap, q1, q2, q3, q4, q5⟩ := h1
      exact ⟨ao, cap, by simpa using q1, by simpa using q2, q3, q4, fun hp => by rw [e]; exact q5 (by simpa using hp)⟩
    exact hr.rowN (by decide) noL_len hF
  · rw [List.getElem?_map] at hv
    cases hx : l[i]? with
    | none => rw [hx] at hv; cases hv
    | some y =>
      rw [hx] at hv; injection hv with hv; subst hv
      have q := g2 i y N hx hN
      exact ⟨q.nm, q.d.rowN (by decide) txL_len hF, q.n.rowN (by decide) txL_len hF⟩
  · obtain ⟨i, hi⟩ := List.getElem?_of_mem hN
    have hil : i < l.length := by have := (List.getElem?_eq_some_iff.1 hi).1; omega
    have q := g2 i _ N (List.getElem?_eq_getElem hil) hi
    have hm := hle l[i] (List.getElem_mem hil)
    exact ⟨Nat.le_trans q.dl hm, Nat.le_trans q.nl hm⟩
end
end Go.Proofs.Ytiedimmbcmpfbaa
