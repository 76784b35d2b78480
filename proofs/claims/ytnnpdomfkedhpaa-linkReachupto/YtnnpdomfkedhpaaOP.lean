
-- What came in, opened: libraries, links.
import Derived.Test.YtnnpdomfkedhpaaWF
import Derived.Test.YtnnpdomfkedhpaaRows
import Derived.WalkKit
import Derived.ProofKit
import Derived.OpenShut
import Derived.ChangeArms
import Derived.Deep.Slices
import Derived.ChangeSlices
namespace Go.Proofs.Ytnnpdomfkedhpaa
open Go.RowKit Go.ChangeShapes Go.Deep
set_option linter.unusedVariables false
set_option maxRecDepth 100000
theorem bulk_mem {H : Type} (l : List (DataW H)) (d : DataW H) (h : d ∈ l) : Rows.uptoBulk d ≤ Rows.uptoBulkAll l := by
  induction l with
  | nil => simp at h
  | cons x r ih =>
    simp only [Rows.uptoBulkAll]
    rcases List.mem_cons.1 h with rfl | h
    · omega
    · have := ih h; omega
theorem bulk_pos {H : Type} (d : DataW H) : 1 ≤ Rows.uptoBulk d := by
  cases d with
  | lit l => cases l <;> simp [Rows.uptoBulk]
  | _ => simp [Rows.uptoBulk]
theorem bulk_len {H : Type} (l : List (DataW H)) : l.length ≤ Rows.uptoBulkAll l := by
  induction l with
  | nil => simp [Rows.uptoBulkAll]
  | cons x r ih => simp only [Rows.uptoBulkAll, List.length_cons]; have := bulk_pos x; omega
theorem add_offM (b off k : Nat) : (⟨b, off, none⟩ : Addr).add k = ⟨b, off + k, none⟩ := by unfold Addr.add; split <;> simp_all
theorem cellsI : Try.prog.cellsOf 3 = 1 := by kernel_rfl
theorem cellsS : Try.prog.cellsOf 9 = 1 := by kernel_rfl
theorem cellsP : Try.prog.cellsOf 56 = 2 := by kernel_rfl
theorem cellsE : Try.prog.cellsOf 47 = 2 := by kernel_rfl
theorem cellsT : Try.prog.cellsOf 23 = 1 := by kernel_rfl
theorem cellsL : Try.prog.cellsOf 45 = 5 := by kernel_rfl
theorem len1 {α : Type} {l : List α} (h : l.length = 1) : ∃ a, l = [a] := by
  match l, h with
  | [a], _ => exact ⟨a, rfl⟩
theorem len2 {α : Type} {l : List α} (h : l.length = 2) : ∃ a b, l = [a, b] := by
  match l, h with
  | [a, b], _ => exact ⟨a, b, rfl⟩
theorem len3 {α : Type} {l : List α} (h : l.length = 3) : ∃ a b c, l = [a, b, c] := by
  match l, h with
  | [a, b, c], _ => exact ⟨a, b, c, rfl⟩
theorem len5 {α : Type} {l : List α} (h : l.length = 5) : ∃ a b c d e, l = [a, b, c, d, e] := by
  match l, h with
  | [a, b, c, d, e], _ => exact ⟨a, b, c, d, e, rfl⟩
section
variable {H : Type} {enc : TypeId × Value → H} {w : World} {spare : Nat → Bool} {held : Bool}
theorem sum_le_bulk {α : Type} (sz : α → Nat) (D : Nat → DataW H) (f : Nat → α) : ∀ n, (∀ i, i < n → sz (f i) ≤ Rows.uptoBulk (D i)) → (((List.range n).map f).map sz).sum ≤ Rows.uptoBulkAll ((List.range n).map D)
  | 0, _ => by simp
  | n + 1, h => by
    have ih := sum_le_bulk sz D f n (fun i hi => h i (by omega))
    rw [List.range_succ, List.map_append, List.map_append, List.sum_append_nat, List.map_append]
    have e : ∀ a b : List (DataW H), Rows.uptoBulkAll (a ++ b) = Rows.uptoBulkAll a + Rows.uptoBulkAll b := by
      intro a b
      induction a with
      | nil => simp [Rows.uptoBulkAll]
      | cons x r ih => simp only [List.cons_append, Rows.uptoBulkAll]; omega
    rw [e]
    have := h n (by omega)
    simp only [List.map_cons, List.map_nil, List.sum_cons, List.sum_nil, Rows.uptoBulkAll]
    omega
/-- A list as it is read. -/
theorem open_list {α : Type} (c : α → List Value) (z : Nat) (hz : 0 < z) (hc : ∀ x, (c x).length = z) (T E : TypeId) (hu : Try.prog.underlying T = some (.slice E)) (hcl : Try.prog.cellsOf E = z) (sz : α → Nat) (pr : α → Prop) (dflt : α)
    (open1 : ∀ (n b off : Nat) (cs : List Value) (x : DataW H × List MemPlace), w.cells? 0 ⟨b, off, none⟩ z = some cs → DataW.trod enc Try.prog w 0 spare held n E cs = some x → ∃ o : α, (∀ m u, (c o)[m]? = some u → w.cell? ⟨b, off + m, none⟩ = some u) ∧ sz o ≤ Rows.uptoBulk x.1 ∧ pr o)
    {fuel : Nat} {v : Value} {x : DataW H × List MemPlace} (h : DataW.trod enc Try.prog w 0 spare held fuel T [v] = some x) :
    ∃ l : List α, RowG c w v l ∧ l.length + 1 ≤ Rows.uptoBulk x.1 ∧ (l.map sz).sum + 1 ≤ Rows.uptoBulk x.1 ∧ ∀ x ∈ l, pr x := by
  rcases open_slice hu h with ⟨hcs, _⟩ | ⟨a, len, cap, m, n, D, Pl, hcs, _, hl, hm, hmm, hx, hel⟩
  · cases hcs
    exact ⟨[], ⟨none, 0, rfl, Nat.le_refl _, by decide, fun _ => rfl, fun h => by simp at h⟩, by have := bulk_pos x.1; simp; omega, by have := bulk_pos x.1; simp; omega, by simp⟩
  · cases hcs
    have hlm : len ≤ m := by rw [hmm]; split <;> omega
    have hxb : Rows.uptoBulk x.1 = Rows.uptoBulkAll ((List.range len).map D) + Rows.uptoBulkAll ((List.range (m - len)).map fun j => D (len + j)) + 1 := by rw [hx]; simp only [Rows.uptoBulk]
    have hlen : len + 1 ≤ Rows.uptoBulk x.1 := by
      have := bulk_len ((List.range len).map D)
      simp at this; omega
    rcases Nat.eq_zero_or_pos len with h0 | h0
    · subst h0
      exact ⟨[], ⟨some a, cap, rfl, Nat.zero_le _, hm, (fun h => by cases h), fun h => by simp at h⟩, by simpa using bulk_pos x.1, by simpa using bulk_pos x.1, by simp⟩
    · rw [hcl] at hel
      obtain ⟨b, off, spot⟩ := a
      have hs : spot = none := by
        obtain ⟨cs', h1, _⟩ := hel 0 (by omega)
        obtain ⟨_, hl1, hc1⟩ := World.cells?_some h1
        have := hc1 0 (by omega)
        rw [List.getElem?_eq_getElem (by omega)] at this
        simpa [Addr.add] using World.cell?_spot this
      subst hs
      have each : ∀ i, i < len → ∃ o : α, (∀ m u, (c o)[m]? = some u → w.cell? ⟨b, off + i * z + m, none⟩ = some u) ∧ sz o ≤ Rows.uptoBulk (D i) ∧ pr o := by
        intro i hi
        obtain ⟨cs', h1, h2⟩ := hel i (by omega)
        rw [add_offM] at h1
        obtain ⟨o, a1, a2, a3⟩ := open1 _ _ _ _ _ h1 h2
        exact ⟨o, a1, a2, a3⟩
      haveI : Inhabited α := ⟨dflt⟩
      obtain ⟨f, hf⟩ := choose_lt each
      have hgl : ((List.range len).map f).length = len := by simp
      refine ⟨(List.range len).map f, ⟨_, cap, by rw [hgl], by rw [hgl]; exact hl, hm, (fun h => by cases h), fun _ => ⟨b, off, rfl, fun j u hu => ?_⟩⟩, by rw [hgl]; exact hlen, ?_, ?_⟩
      · have hj : j < len * z := by have := (List.getElem?_eq_some_iff.1 hu).1; rwa [flatG_len c z hc, hgl] at this
        have hk : j / z < len := Nat.div_lt_of_lt_mul (by rw [Nat.mul_comm]; exact hj)
        have hmz : j % z < z := Nat.mod_lt _ hz
        have e : j = j / z * z + j % z := by have := Nat.div_add_mod j z; rw [Nat.mul_comm] at this; exact this.symm
        have hg : ((List.range len).map f)[j / z]? = some (f (j / z)) := by rw [List.getElem?_map, List.getElem?_range hk]; rfl
        have h2 := flatG_get hc ((List.range len).map f) (j / z) (j % z) _ hg hmz
        rw [← e, hu] at h2
        have h3 := (hf (j / z) hk).1 (j % z) u h2.symm
        rw [Nat.add_assoc, ← e] at h3
        exact h3
      · have := sum_le_bulk sz D f len (fun i hi => (hf i hi).2.1)
        omega
      · intro x hx
        obtain ⟨i, hi, rfl⟩ := List.mem_map.1 hx
        exact (hf i (List.mem_range.1 hi)).2.2
theorem cells_at {b off z : Nat} {cs l : List Value} (h1 : w.cells? 0 ⟨b, off, none⟩ z = some cs) (hl : cs = l) : ∀ (m : Nat) (u : Value), l[m]? = some u → w.cell? ⟨b, off + m, none⟩ = some u := by
  obtain ⟨_, hlen, hcell⟩ := World.cells?_some h1
  intro m u hu
  subst hl
  have hm : m < z := by have := (List.getElem?_eq_some_iff.1 hu).1; omega
  have := hcell m hm
  rw [add_offM] at this
  rw [this]; exact hu
theorem open_texts {fuel : Nat} {v : Value} {x : DataW H × List MemPlace} (h : DataW.trod enc Try.prog w 0 spare held fuel 23 [v] = some x) : ∃ l : List ByteArray, RowT w v l ∧ l.length + 1 ≤ Rows.uptoBulk x.1 := by
  obtain ⟨l, h1, h2, _⟩ := open_list txL 1 (by decide) txL_len 23 9 Try.underlying23 cellsS (fun _ => 0) (fun _ => True) ⟨#[]⟩ (fun n b off cs x h1 h2 => by
    obtain ⟨_, hlen, _⟩ := World.cells?_some h1
    obtain ⟨u, rfl⟩ := len1 hlen
    obtain ⟨s, e, _⟩ := DataW.trod_string Try.underlying9 h2
    cases e
    exact ⟨s, cells_at h1 rfl, Nat.zero_le _, trivial⟩) h
  exact ⟨l, h1, h2⟩
theorem open_nums {fuel : Nat} {v : Value} {x : DataW H × List MemPlace} (h : DataW.trod enc Try.prog w 0 spare held fuel 41 [v] = some x) : ∃ l : List Int, RowI w v l ∧ l.length + 1 ≤ Rows.uptoBulk x.1 := by
  obtain ⟨l, h1, h2, _⟩ := open_list nmL 1 (by decide) nmL_len 41 3 Try.underlying41 cellsI (fun _ => 0) (fun _ => True) 0 (fun n b off cs x h1 h2 => by
    obtain ⟨_, hlen, _⟩ := World.cells?_some h1
    obtain ⟨u, rfl⟩ := len1 hlen
    obtain ⟨s, e, _⟩ := DataW.trod_int Try.underlying3 h2
    cases e
    exact ⟨s, cells_at h1 rfl, Nat.zero_le _, trivial⟩) h
  exact ⟨l, h1, h2⟩
theorem open_places {fuel : Nat} {v : Value} {x : DataW H × List MemPlace} (h : DataW.trod enc Try.prog w 0 spare held fuel 30 [v] = some x) : ∃ l : List (Int × Int), RowP w v l ∧ l.length + 1 ≤ Rows.uptoBulk x.1 := by
  obtain ⟨l, h1, h2, _⟩ := open_list paL 2 (by decide) paL_len 30 56 Try.underlying30 cellsP (fun _ => 0) (fun _ => True) (0, 0) (fun n b off cs x h1 h2 => by
    obtain ⟨_, hlen, _⟩ := World.cells?_some h1
    obtain ⟨u0, u1, rfl⟩ := len2 hlen
    obtain ⟨xs, m, _, hx, _, hxl, hf⟩ := DataW.trod_struct Try.underlying56 h2
    obtain ⟨y0, y1, rfl⟩ := len2 hxl
    have g0 : DataW.trod enc Try.prog w 0 spare held m 3 [u0] = some y0 := by simpa [cellsI] using hf 0 _ rfl
    have g1 : DataW.trod enc Try.prog w 0 spare held m 3 [u1] = some y1 := by simpa [cellsI] using hf 1 _ rfl
    obtain ⟨k0, e0, _⟩ := DataW.trod_int Try.underlying3 g0
    obtain ⟨k1, e1, _⟩ := DataW.trod_int Try.underlying3 g1
    cases e0; cases e1
    exact ⟨(k0, k1), cells_at h1 rfl, Nat.zero_le _, trivial⟩) h
  exact ⟨l, h1, h2⟩
theorem open_entries {fuel : Nat} {v : Value} {x : DataW H × List MemPlace} (h : DataW.trod enc Try.prog w 0 spare held fuel 42 [v] = some x) : ∃ l : List (ByteArray × Int), RowG enL w v l ∧ l.length + 1 ≤ Rows.uptoBulk x.1 := by
  obtain ⟨l, h1, h2, _⟩ := open_list enL 2 (by decide) enL_len 42 47 Try.underlying42 cellsE (fun _ => 0) (fun _ => True) (⟨#[]⟩, 0) (fun n b off cs x h1 h2 => by
    obtain ⟨_, hlen, _⟩ := World.cells?_some h1
    obtain ⟨u0, u1, rfl⟩ := len2 hlen
    obtain ⟨xs, m, _, hx, _, hxl, hf⟩ := DataW.trod_struct Try.underlying47 h2
    obtain ⟨y0, y1, rfl⟩ := len2 hxl
    have g0 : DataW.trod enc Try.prog w 0 spare held m 9 [u0] = some y0 := by simpa [cellsS] using hf 0 _ rfl
    have g1 : DataW.trod enc Try.prog w 0 spare held m 3 [u1] = some y1 := by simpa [cellsS, cellsI] using hf 1 _ rfl
    obtain ⟨k0, e0, _⟩ := DataW.trod_string Try.underlying9 g0
    obtain ⟨k1, e1, _⟩ := DataW.trod_int Try.underlying3 g1
    cases e0; cases e1
    exact ⟨(k0, k1), cells_at h1 rfl, Nat.zero_le _, trivial⟩) h
  exact ⟨l, h1, h2⟩
theorem sum_mem (l : List Nat) (x : Nat) (h : x ∈ l) : x ≤ l.sum := by
  induction l with
  | nil => simp at h
  | cons y r ih =>
    rw [List.sum_cons]
    rcases List.mem_cons.1 h with rfl | h
    · omega
    · have := ih h; omega
def F0 (w : World) : Nat → Prop := fun b => w.heap.size ≤ b
theorem pick_list {α β : Type} (l : List α) (p : α → β → Prop) (h : ∀ x ∈ l, ∃ y, p x y) : ∃ m : List β, m.length = l.length ∧ ∀ (i : Nat) (x : α) (y : β), l[i]? = some x → m[i]? = some y → p x y := by
  induction l with
  | nil => exact ⟨[], rfl, fun i x y hx => by simp at hx⟩
  | cons a r ih =>
    obtain ⟨y, hy⟩ := h a (.head _)
    obtain ⟨m, hm, hp⟩ := ih (fun x hx => h x (.tail _ hx))
    refine ⟨y :: m, by simp [hm], fun i x z hx hz => ?_⟩
    cases i with
    | zero => simp at hx hz; subst hx; subst hz; exact hy
    | succ i => exact hp i x z (by simpa using hx) (by simpa using hz)
theorem open_lists {fuel : Nat} {v : Value} {x : DataW H × List MemPlace} (h : DataW.trod enc Try.prog w 0 spare held fuel 43 [v] = some x) : ∃ LL : List (List ByteArray), RowLL (F0 w) w v LL ∧ (∀ l ∈ LL, l.length ≤ Rows.uptoBulk x.1) ∧ LL.length + 1 ≤ Rows.uptoBulk x.1 := by
  have hcl : ∀ (x : Value × Nat), (vaL x.1).length = 1 := fun _ => rfl
  obtain ⟨l, h1, h2, h3, h4⟩ := open_list (fun (x : Value × Nat) => vaL x.1) 1 (by decide) hcl 43 23 Try.underlying43 cellsT (fun x => x.2) (fun x => ∃ l : List ByteArray, RowT w x.1 l ∧ l.length ≤ x.2) (.slice none 0 0, 0) (fun n b off cs x h1 h2 => by
    obtain ⟨_, hlen, _⟩ := World.cells?_some h1
    obtain ⟨u, rfl⟩ := len1 hlen
    obtain ⟨l, g1, g2⟩ := open_texts h2
    exact ⟨(u, l.length), cells_at h1 rfl, by show l.length ≤ _; omega, l, g1, Nat.le_refl _⟩) h
  obtain ⟨LL, g1, g2⟩ := pick_list l (fun x t => RowT w x.1 t ∧ t.length ≤ x.2) h4
  have hF : ∀ b, F0 w b → w.heap.size ≤ b := fun b hb => hb
  refine ⟨LL, ⟨l.map (·.1), ?_, by simp [g1], fun i u t hu ht => ?_⟩, fun t ht => ?_, by omega⟩
  · have e : (l.map (·.1)).flatMap vaL = l.flatMap (fun (x : Value × Nat) => vaL x.1) := by rw [List.flatMap_map]
    have hr : RowG vaL w v (l.map (·.1)) := by
      obtain ⟨ao, cap, q1, q2, q3, q4, q5⟩ := h1
      exact ⟨ao, cap, by simpa using q1, by simpa using q2, q3, q4, fun hp => by rw [e]; exact q5 (by simpa using hp)⟩
    exact hr.rowN (by decide) vaL_len hF
  · rw [List.getElem?_map] at hu
    cases hx : l[i]? with
    | none => rw [hx] at hu; cases hu
    | some y =>
      rw [hx] at hu; injection hu with hu; subst hu
      exact (g2 i y t hx ht).1.rowN (by decide) txL_len hF
  · obtain ⟨i, hi⟩ := List.getElem?_of_mem ht
    have hil : i < l.length := by have := (List.getElem?_eq_some_iff.1 hi).1; omega
    have := (g2 i _ t (List.getElem?_eq_getElem hil) hi).2
    have hm : l[i].2 ≤ (l.map (·.2)).sum := sum_mem _ _ (List.mem_map.2 ⟨l[i], List.getElem_mem hil, rfl⟩)
    omega
/-- one library, opened -/
structure LibO (w : World) (B : Nat) (v : Lv) (L : Lb) : Prop where
  at_ : LibAt (F0 w) w v.e v.a v.n v.f v.g L
  e : L.e.length ≤ B
  a : L.a.length ≤ B
  f : ∀ l ∈ L.df, l.length ≤ B
  g : ∀ l ∈ L.nd, l.length ≤ B
theorem open_lib {n : Nat} {u0 u1 u2 u3 u4 : Value} {x : DataW H × List MemPlace} (h : DataW.trod enc Try.prog w 0 spare held n 45 [u0, u1, u2, u3, u4] = some x) : ∃ L, LibO w (Rows.uptoBulk x.1) ⟨u0, u1, u2, u3, u4⟩ L := by
  obtain ⟨xs, m, _, hx, _, hxl, hf⟩ := DataW.trod_struct Try.underlying45 h
  obtain ⟨y0, y1, y2, y3, y4, rfl⟩ := len5 hxl
  have c33 : Try.prog.cellsOf 42 = 1 := by kernel_rfl
  have c34 : Try.prog.cellsOf 41 = 1 := by kernel_rfl
  have c35 : Try.prog.cellsOf 43 = 1 := by kernel_rfl
  have g0 : DataW.trod enc Try.prog w 0 spare held m 42 [u0] = some y0 := by simpa [c33] using hf 0 _ rfl
  have g1 : DataW.trod enc Try.prog w 0 spare held m 41 [u1] = some y1 := by simpa [c33, c34] using hf 1 _ rfl
  have g2 : DataW.trod enc Try.prog w 0 spare held m 23 [u2] = some y2 := by simpa [c33, c34, cellsT] using hf 2 _ rfl
  have g3 : DataW.trod enc Try.prog w 0 spare held m 43 [u3] = some y3 := by simpa [c33, c34, cellsT, c35] using hf 3 _ rfl
  have g4 : DataW.trod enc Try.prog w 0 spare held m 43 [u4] = some y4 := by simpa [c33, c34, cellsT, c35] using hf 4 _ rfl
  obtain ⟨le, r0, n0⟩ := open_entries g0
  obtain ⟨la, r1, n1⟩ := open_nums g1
  obtain ⟨ln, r2, n2⟩ := open_texts g2
  obtain ⟨lf, r3, n3, _⟩ := open_lists g3
  obtain ⟨lg, r4, n4, _⟩ := open_lists g4
  have hF : ∀ b, F0 w b → w.heap.size ≤ b := fun b hb => hb
  have hbx : Rows.uptoBulk y0.1 + Rows.uptoBulk y1.1 + Rows.uptoBulk y2.1 + Rows.uptoBulk y3.1 + Rows.uptoBulk y4.1 ≤ Rows.uptoBulk x.1 := by
    rw [hx]
    simp only [Rows.uptoBulk, List.map_cons, List.map_nil, Rows.uptoBulkAll]
    omega
  exact ⟨⟨le, la, ln, lf, lg⟩, ⟨r0.rowN (by decide) enL_len hF, r1.rowN (by decide) nmL_len hF, r2.rowN (by decide) txL_len hF, r3, r4⟩, by show le.length ≤ _; omega, by show la.length ≤ _; omega, fun l hl => by have := n3 l hl; omega, fun l hl => by have := n4 l hl; omega⟩
theorem numL_sizes (Ls : List Lb) : sizesN (numL Ls) = (Ls.map fun L => L.a.length).sum := by
  unfold sizesN numL
  rw [List.map_map]
  have : ∀ (l : List Lb) (k : Nat), ((l.zipIdx k).map ((fun x : Int × Lb => x.2.a.length) ∘ fun x : Lb × Nat => ((x.2 : Int), x.1))) = l.map fun L => L.a.length := by
    intro l
    induction l with
    | nil => intro k; rfl
    | cons a r ih => intro k; rw [List.zipIdx_cons, List.map_cons, ih, List.map_cons]; rfl
  rw [this]
theorem open_libs {fuel : Nat} {v : Value} {x : DataW H × List MemPlace} (h : DataW.trod enc Try.prog w 0 spare held fuel 28 [v] = some x) : ∃ (lvs : List Lv) (Ls : List Lb), LibsAt (F0 w) w v lvs Ls ∧ Ls.length ≤ Rows.uptoBulk x.1 ∧ sizesN (numL Ls) ≤ Rows.uptoBulk x.1 ∧ ∀ L ∈ Ls, L.e.length ≤ Rows.uptoBulk x.1 ∧ L.a.length ≤ Rows.uptoBulk x.1 ∧ (∀ l ∈ L.df, l.length ≤ Rows.uptoBulk x.1) ∧ ∀ l ∈ L.nd, l.length ≤ Rows.uptoBulk x.1 := by
  have hcl : ∀ (x : Lv × Nat), (lvL x.1).length = 5 := fun _ => rfl
  obtain ⟨l, h1, h2, h3, h4⟩ := open_list (fun (x : Lv × Nat) => lvL x.1) 5 (by decide) hcl 28 45 Try.underlying28 cellsL (fun x => x.2) (fun x => ∃ L : Lb, LibO w x.2 x.1 L) (⟨.slice none 0 0, .slice none 0 0, .slice none 0 0, .slice none 0 0, .slice none 0 0⟩, 0) (fun n b off cs x h1 h2 => by
    obtain ⟨_, hlen, _⟩ := World.cells?_some h1
    obtain ⟨u0, u1, u2, u3, u4, rfl⟩ := len5 hlen
    obtain ⟨L, hL⟩ := open_lib h2
    exact ⟨(⟨u0, u1, u2, u3, u4⟩, Rows.uptoBulk x.1), cells_at h1 rfl, Nat.le_refl _, L, hL⟩) h
  obtain ⟨Ls, g1, g2⟩ := pick_list l (fun x L => LibO w x.2 x.1 L) h4
  have hF : ∀ b, F0 w b → w.heap.size ≤ b := fun b hb => hb
  have hat : ∀ (L : Lb), L ∈ Ls → ∃ y, y ∈ l ∧ LibO w y.2 y.1 L := fun L hL => by
    obtain ⟨i, hi⟩ := List.getElem?_of_mem hL
    have hil : i < l.length := by have := (List.getElem?_eq_some_iff.1 hi).1; omega
    exact ⟨l[i], List.getElem_mem hil, g2 i _ L (List.getElem?_eq_getElem hil) hi⟩
  have hle : ∀ y, y ∈ l → y.2 ≤ Rows.uptoBulk x.1 := fun y hy => by
    have := sum_mem (l.map (·.2)) y.2 (List.mem_map.2 ⟨y, hy, rfl⟩)
    omega
  refine ⟨l.map (·.1), Ls, ⟨?_, by simp [g1], fun i v L hv hL => ?_⟩, by omega, ?_, fun L hL => ?_⟩
  · have e : (l.map (·.1)).flatMap lvL = l.flatMap (fun (x : Lv × Nat) => lvL x.1) := by rw [List.flatMap_map]
    have hr : RowG lvL w v (l.map (·.1)) := by
      obtain ⟨ao, cap, q1, q2, q3, q4, q5⟩ := h1
      exact ⟨ao, cap, by simpa using q1, by simpa using q2, q3, q4, fun hp => by rw [e]; exact q5 (by simpa using hp)⟩
    exact hr.rowN (by decide) lvL_len hF
  · rw [List.getElem?_map] at hv
    cases hx : l[i]? with
    | none => rw [hx] at hv; cases hv
    | some y =>
      rw [hx] at hv; injection hv with hv; subst hv
      exact (g2 i y L hx hL).at_
  · rw [numL_sizes]
    have : (Ls.map fun L => L.a.length).sum ≤ (l.map (·.2)).sum := by
      clear h1 h2 h3 h4 hat hle
      revert Ls
      induction l with
      | nil => intro Ls g1 _; have : Ls = [] := List.eq_nil_of_length_eq_zero g1; subst this; simp
      | cons a r ih =>
        intro Ls g1 g2
        cases Ls with
        | nil => simp at g1
        | cons L t =>
          have h0 := (g2 0 a L rfl rfl).a
          have := ih t (by simpa using g1) (fun i x y hx hy => g2 (i + 1) x y (by simpa using hx) (by simpa using hy))
          simp only [List.map_cons, List.sum_cons]; omega
    omega
  · obtain ⟨y, hy, hO⟩ := hat L hL
    have := hle y hy
    exact ⟨Nat.le_trans hO.e this, Nat.le_trans hO.a this, fun l hl => Nat.le_trans (hO.f l hl) this, fun l hl => Nat.le_trans (hO.g l hl) this⟩
theorem open_linkV {cs : Array Value} {d : DataW H} {p : List MemPlace} (h : DataW.Trod enc Try.prog w 0 (fun _ => true) true 32 (.agg cs) d p) :
    ∃ (vd vw vp : Value) (s : Lk), cs = #[vd, vw, vp] ∧ RowT w vd s.d ∧ RowT w vw s.w ∧ RowP w vp s.p ∧ s.d.length + s.w.length + s.p.length ≤ Rows.uptoBulk d := by
  obtain ⟨fuel, h⟩ := h
  have c3 : Try.prog.cellsOf 32 = 3 := by kernel_rfl
  have c24 : Try.prog.cellsOf 30 = 1 := by kernel_rfl
  obtain ⟨xs, m, _, hx, hl, hxl, hf⟩ := DataW.trod_struct Try.underlying32 h
  rw [c3] at hl
  have hl' : cs.toList.length = 3 := hl
  obtain ⟨u0, u1, u2, hcs⟩ := len3 hl'
  obtain ⟨y0, y1, y2, rfl⟩ := len3 hxl
  have hcc : (Value.agg cs).cells.toList = [u0, u1, u2] := hcs
  rw [hcc] at hf
  have g0 : DataW.trod enc Try.prog w 0 (fun _ => true) true m 23 [u0] = some y0 := by simpa [cellsT] using hf 0 _ rfl
  have g1 : DataW.trod enc Try.prog w 0 (fun _ => true) true m 23 [u1] = some y1 := by simpa [cellsT] using hf 1 _ rfl
  have g2 : DataW.trod enc Try.prog w 0 (fun _ => true) true m 30 [u2] = some y2 := by simpa [cellsT, c24] using hf 2 _ rfl
  obtain ⟨l0, r0, n0⟩ := open_texts g0
  obtain ⟨l1, r1, n1⟩ := open_texts g1
  obtain ⟨l2, r2, n2⟩ := open_places g2
  have hbx : Rows.uptoBulk y0.1 + Rows.uptoBulk y1.1 + Rows.uptoBulk y2.1 ≤ Rows.uptoBulk d := by
    have hx' : d = .agg ([y0, y1, y2].map (·.1)) := congrArg Prod.fst hx
    rw [hx']
    simp only [Rows.uptoBulk, List.map_cons, List.map_nil, Rows.uptoBulkAll]
    omega
  refine ⟨u0, u1, u2, ⟨l0, l1, l2⟩, ?_, r0, r1, r2, by show l0.length + l1.length + l2.length ≤ _; omega⟩
  have := congrArg List.toArray hcs
  rw [Array.toArray_toList] at this
  exact this
end
end Go.Proofs.Ytnnpdomfkedhpaa
