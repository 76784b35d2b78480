
-- What came in, opened: libraries, links.
import Derived.Test.YtmlnnbinbbmmhaaDoorYB0
import Derived.Test.YtmlnnbinbbmmhaaDoorRows
import Derived.WalkKit
import Derived.ProofKit
import Derived.OpenShut
import Derived.ChangeArms
import Derived.Deep.Slices
import Derived.ChangeSlices
namespace Go.Proofs.YtmlnnbinbbmmhaaDoor
open Go.RowKit Go.ChangeShapes Go.Deep
set_option linter.unusedVariables false
set_option maxRecDepth 100000
theorem bulk_mem {H : Type} (l : List (DataW H)) (d : DataW H) (h : d ∈ l) : Rows.uptoBulk d ≤ Rows.uptoBulkAll l := by
  induction l with
  | nil => simp at h
  | cons x r ih =>
    simp only [Rows.uptoBulkAll]
    rcases List.mem_cons.1 h with rfl | h
    · omega
    · have := ih h; omega
theorem bulk_pos {H : Type} (d : DataW H) : 1 ≤ Rows.uptoBulk d := by
  cases d with
  | lit l => cases l <;> simp [Rows.uptoBulk]
  | _ => simp [Rows.uptoBulk]
theorem bulk_len {H : Type} (l : List (DataW H)) : l.length ≤ Rows.uptoBulkAll l := by
  induction l with
  | nil => simp [Rows.uptoBulkAll]
  | cons x r ih => simp only [Rows.uptoBulkAll, List.length_cons]; have := bulk_pos x; omega
theorem add_offM (b off k : Nat) : (⟨b, off, none⟩ : Addr).add k = ⟨b, off + k, none⟩ := by unfold Addr.add; split <;> simp_all
theorem cellsI : Tryd.prog.cellsOf 3 = 1 := by kernel_rfl
theorem cellsS : Tryd.prog.cellsOf 9 = 1 := by kernel_rfl
theorem len1 {α : Type} {l : List α} (h : l.length = 1) : ∃ a, l = [a] := by
  match l, h with
  | [a], _ => exact ⟨a, rfl⟩
theorem len2 {α : Type} {l : List α} (h : l.length = 2) : ∃ a b, l = [a, b] := by
  match l, h with
  | [a, b], _ => exact ⟨a, b, rfl⟩
theorem len3 {α : Type} {l : List α} (h : l.length = 3) : ∃ a b c, l = [a, b, c] := by
  match l, h with
  | [a, b, c], _ => exact ⟨a, b, c, rfl⟩
theorem len5 {α : Type} {l : List α} (h : l.length = 5) : ∃ a b c d e, l = [a, b, c, d, e] := by
  match l, h with
  | [a, b, c, d, e], _ => exact ⟨a, b, c, d, e, rfl⟩
section
variable {H : Type} {enc : TypeId × Value → H} {w : World} {spare : Nat → Bool} {held : Bool}
theorem sum_le_bulk {α : Type} (sz : α → Nat) (D : Nat → DataW H) (f : Nat → α) : ∀ n, (∀ i, i < n → sz (f i) ≤ Rows.uptoBulk (D i)) → (((List.range n).map f).map sz).sum ≤ Rows.uptoBulkAll ((List.range n).map D)
  | 0, _ => by simp
  | n + 1, h => by
    have ih := sum_le_bulk sz D f n (fun i hi => h i (by omega))
    rw [List.range_succ, List.map_append, List.map_append, List.sum_append_nat, List.map_append]
    have e : ∀ a b : List (DataW H), Rows.uptoBulkAll (a ++ b) = Rows.uptoBulkAll a + Rows.uptoBulkAll b := by
      intro a b
      induction a with
      | nil => simp [Rows.uptoBulkAll]
      | cons x r ih => simp only [List.cons_append, Rows.uptoBulkAll]; omega
    rw [e]
    have := h n (by omega)
    simp only [List.map_cons, List.map_nil, List.sum_cons, List.sum_nil, Rows.uptoBulkAll]
    omega
/-- A list as it is read. -/
theorem open_list {α : Type} (c : α → List Value) (z : Nat) (hz : 0 < z) (hc : ∀ x, (c x).length = z) (T E : TypeId) (hu : Tryd.prog.underlying T = some (.slice E)) (hcl : Tryd.prog.cellsOf E = z) (sz : α → Nat) (pr : α → Prop) (dflt : α)
    (open1 : ∀ (n b off : Nat) (cs : List Value) (x : DataW H × List MemPlace), w.cells? 0 ⟨b, off, none⟩ z = some cs → DataW.trod enc Tryd.prog w 0 spare held n E cs = some x → ∃ o : α, (∀ m u, (c o)[m]? = some u → w.cell? ⟨b, off + m, none⟩ = some u) ∧ sz o ≤ Rows.uptoBulk x.1 ∧ pr o)
    {fuel : Nat} {v : Value} {x : DataW H × List MemPlace} (h : DataW.trod enc Tryd.prog w 0 spare held fuel T [v] = some x) :
    ∃ l : List α, RowG c w v l ∧ l.length + 1 ≤ Rows.uptoBulk x.1 ∧ (l.map sz).sum + 1 ≤ Rows.uptoBulk x.1 ∧ ∀ x ∈ l, pr x := by
  rcases open_slice hu h with ⟨hcs, _⟩ | ⟨a, len, cap, m, n, D, Pl, hcs, _, hl, hm, hmm, hx, hel⟩
  · cases hcs
    exact ⟨[], ⟨none, 0, rfl, Nat.le_refl _, by decide, fun _ => rfl, fun h => by simp at h⟩, by have := bulk_pos x.1; simp; omega, by have := bulk_pos x.1; simp; omega, by simp⟩
  · cases hcs
    have hlm : len ≤ m := by rw [hmm]; split <;> omega
    have hxb : Rows.uptoBulk x.1 = Rows.uptoBulkAll ((List.range len).map D) + Rows.uptoBulkAll ((List.range (m - len)).map fun j => D (len + j)) + 1 := by rw [hx]; simp only [Rows.uptoBulk]
    have hlen : len + 1 ≤ Rows.uptoBulk x.1 := by
      have := bulk_len ((List.range len).map D)
      simp at this; omega
    rcases Nat.eq_zero_or_pos len with h0 | h0
    · subst h0
      exact ⟨[], ⟨some a, cap, rfl, Nat.zero_le _, hm, (fun h => by cases h), fun h => by simp at h⟩, by simpa using bulk_pos x.1, by simpa using bulk_pos x.1, by simp⟩
    · rw [hcl] at hel
      obtain ⟨b, off, spot⟩ := a
      have hs : spot = none := by
        obtain ⟨cs', h1, _⟩ := hel 0 (by omega)
        obtain ⟨_, hl1, hc1⟩ := World.cells?_some h1
        have := hc1 0 (by omega)
        rw [List.getElem?_eq_getElem (by omega)] at this
        simpa [Addr.add] using World.cell?_spot this
      subst hs
      have each : ∀ i, i < len → ∃ o : α, (∀ m u, (c o)[m]? = some u → w.cell? ⟨b, off + i * z + m, none⟩ = some u) ∧ sz o ≤ Rows.uptoBulk (D i) ∧ pr o := by
        intro i hi
        obtain ⟨cs', h1, h2⟩ := hel i (by omega)
        rw [add_offM] at h1
        obtain ⟨o, a1, a2, a3⟩ := open1 _ _ _ _ _ h1 h2
        exact ⟨o, a1, a2, a3⟩
      haveI : Inhabited α := ⟨dflt⟩
      obtain ⟨f, hf⟩ := choose_lt each
      have hgl : ((List.range len).map f).length = len := by simp
      refine ⟨(List.range len).map f, ⟨_, cap, by rw [hgl], by rw [hgl]; exact hl, hm, (fun h => by cases h), fun _ => ⟨b, off, rfl, fun j u hu => ?_⟩⟩, by rw [hgl]; exact hlen, ?_, ?_⟩
      · have hj : j < len * z := by have := (List.getElem?_eq_some_iff.1 hu).1; rwa [flatG_len c z hc, hgl] at this
        have hk : j / z < len := Nat.div_lt_of_lt_mul (by rw [Nat.mul_comm]; exact hj)
        have hmz : j % z < z := Nat.mod_lt _ hz
        have e : j = j / z * z + j % z := by have := Nat.div_add_mod j z; rw [Nat.mul_comm] at this; exact this.symm
        have hg : ((List.range len).map f)[j / z]? = some (f (j / z)) := by rw [List.getElem?_map, List.getElem?_range hk]; rfl
        have h2 := flatG_get hc ((List.range len).map f) (j / z) (j % z) _ hg hmz
        rw [← e, hu] at h2
        have h3 := (hf (j / z) hk).1 (j % z) u h2.symm
        rw [Nat.add_assoc, ← e] at h3
        exact h3
      · have := sum_le_bulk sz D f len (fun i hi => (hf i hi).2.1)
        omega
      · intro x hx
        obtain ⟨i, hi, rfl⟩ := List.mem_map.1 hx
        exact (hf i (List.mem_range.1 hi)).2.2
theorem cells_at {b off z : Nat} {cs l : List Value} (h1 : w.cells? 0 ⟨b, off, none⟩ z = some cs) (hl : cs = l) : ∀ (m : Nat) (u : Value), l[m]? = some u → w.cell? ⟨b, off + m, none⟩ = some u := by
  obtain ⟨_, hlen, hcell⟩ := World.cells?_some h1
  intro m u hu
  subst hl
  have hm : m < z := by have := (List.getElem?_eq_some_iff.1 hu).1; omega
  have := hcell m hm
  rw [add_offM] at this
  rw [this]; exact hu
theorem cellsSp : Tryd.prog.cellsOf 24 = 2 := by kernel_rfl
theorem open_specs {fuel : Nat} {v : Value} {x : DataW H × List MemPlace} (h : DataW.trod enc Tryd.prog w 0 spare held fuel 22 [v] = some x) : ∃ l : List Sp, RowG enL w v l ∧ (l.map fun s => s.1.size + 1).sum + 1 ≤ Rows.uptoBulk x.1 ∧ l.length + 1 ≤ Rows.uptoBulk x.1 := by
  obtain ⟨l, h1, h2, h3, _⟩ := open_list enL 2 (by decide) enL_len 22 24 Tryd.underlying22 cellsSp (fun s => s.1.size + 1) (fun _ => True) (⟨#[]⟩, 0) (fun n b off cs x h1 h2 => by
    obtain ⟨_, hlen, _⟩ := World.cells?_some h1
    obtain ⟨u0, u1, rfl⟩ := len2 hlen
    obtain ⟨xs, m, _, hx, _, hxl, hf⟩ := DataW.trod_struct Tryd.underlying24 h2
    obtain ⟨y0, y1, rfl⟩ := len2 hxl
    have g0 : DataW.trod enc Tryd.prog w 0 spare held m 9 [u0] = some y0 := by simpa [cellsS] using hf 0 _ rfl
    have g1 : DataW.trod enc Tryd.prog w 0 spare held m 3 [u1] = some y1 := by simpa [cellsS, cellsI] using hf 1 _ rfl
    obtain ⟨k0, e0, z0, _⟩ := DataW.trod_string Tryd.underlying9 g0
    obtain ⟨k1, e1, _⟩ := DataW.trod_int Tryd.underlying3 g1
    cases e0; cases e1
    refine ⟨(k0, k1), cells_at h1 rfl, ?_, trivial⟩
    have hbx : Rows.uptoBulk y0.1 + 1 ≤ Rows.uptoBulk x.1 := by
      rw [hx]
      simp only [Rows.uptoBulk, List.map_cons, List.map_nil, Rows.uptoBulkAll]
      omega
    have hs0 : k0.size ≤ Rows.uptoBulk y0.1 := by
      rw [z0]
      simp only [Rows.uptoBulk, Array.length_toList]
      show k0.data.size ≤ _
      omega
    show k0.size + 1 ≤ _
    omega) h
  exact ⟨l, h1, h3, h2⟩
end
end Go.Proofs.YtmlnnbinbbmmhaaDoor
