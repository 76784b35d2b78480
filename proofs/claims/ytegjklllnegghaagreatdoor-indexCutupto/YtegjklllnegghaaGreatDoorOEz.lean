import Derived.Test.YtegjklllnegghaaGreatDoorENz
import Derived.Test.YtegjklllnegghaaGreatDoorRows
import Derived.WalkKit
import Derived.Deep.Slices
import Derived.ChangeSlices

-- A list of entries as it is read.
namespace Go.Proofs.YtegjklllnegghaaGreatDoor
open Go.RowKit Go.ChangeShapes Go.Deep
set_option linter.unusedVariables false
set_option maxRecDepth 100000
theorem bulk_appE {H : Type} (l r : List (DataW H)) : Rows.uptoBulkAll (l ++ r) = Rows.uptoBulkAll l + Rows.uptoBulkAll r := by
  induction l with
  | nil => simp [Rows.uptoBulkAll]
  | cons x l ih => simp only [List.cons_append, Rows.uptoBulkAll, ih]; omega
theorem bulk_posE {H : Type} (d : DataW H) : 1 ≤ Rows.uptoBulk d := by
  cases d with
  | lit l => cases l <;> simp [Rows.uptoBulk]
  | _ => simp [Rows.uptoBulk]
theorem bulk_lenE {H : Type} (l : List (DataW H)) : l.length ≤ Rows.uptoBulkAll l := by
  induction l with
  | nil => simp [Rows.uptoBulkAll]
  | cons x r ih => simp only [Rows.uptoBulkAll, List.length_cons]; have := bulk_posE x; omega
theorem cellsIE : Tryz.prog.cellsOf 3 = 1 := by kernel_rfl
theorem cellsSE : Tryz.prog.cellsOf 9 = 1 := by kernel_rfl
theorem cellsEE : Tryz.prog.cellsOf 33 = 2 := by kernel_rfl
theorem add_offE (b off k : Nat) : (⟨b, off, none⟩ : Addr).add k = ⟨b, off + k, none⟩ := by unfold Addr.add; split <;> simp_all
theorem len2E {α : Type} {l : List α} (h : l.length = 2) : ∃ a b, l = [a, b] := by
  match l, h with
  | [a, b], _ => exact ⟨a, b, rfl⟩
def EnAt (w : World) (b off : Nat) (x : En) : Prop := w.cell? ⟨b, off, none⟩ = some (.string x.name) ∧ w.cell? ⟨b, off + 1, none⟩ = some (.int .i64 x.pl)
section
variable {H : Type} {enc : TypeId × Value → H} {w : World} {spare : Nat → Bool} {held : Bool}
/-- One entry as it is read. -/
theorem open_entry {n : Nat} {b off : Nat} {cs : List Value} {x : DataW H × List MemPlace} (h1 : w.cells? 0 ⟨b, off, none⟩ 2 = some cs) (h : DataW.trod enc Tryz.prog w 0 spare held n 33 cs = some x) :
    ∃ o : En, EnAt w b off o ∧ o.name.size + 1 ≤ Rows.uptoBulk x.1 := by
  obtain ⟨_, hlen, hcell⟩ := World.cells?_some h1
  obtain ⟨xs, m, rfl, hx, _, hxl, hf⟩ := DataW.trod_struct Tryz.underlying33 h
  obtain ⟨y0, y1, rfl⟩ := len2E hxl
  obtain ⟨v0, v1, rfl⟩ := len2E hlen
  have g0 : DataW.trod enc Tryz.prog w 0 spare held m 9 [v0] = some y0 := by simpa [cellsSE] using hf 0 _ rfl
  have g1 : DataW.trod enc Tryz.prog w 0 spare held m 3 [v1] = some y1 := by simpa [cellsSE, cellsIE] using hf 1 _ rfl
  obtain ⟨s0, e0, z0, _⟩ := DataW.trod_string Tryz.underlying9 g0
  obtain ⟨k1, e1, _, _⟩ := DataW.trod_int Tryz.underlying3 g1
  cases e0; cases e1
  have cell : ∀ i v, [Value.string s0, .int .i64 k1][i]? = some v → w.cell? ⟨b, off + i, none⟩ = some v := fun i v hv => by
    have hi : i < 2 := by
      rcases Nat.lt_or_ge i 2 with h' | h'
      · exact h'
      · rw [List.getElem?_eq_none (by simpa using h')] at hv; cases hv
    have := hcell i hi
    rw [add_offE] at this
    rw [this]; exact hv
  have hbx : Rows.uptoBulk y0.1 + 1 ≤ Rows.uptoBulk x.1 := by
    rw [hx]
    simp only [Rows.uptoBulk, List.map_cons, List.map_nil, Rows.uptoBulkAll]
    omega
  have hs0 : s0.size ≤ Rows.uptoBulk y0.1 := by
    rw [z0]
    simp only [Rows.uptoBulk, Array.length_toList]
    show s0.data.size ≤ _
    omega
  exact ⟨⟨s0, k1⟩, ⟨cell 0 _ rfl, cell 1 _ rfl⟩, by show s0.size + 1 ≤ _; omega⟩
theorem tot_rangeE (f : Nat → En) (D : Nat → DataW H) : ∀ n, (∀ i, i < n → (f i).name.size + 1 ≤ Rows.uptoBulk (D i)) → totN (((List.range n).map f).map En.name) ≤ Rows.uptoBulkAll ((List.range n).map D)
  | 0, _ => by simp [totN]
  | n + 1, h => by
    have ih := tot_rangeE f D n (fun i hi => h i (by omega))
    rw [List.range_succ, List.map_append, List.map_append, List.map_append, totN_append, bulk_appE]
    have hn := h n (by omega)
    simp only [List.map_cons, List.map_nil, totN, Rows.uptoBulkAll]; omega
/-- A list of entries as it is read. -/
theorem open_entries {fuel : Nat} {v : Value} {x : DataW H × List MemPlace} (h : DataW.trod enc Tryz.prog w 0 spare held fuel 22 [v] = some x) (hB : Rows.uptoBulk x.1 ≤ 1048576) :
    ∃ l : List En, RowE w v l ∧ totN (l.map En.name) ≤ 1048576 ∧ ∃ ao c, v = .slice ao l.length c ∧ l.length ≤ c ∧ (ao = none → l = []) := by
  rcases open_slice Tryz.underlying22 h with ⟨hcs, _⟩ | ⟨a, len, cap, m, n, D, Pl, hcs, _, hl, hm, hmm, hx, hel⟩
  · cases hcs
    exact ⟨[], .inl ⟨rfl, _, _, rfl⟩, by simp [totN], none, 0, rfl, Nat.le_refl _, fun _ => rfl⟩
  · cases hcs
    have hlm : len ≤ m := by rw [hmm]; split <;> omega
    have hxb : Rows.uptoBulk x.1 = Rows.uptoBulkAll ((List.range len).map D) + Rows.uptoBulkAll ((List.range (m - len)).map fun j => D (len + j)) + 1 := by rw [hx]; simp only [Rows.uptoBulk]
    rcases Nat.eq_zero_or_pos len with h0 | h0
    · subst h0
      exact ⟨[], .inl ⟨rfl, _, _, rfl⟩, by simp [totN], _, _, rfl, Nat.zero_le _, fun _ => rfl⟩
    · rw [cellsEE] at hel
      obtain ⟨b, off, spot⟩ := a
      have hs : spot = none := by
        obtain ⟨cs', h1, _⟩ := hel 0 (by omega)
        obtain ⟨_, hl1, hc1⟩ := World.cells?_some h1
        have := hc1 0 (by omega)
        rw [List.getElem?_eq_getElem (by omega)] at this
        simpa [Addr.add] using World.cell?_spot this
      subst hs
      have each : ∀ i, i < len → ∃ o : En, EnAt w b (off + i * 2) o ∧ o.name.size + 1 ≤ Rows.uptoBulk (D i) := by
        intro i hi
        obtain ⟨cs', h1, h2⟩ := hel i (by omega)
        rw [add_offE] at h1
        exact open_entry h1 h2
      haveI : Inhabited En := ⟨⟨⟨#[]⟩, 0⟩⟩
      obtain ⟨f, hf⟩ := choose_lt each
      have hg : ∀ (j : Nat) (o : En), ((List.range len).map f)[j]? = some o → j < len ∧ o = f j := by
        intro j o hj
        rw [List.getElem?_map] at hj
        rcases Nat.lt_or_ge j len with h' | h'
        · rw [List.getElem?_range h'] at hj; cases hj; exact ⟨h', rfl⟩
        · rw [List.getElem?_eq_none (by simpa using h')] at hj; cases hj
      have ht := tot_rangeE f D len (fun i hi => (hf i hi).2)
      refine ⟨(List.range len).map f, .inr ⟨b, off, cap, by simp, fun j o hj => ?_⟩, by omega, _, cap, by simp; rfl, by simpa using hl, fun e => by cases e⟩
      obtain ⟨hj', rfl⟩ := hg j o hj
      have := (hf j hj').1
      rw [Nat.mul_comm] at this
      exact this
end
end Go.Proofs.YtegjklllnegghaaGreatDoor
