
-- Lists of members and of texts as they are read.
import Derived.Test.YtaaagdmhokgcjaaA0
import Derived.Test.YtaaagdmhokgcjaaRows
import Derived.WalkKit
import Derived.Deep.Slices
import Derived.ChangeSlices
import Derived.ProofKit
import Derived.OpenShut
import Derived.ChangeArms
namespace Go.Proofs.Ytaaagdmhokgcjaa
open Go.RowKit Go.ChangeShapes Go.Deep
set_option linter.unusedVariables false
set_option maxRecDepth 100000
theorem bulk_memM {H : Type} (l : List (DataW H)) (d : DataW H) (h : d ∈ l) : Rows.uptoBulk d ≤ Rows.uptoBulkAll l := by
  induction l with
  | nil => simp at h
  | cons x r ih =>
    simp only [Rows.uptoBulkAll]
    rcases List.mem_cons.1 h with rfl | h
    · omega
    · have := ih h; omega
theorem bulk_posM {H : Type} (d : DataW H) : 1 ≤ Rows.uptoBulk d := by
  cases d with
  | lit l => cases l <;> simp [Rows.uptoBulk]
  | _ => simp [Rows.uptoBulk]
theorem bulk_lenM {H : Type} (l : List (DataW H)) : l.length ≤ Rows.uptoBulkAll l := by
  induction l with
  | nil => simp [Rows.uptoBulkAll]
  | cons x r ih => simp only [Rows.uptoBulkAll, List.length_cons]; have := bulk_posM x; omega
theorem cellsIM : Try.prog.cellsOf 3 = 1 := by kernel_rfl
theorem cellsSM : Try.prog.cellsOf 9 = 1 := by kernel_rfl
theorem cellsMM : Try.prog.cellsOf 30 = 4 := by kernel_rfl
theorem cellsMb : Try.prog.cellsOf 32 = 7 := by kernel_rfl
theorem add_offM (b off k : Nat) : (⟨b, off, none⟩ : Addr).add k = ⟨b, off + k, none⟩ := by unfold Addr.add; split <;> simp_all
theorem len4M {α : Type} {l : List α} (h : l.length = 4) : ∃ a b c d, l = [a, b, c, d] := by
  match l, h with
  | [a, b, c, d], _ => exact ⟨a, b, c, d, rfl⟩
theorem len7M {α : Type} {l : List α} (h : l.length = 7) : ∃ a b c d e f g, l = [a, b, c, d, e, f, g] := by
  match l, h with
  | [a, b, c, d, e, f, g], _ => exact ⟨a, b, c, d, e, f, g, rfl⟩
section
variable {H : Type} {enc : TypeId × Value → H} {w : World} {spare : Nat → Bool} {held : Bool}
/-- One member as it is read. -/
theorem open_member {n : Nat} {b off : Nat} {cs : List Value} {x : DataW H × List MemPlace} (h1 : w.cells? 0 ⟨b, off, none⟩ 7 = some cs) (h : DataW.trod enc Try.prog w 0 spare held n 32 cs = some x) :
    ∃ o : Mx, (∀ m u, (mxL o)[m]? = some u → w.cell? ⟨b, off + m, none⟩ = some u) ∧ o.dt.size ≤ Rows.uptoBulk x.1 ∧ o.n.size ≤ Rows.uptoBulk x.1 := by
  obtain ⟨_, hlen, hcell⟩ := World.cells?_some h1
  obtain ⟨xs, m, rfl, hx, _, hxl, hf⟩ := DataW.trod_struct Try.underlying32 h
  obtain ⟨y0, y1, y2, y3, rfl⟩ := len4M hxl
  obtain ⟨v0, v1, v2, v3, v4, v5, v6, rfl⟩ := len7M hlen
  have g0 : DataW.trod enc Try.prog w 0 spare held m 30 [v0, v1, v2, v3] = some y0 := by simpa [cellsMM] using hf 0 _ rfl
  have g1 : DataW.trod enc Try.prog w 0 spare held m 9 [v4] = some y1 := by simpa [cellsMM, cellsSM] using hf 1 _ rfl
  have g2 : DataW.trod enc Try.prog w 0 spare held m 3 [v5] = some y2 := by simpa [cellsMM, cellsSM, cellsIM] using hf 2 _ rfl
  have g3 : DataW.trod enc Try.prog w 0 spare held m 9 [v6] = some y3 := by simpa [cellsMM, cellsSM, cellsIM] using hf 3 _ rfl
  obtain ⟨s4, e4, z4, _⟩ := DataW.trod_string Try.underlying9 g1
  obtain ⟨k5, e5, _, _⟩ := DataW.trod_int Try.underlying3 g2
  obtain ⟨s6, e6, z6, _⟩ := DataW.trod_string Try.underlying9 g3
  obtain ⟨ms, m', _, _, _, hml, hmf⟩ := DataW.trod_struct Try.underlying30 g0
  obtain ⟨p0, p1, p2, p3, rfl⟩ := len4M hml
  have q0 : DataW.trod enc Try.prog w 0 spare held m' 3 [v0] = some p0 := by simpa [cellsIM] using hmf 0 _ rfl
  have q1 : DataW.trod enc Try.prog w 0 spare held m' 3 [v1] = some p1 := by simpa [cellsIM] using hmf 1 _ rfl
  have q2 : DataW.trod enc Try.prog w 0 spare held m' 3 [v2] = some p2 := by simpa [cellsIM] using hmf 2 _ rfl
  have q3 : DataW.trod enc Try.prog w 0 spare held m' 3 [v3] = some p3 := by simpa [cellsIM] using hmf 3 _ rfl
  obtain ⟨k0, e0, _, _⟩ := DataW.trod_int Try.underlying3 q0
  obtain ⟨k1, e1, _, _⟩ := DataW.trod_int Try.underlying3 q1
  obtain ⟨k2, e2, _, _⟩ := DataW.trod_int Try.underlying3 q2
  obtain ⟨k3, e3, _, _⟩ := DataW.trod_int Try.underlying3 q3
  cases e0; cases e1; cases e2; cases e3; cases e4; cases e5; cases e6
  have cell : ∀ i v, [Value.int .i64 k0, .int .i64 k1, .int .i64 k2, .int .i64 k3, .string s4, .int .i64 k5, .string s6][i]? = some v → w.cell? ⟨b, off + i, none⟩ = some v := fun i v hv => by
    have hi : i < 7 := by
      rcases Nat.lt_or_ge i 7 with h' | h'
      · exact h'
      · rw [List.getElem?_eq_none (by simpa using h')] at hv; cases hv
    have := hcell i hi
    rw [add_offM] at this
    rw [this]; exact hv
  have hbx : Rows.uptoBulk y1.1 ≤ Rows.uptoBulk x.1 ∧ Rows.uptoBulk y3.1 ≤ Rows.uptoBulk x.1 := by
    rw [hx]
    simp only [Rows.uptoBulk, List.map_cons, List.map_nil, Rows.uptoBulkAll]
    omega
  have hs4 : s4.size ≤ Rows.uptoBulk y1.1 := by
    rw [z4]
    simp only [Rows.uptoBulk, Array.length_toList]
    show s4.data.size ≤ _
    omega
  have hs6 : s6.size ≤ Rows.uptoBulk y3.1 := by
    rw [z6]
    simp only [Rows.uptoBulk, Array.length_toList]
    show s6.data.size ≤ _
    omega
  exact ⟨⟨k0, k1, k2, k3, s4, k5, s6⟩, fun m u hu => cell m u hu, by have := hbx.2; show s6.size ≤ _; omega, by have := hbx.1; show s4.size ≤ _; omega⟩
/-- A list of members as it is read. -/
theorem open_members {fuel : Nat} {v : Value} {x : DataW H × List MemPlace} (h : DataW.trod enc Try.prog w 0 spare held fuel 22 [v] = some x) (hB : Rows.uptoBulk x.1 ≤ 1048576) :
    ∃ l : List Mx, RowM w v l ∧ l.length ≤ 1048576 := by
  rcases open_slice Try.underlying22 h with ⟨hcs, _⟩ | ⟨a, len, cap, m, n, D, Pl, hcs, _, hl, hm, hmm, hx, hel⟩
  · cases hcs
    exact ⟨[], ⟨none, 0, rfl, Nat.le_refl _, by decide, fun _ => rfl, fun h => by simp at h⟩, by simp⟩
  · cases hcs
    have hlm : len ≤ m := by rw [hmm]; split <;> omega
    have hxb : Rows.uptoBulk x.1 = Rows.uptoBulkAll ((List.range len).map D) + Rows.uptoBulkAll ((List.range (m - len)).map fun j => D (len + j)) + 1 := by rw [hx]; simp only [Rows.uptoBulk]
    have hlen : len ≤ 1048576 := by
      have := bulk_lenM ((List.range len).map D)
      simp at this; omega
    rcases Nat.eq_zero_or_pos len with h0 | h0
    · subst h0
      exact ⟨[], ⟨some a, cap, rfl, Nat.zero_le _, hm, (fun h => by cases h), fun h => by simp at h⟩, by simp⟩
    · rw [cellsMb] at hel
      obtain ⟨b, off, spot⟩ := a
      have hs : spot = none := by
        obtain ⟨cs', h1, _⟩ := hel 0 (by omega)
        obtain ⟨_, hl1, hc1⟩ := World.cells?_some h1
        have := hc1 0 (by omega)
        rw [List.getElem?_eq_getElem (by omega)] at this
        simpa [Addr.add] using World.cell?_spot this
      subst hs
      have each : ∀ i, i < len → ∃ o : Mx, ∀ m u, (mxL o)[m]? = some u → w.cell? ⟨b, off + i * 7 + m, none⟩ = some u := by
        intro i hi
        obtain ⟨cs', h1, h2⟩ := hel i (by omega)
        rw [add_offM] at h1
        obtain ⟨o, a1, a2, a3⟩ := open_member h1 h2
        exact ⟨o, a1⟩
      haveI : Inhabited Mx := ⟨⟨0, 0, 0, 0, ⟨#[]⟩, 0, ⟨#[]⟩⟩⟩
      obtain ⟨f, hf⟩ := choose_lt each
      have hgl : ((List.range len).map f).length = len := by simp
      refine ⟨(List.range len).map f, ⟨_, cap, by rw [hgl], by rw [hgl]; exact hl, hm, (fun h => by cases h), fun _ => ⟨b, off, rfl, fun j u hu => ?_⟩⟩, by rw [hgl]; exact hlen⟩
      have hj : j < len * 7 := by have := (List.getElem?_eq_some_iff.1 hu).1; rwa [flatG_len mxL 7 mxL_len, hgl] at this
      have hk : j / 7 < len := by omega
      have e : j = j / 7 * 7 + j % 7 := by omega
      have hg : ((List.range len).map f)[j / 7]? = some (f (j / 7)) := by rw [List.getElem?_map, List.getElem?_range hk]; rfl
      have h2 := flatG_get mxL_len ((List.range len).map f) (j / 7) (j % 7) _ hg (by omega)
      rw [← e, hu] at h2
      have h3 := hf (j / 7) hk (j % 7) u h2.symm
      rw [show off + j / 7 * 7 + j % 7 = off + j by omega] at h3
      exact h3
/-- A list of texts as it is read. -/
theorem open_texts {fuel : Nat} {v : Value} {x : DataW H × List MemPlace} (h : DataW.trod enc Try.prog w 0 spare held fuel 23 [v] = some x) (hB : Rows.uptoBulk x.1 ≤ 1048576) :
    ∃ l : List ByteArray, RowT w v l ∧ l.length ≤ 1048576 := by
  rcases open_slice1 Try.underlying23 cellsSM h with ⟨hcs, _⟩ | ⟨a, len, cap, m, n, V, D, Pl, hcs, _, hl, hm, hmm, hx, hel⟩
  · cases hcs
    exact ⟨[], ⟨none, 0, rfl, Nat.le_refl _, by decide, fun _ => rfl, fun h => by simp at h⟩, by simp⟩
  · cases hcs
    have hlm : len ≤ m := by rw [hmm]; split <;> omega
    have hxb : Rows.uptoBulk x.1 = Rows.uptoBulkAll ((List.range len).map D) + Rows.uptoBulkAll ((List.range (m - len)).map fun j => D (len + j)) + 1 := by rw [hx]; simp only [Rows.uptoBulk]
    have hlen : len ≤ 1048576 := by
      have := bulk_lenM ((List.range len).map D)
      simp at this; omega
    rcases Nat.eq_zero_or_pos len with h0 | h0
    · subst h0
      exact ⟨[], ⟨some a, cap, rfl, Nat.zero_le _, hm, (fun h => by cases h), fun h => by simp at h⟩, by simp⟩
    · obtain ⟨b, off, spot⟩ := a
      have hs : spot = none := by
        obtain ⟨h1, _⟩ := hel 0 (by omega)
        simpa [Addr.add] using World.cell?_spot h1
      subst hs
      have each : ∀ i, i < len → ∃ o : ByteArray, w.cell? ⟨b, off + i, none⟩ = some (.string o) := by
        intro i hi
        obtain ⟨h1, h2⟩ := hel i (by omega)
        obtain ⟨s, e4, _, _⟩ := DataW.trod_string Try.underlying9 h2
        injection e4 with e4 _
        rw [add_offM, e4] at h1
        exact ⟨s, h1⟩
      haveI : Inhabited ByteArray := ⟨⟨#[]⟩⟩
      obtain ⟨f, hf⟩ := choose_lt each
      have hgl : ((List.range len).map f).length = len := by simp
      refine ⟨(List.range len).map f, ⟨_, cap, by rw [hgl], by rw [hgl]; exact hl, hm, (fun h => by cases h), fun _ => ⟨b, off, rfl, fun j u hu => ?_⟩⟩, by rw [hgl]; exact hlen⟩
      have hj : j < len := by have := (List.getElem?_eq_some_iff.1 hu).1; rwa [flatG_len txL 1 txL_len, hgl, Nat.mul_one] at this
      have hg : ((List.range len).map f)[j]? = some (f j) := by rw [List.getElem?_map, List.getElem?_range hj]; rfl
      have h2 := flatG_get txL_len ((List.range len).map f) j 0 _ hg (by omega)
      rw [Nat.mul_one, Nat.add_zero, hu] at h2
      have h3 : u = .string (f j) := by simpa [txL] using h2
      rw [h3]; exact hf j hj
end
section
variable {H : Type} {enc : TypeId × Value → H} {w : World}
theorem len2M {α : Type} {l : List α} (h : l.length = 2) : ∃ a b, l = [a, b] := by
  match l, h with
  | [a, b], _ => exact ⟨a, b, rfl⟩
theorem open_pos {cs : Array Value} {d : DataW H} {p : List MemPlace} (h : DataW.Trod enc Try.prog w 0 (fun _ => true) true 39 (.agg cs) d p) :
    ∃ (a : Int) (s : ByteArray), cs = #[.int .i64 a, .string s] := by
  obtain ⟨fuel, h⟩ := h
  obtain ⟨xs, m, rfl, hx, hl, hxl, hf⟩ := DataW.trod_struct Try.underlying39 h
  rw [show Try.prog.cellsOf 39 = 2 from by kernel_rfl] at hl
  obtain ⟨y0, y1, rfl⟩ := len2M hxl
  obtain ⟨v0, v1, hv⟩ := len2M hl
  have hv' : cs.toList = [v0, v1] := hv
  rw [hv] at hf
  have g0 : DataW.trod enc Try.prog w 0 (fun _ => true) true m 3 [v0] = some y0 := by simpa [cellsIM] using hf 0 _ rfl
  have g1 : DataW.trod enc Try.prog w 0 (fun _ => true) true m 9 [v1] = some y1 := by simpa [cellsIM, cellsSM] using hf 1 _ rfl
  obtain ⟨k0, e0, _, _⟩ := DataW.trod_int Try.underlying3 g0
  obtain ⟨s1, e1, _, _⟩ := DataW.trod_string Try.underlying9 g1
  cases e0; cases e1
  refine ⟨k0, s1, ?_⟩
  have h := congrArg List.toArray hv'
  rw [Array.toArray_toList] at h
  exact h
theorem open_meta {cs : Array Value} {d : DataW H} {p : List MemPlace} (h : DataW.Trod enc Try.prog w 0 (fun _ => true) true 30 (.agg cs) d p) :
    ∃ (a b c d : Int), cs = #[.int .i64 a, .int .i64 b, .int .i64 c, .int .i64 d] := by
  obtain ⟨fuel, h⟩ := h
  obtain ⟨xs, m, rfl, hx, hl, hxl, hf⟩ := DataW.trod_struct Try.underlying30 h
  rw [cellsMM] at hl
  obtain ⟨y0, y1, y2, y3, rfl⟩ := len4M hxl
  obtain ⟨v0, v1, v2, v3, hv⟩ := len4M hl
  have hv' : cs.toList = [v0, v1, v2, v3] := hv
  rw [hv] at hf
  have g0 : DataW.trod enc Try.prog w 0 (fun _ => true) true m 3 [v0] = some y0 := by simpa [cellsIM] using hf 0 _ rfl
  have g1 : DataW.trod enc Try.prog w 0 (fun _ => true) true m 3 [v1] = some y1 := by simpa [cellsIM] using hf 1 _ rfl
  have g2 : DataW.trod enc Try.prog w 0 (fun _ => true) true m 3 [v2] = some y2 := by simpa [cellsIM] using hf 2 _ rfl
  have g3 : DataW.trod enc Try.prog w 0 (fun _ => true) true m 3 [v3] = some y3 := by simpa [cellsIM] using hf 3 _ rfl
  obtain ⟨k0, e0, _, _⟩ := DataW.trod_int Try.underlying3 g0
  obtain ⟨k1, e1, _, _⟩ := DataW.trod_int Try.underlying3 g1
  obtain ⟨k2, e2, _, _⟩ := DataW.trod_int Try.underlying3 g2
  obtain ⟨k3, e3, _, _⟩ := DataW.trod_int Try.underlying3 g3
  cases e0; cases e1; cases e2; cases e3
  refine ⟨k0, k1, k2, k3, ?_⟩
  have h := congrArg List.toArray hv'
  rw [Array.toArray_toList] at h
  exact h
end
end Go.Proofs.Ytaaagdmhokgcjaa
