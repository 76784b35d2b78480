
-- Lists of files as they are read.
import Derived.Test.YtbbblncoicjacaaGreatDoorE8
import Derived.Test.YtbbblncoicjacaaGreatDoorFA
import Derived.ProofKit
import Derived.OpenShut
import Derived.ChangeArms
namespace Go.Proofs.YtbbblncoicjacaaGreatDoor
open Go.RowKit Go.ChangeShapes Go.Deep
set_option linter.unusedVariables false
theorem cellsFil : Tryz.prog.cellsOf 26 = 6 := by kernel_rfl
theorem add_offM (b off k : Nat) : (⟨b, off, none⟩ : Addr).add k = ⟨b, off + k, none⟩ := by unfold Addr.add; split <;> simp_all
theorem bulk_memM {H : Type} (l : List (DataW H)) (d : DataW H) (h : d ∈ l) : Rows.uptoBulk d ≤ Rows.uptoBulkAll l := bulk_mem l d h
theorem bulk_lenM {H : Type} (l : List (DataW H)) : l.length ≤ Rows.uptoBulkAll l := bulk_len l
theorem len4F {α : Type} {l : List α} (h : l.length = 4) : ∃ a b c d, l = [a, b, c, d] := by
  match l, h with
  | [a, b, c, d], _ => exact ⟨a, b, c, d, rfl⟩
theorem len6F {α : Type} {l : List α} (h : l.length = 6) : ∃ a b c d e f, l = [a, b, c, d, e, f] := by
  match l, h with
  | [a, b, c, d, e, f], _ => exact ⟨a, b, c, d, e, f, rfl⟩
section
variable {H : Type} {enc : TypeId × Value → H} {w : World} {spare : Nat → Bool} {held : Bool}
/-- The cells of one file as it is read. -/
theorem open_filC {n : Nat} {cs : List Value} {x : DataW H × List MemPlace} (hlen : cs.length = 6) (h : DataW.trod enc Tryz.prog w 0 spare held n 26 cs = some x) :
    ∃ o : Fil, cs = filL o ∧ o.1.size + o.2.2.size + 4 ≤ Rows.uptoBulk x.1 := by
  obtain ⟨xs, m, rfl, hx, _, hxl, hf⟩ := DataW.trod_struct Tryz.underlying26 h
  obtain ⟨y0, y1, y2, rfl⟩ := len3 hxl
  obtain ⟨v0, v1, v2, v3, v4, v5, rfl⟩ := len6F hlen
  have g0 : DataW.trod enc Tryz.prog w 0 spare held m 9 [v0] = some y0 := by simpa [cellsS] using hf 0 _ rfl
  have g1 : DataW.trod enc Tryz.prog w 0 spare held m 24 [v1, v2, v3, v4] = some y1 := by simpa [cellsM, cellsS] using hf 1 _ rfl
  have g2 : DataW.trod enc Tryz.prog w 0 spare held m 9 [v5] = some y2 := by simpa [cellsM, cellsS] using hf 2 _ rfl
  obtain ⟨s0, e0, z0, _⟩ := DataW.trod_string Tryz.underlying9 g0
  obtain ⟨s5, e5, z5, _⟩ := DataW.trod_string Tryz.underlying9 g2
  obtain ⟨ms, m', _, hmx, _, hml, hmf⟩ := DataW.trod_struct Tryz.underlying24 g1
  obtain ⟨p0, p1, p2, p3, rfl⟩ := len4F hml
  have q0 : DataW.trod enc Tryz.prog w 0 spare held m' 3 [v1] = some p0 := by simpa [cellsI] using hmf 0 _ rfl
  have q1 : DataW.trod enc Tryz.prog w 0 spare held m' 3 [v2] = some p1 := by simpa [cellsI] using hmf 1 _ rfl
  have q2 : DataW.trod enc Tryz.prog w 0 spare held m' 3 [v3] = some p2 := by simpa [cellsI] using hmf 2 _ rfl
  have q3 : DataW.trod enc Tryz.prog w 0 spare held m' 3 [v4] = some p3 := by simpa [cellsI] using hmf 3 _ rfl
  obtain ⟨k0, e1, _, _⟩ := DataW.trod_int Tryz.underlying3 q0
  obtain ⟨k1, e2, _, _⟩ := DataW.trod_int Tryz.underlying3 q1
  obtain ⟨k2, e3, _, _⟩ := DataW.trod_int Tryz.underlying3 q2
  obtain ⟨k3, e4, _, _⟩ := DataW.trod_int Tryz.underlying3 q3
  cases e0; cases e1; cases e2; cases e3; cases e4; cases e5
  refine ⟨(s0, (k0, k1, k2, k3), s5), rfl, ?_⟩
  have hbx : Rows.uptoBulk y0.1 + Rows.uptoBulk y1.1 + Rows.uptoBulk y2.1 ≤ Rows.uptoBulk x.1 := by
    rw [hx]
    simp only [Rows.uptoBulk, List.map_cons, List.map_nil, Rows.uptoBulkAll]
    omega
  have hm4 : 4 ≤ Rows.uptoBulk y1.1 := by
    rw [hmx]
    have := bulk_pos p0.1
    have := bulk_pos p1.1
    have := bulk_pos p2.1
    have := bulk_pos p3.1
    simp only [Rows.uptoBulk, List.map_cons, List.map_nil, Rows.uptoBulkAll]
    omega
  have hs0 : s0.size ≤ Rows.uptoBulk y0.1 := by
    rw [z0]
    simp only [Rows.uptoBulk, Array.length_toList]
    show s0.data.size ≤ _
    omega
  have hs5 : s5.size ≤ Rows.uptoBulk y2.1 := by
    rw [z5]
    simp only [Rows.uptoBulk, Array.length_toList]
    show s5.data.size ≤ _
    omega
  show s0.size + s5.size + 4 ≤ _
  omega
theorem open_file {n : Nat} {b off : Nat} {cs : List Value} {x : DataW H × List MemPlace} (h1 : w.cells? 0 ⟨b, off, none⟩ 6 = some cs) (h : DataW.trod enc Tryz.prog w 0 spare held n 26 cs = some x) :
    ∃ o : Fil, (∀ m u, (filL o)[m]? = some u → w.cell? ⟨b, off + m, none⟩ = some u) ∧ o.1.size + o.2.2.size + 4 ≤ Rows.uptoBulk x.1 ∧ True := by
  obtain ⟨_, hlen, hcell⟩ := World.cells?_some h1
  obtain ⟨o, rfl, hs⟩ := open_filC hlen h
  refine ⟨o, fun i u hu => ?_, hs, trivial⟩
  have hi : i < 6 := by
    rcases Nat.lt_or_ge i 6 with h' | h'
    · exact h'
    · rw [List.getElem?_eq_none (by simpa [filL] using h')] at hu; cases hu
  have := hcell i hi
  rw [add_offM] at this
  rw [this]; exact hu
theorem sum_le_bulk {α : Type} (sz : α → Nat) (D : Nat → DataW H) (f : Nat → α) : ∀ n, (∀ i, i < n → sz (f i) ≤ Rows.uptoBulk (D i)) → (((List.range n).map f).map sz).sum ≤ Rows.uptoBulkAll ((List.range n).map D)
  | 0, _ => by simp
  | n + 1, h => by
    have ih := sum_le_bulk sz D f n (fun i hi => h i (by omega))
    rw [List.range_succ, List.map_append, List.map_append, List.sum_append_nat, List.map_append]
    have e : ∀ a b : List (DataW H), Rows.uptoBulkAll (a ++ b) = Rows.uptoBulkAll a + Rows.uptoBulkAll b := by
      intro a b
      induction a with
      | nil => simp [Rows.uptoBulkAll]
      | cons x r ih => simp only [List.cons_append, Rows.uptoBulkAll]; omega
    rw [e]
    have := h n (by omega)
    simp only [List.map_cons, List.map_nil, List.sum_cons, List.sum_nil, Rows.uptoBulkAll]
    omega
/-- A list as it is read. -/
theorem open_list {α : Type} (c : α → List Value) (z : Nat) (hz : 0 < z) (hc : ∀ x, (c x).length = z) (T E : TypeId) (hu : Tryz.prog.underlying T = some (.slice E)) (hcl : Tryz.prog.cellsOf E = z) (sz : α → Nat) (pr : α → Prop) (dflt : α)
    (open1 : ∀ (n b off : Nat) (cs : List Value) (x : DataW H × List MemPlace), w.cells? 0 ⟨b, off, none⟩ z = some cs → DataW.trod enc Tryz.prog w 0 spare held n E cs = some x → ∃ o : α, (∀ m u, (c o)[m]? = some u → w.cell? ⟨b, off + m, none⟩ = some u) ∧ sz o ≤ Rows.uptoBulk x.1 ∧ pr o)
    {fuel : Nat} {v : Value} {x : DataW H × List MemPlace} (h : DataW.trod enc Tryz.prog w 0 spare held fuel T [v] = some x) (hB : Rows.uptoBulk x.1 ≤ 1048576) :
    ∃ l : List α, RowG c w v l ∧ l.length ≤ 1048576 ∧ (l.map sz).sum ≤ 1048576 ∧ ∀ x ∈ l, pr x := by
  rcases open_slice hu h with ⟨hcs, _⟩ | ⟨a, len, cap, m, n, D, Pl, hcs, _, hl, hm, hmm, hx, hel⟩
  · cases hcs
    exact ⟨[], ⟨none, 0, rfl, Nat.le_refl _, by decide, fun _ => rfl, fun h => by simp at h⟩, by simp, by simp, by simp⟩
  · cases hcs
    have hlm : len ≤ m := by rw [hmm]; split <;> omega
    have hxb : Rows.uptoBulk x.1 = Rows.uptoBulkAll ((List.range len).map D) + Rows.uptoBulkAll ((List.range (m - len)).map fun j => D (len + j)) + 1 := by rw [hx]; simp only [Rows.uptoBulk]
    have hlen : len ≤ 1048576 := by
      have := bulk_lenM ((List.range len).map D)
      simp at this; omega
    rcases Nat.eq_zero_or_pos len with h0 | h0
    · subst h0
      exact ⟨[], ⟨some a, cap, rfl, Nat.zero_le _, hm, (fun h => by cases h), fun h => by simp at h⟩, by simp, by simp, by simp⟩
    · rw [hcl] at hel
      obtain ⟨b, off, spot⟩ := a
      have hs : spot = none := by
        obtain ⟨cs', h1, _⟩ := hel 0 (by omega)
        obtain ⟨_, hl1, hc1⟩ := World.cells?_some h1
        have := hc1 0 (by omega)
        rw [List.getElem?_eq_getElem (by omega)] at this
        simpa [Addr.add] using World.cell?_spot this
      subst hs
      have each : ∀ i, i < len → ∃ o : α, (∀ m u, (c o)[m]? = some u → w.cell? ⟨b, off + i * z + m, none⟩ = some u) ∧ sz o ≤ Rows.uptoBulk (D i) ∧ pr o := by
        intro i hi
        obtain ⟨cs', h1, h2⟩ := hel i (by omega)
        rw [add_offM] at h1
        obtain ⟨o, a1, a2, a3⟩ := open1 _ _ _ _ _ h1 h2
        exact ⟨o, a1, a2, a3⟩
      haveI : Inhabited α := ⟨dflt⟩
      obtain ⟨f, hf⟩ := choose_lt each
      have hgl : ((List.range len).map f).length = len := by simp
      refine ⟨(List.range len).map f, ⟨_, cap, by rw [hgl], by rw [hgl]; exact hl, hm, (fun h => by cases h), fun _ => ⟨b, off, rfl, fun j u hu => ?_⟩⟩, by rw [hgl]; exact hlen, ?_, ?_⟩
      · have hj : j < len * z := by have := (List.getElem?_eq_some_iff.1 hu).1; rwa [flatG_len c z hc, hgl] at this
        have hk : j / z < len := Nat.div_lt_of_lt_mul (by rw [Nat.mul_comm]; exact hj)
        have hmz : j % z < z := Nat.mod_lt _ hz
        have e : j = j / z * z + j % z := by have := Nat.div_add_mod j z; rw [Nat.mul_comm] at this; exact this.symm
        have hg : ((List.range len).map f)[j / z]? = some (f (j / z)) := by rw [List.getElem?_map, List.getElem?_range hk]; rfl
        have h2 := flatG_get hc ((List.range len).map f) (j / z) (j % z) _ hg hmz
        rw [← e, hu] at h2
        have h3 := (hf (j / z) hk).1 (j % z) u h2.symm
        rw [Nat.add_assoc, ← e] at h3
        exact h3
      · have := sum_le_bulk sz D f len (fun i hi => (hf i hi).2.1)
        omega
      · intro x hx
        obtain ⟨i, hi, rfl⟩ := List.mem_map.1 hx
        exact (hf i (List.mem_range.1 hi)).2.2
theorem size_four (l : List Fil) : sizeF l + 4 * l.length ≤ (l.map fun m => m.1.size + m.2.2.size + 4).sum := by
  unfold sizeF
  induction l with
  | nil => simp
  | cons y r ih => simp only [List.map_cons, List.sum_cons, List.length_cons]; omega
/-- A list of files as it is read. -/
theorem open_files {fuel : Nat} {v : Value} {x : DataW H × List MemPlace} (h : DataW.trod enc Tryz.prog w 0 spare held fuel 22 [v] = some x) (hB : Rows.uptoBulk x.1 ≤ 1048576) :
    ∃ l : List Fil, RowF w v l ∧ 3 * l.length ≤ 1048576 ∧ sizeF l ≤ 1048576 := by
  obtain ⟨l, h1, h2, h3, _⟩ := open_list filL 6 (by decide) filL_len _ _ Tryz.underlying22 cellsFil (fun m => m.1.size + m.2.2.size + 4) (fun _ => True) (⟨#[]⟩, (0, 0, 0, 0), ⟨#[]⟩) (fun n b off cs x h1 h2 => open_file h1 h2) h hB
  refine ⟨l, h1, ?_⟩
  have hs := size_four l
  omega
/-- A file handed in by value. -/
theorem open_fileV {cs : Array Value} {d : DataW H} {p : List MemPlace} (h : DataW.Trod enc Tryz.prog w 0 (fun _ => true) true 26 (.agg cs) d p) (hB : Rows.uptoBulk d ≤ 1048576) :
    ∃ (n : ByteArray) (m0 m1 m2 m3 : Int) (da : ByteArray), cs = #[.string n, .int .i64 m0, .int .i64 m1, .int .i64 m2, .int .i64 m3, .string da] ∧ n.size ≤ 1048576 ∧ da.size ≤ 1048576 := by
  obtain ⟨fuel, h⟩ := h
  obtain ⟨xs, m, rfl, hx, hl, hxl, hf⟩ := DataW.trod_struct Tryz.underlying26 h
  rw [cellsFil] at hl
  have hl' : cs.toList.length = 6 := hl
  obtain ⟨⟨n, ⟨m0, m1, m2, m3⟩, da⟩, hcs, hs⟩ := open_filC (cs := cs.toList) hl' h
  refine ⟨n, m0, m1, m2, m3, da, ?_, ?_, ?_⟩
  · have := congrArg List.toArray hcs
    rw [Array.toArray_toList] at this
    exact this
  · show n.size ≤ _
    simp only at hs; omega
  · simp only at hs; omega
end
end Go.Proofs.YtbbblncoicjacaaGreatDoor
