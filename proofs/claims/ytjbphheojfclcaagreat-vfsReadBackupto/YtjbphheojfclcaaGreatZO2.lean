
-- A list of texts, and a file's numbers, as they are read.
import Derived.Test.YtjbphheojfclcaaGreatZO
namespace Go.Proofs.YtjbphheojfclcaaGreat
open Go.RowKit Go.ChangeShapes Go.Deep
set_option linter.unusedVariables false
set_option maxRecDepth 100000
def totT (L : List ByteArray) : Nat := (L.map ByteArray.size).sum
section
variable {H : Type} {enc : TypeId × Value → H} {w : World} {spare : Nat → Bool} {held : Bool}
theorem bulkAll_append (a b : List (DataW H)) : Rows.uptoBulkAll (a ++ b) = Rows.uptoBulkAll a + Rows.uptoBulkAll b := by
  induction a with
  | nil => simp [Rows.uptoBulkAll]
  | cons x r ih => simp only [List.cons_append, Rows.uptoBulkAll]; omega
theorem sum_le_bulkV (D : Nat → DataW H) (f : Nat → ByteArray) : ∀ n, (∀ i, i < n → (f i).size ≤ Rows.uptoBulk (D i)) → totT ((List.range n).map f) ≤ Rows.uptoBulkAll ((List.range n).map D)
  | 0, _ => by simp [totT]
  | n + 1, h => by
    have ih := sum_le_bulkV D f n (fun i hi => h i (by omega))
    have h1 := h n (by omega)
    unfold totT at ih ⊢
    rw [List.range_succ, List.map_append, List.map_append, List.sum_append_nat, List.map_append, bulkAll_append]
    simp only [List.map_cons, List.map_nil, List.sum_cons, List.sum_nil, Rows.uptoBulkAll]
    omega
theorem open_textsV {fuel : Nat} {v : Value} {x : DataW H × List MemPlace} (h : DataW.trod enc Tryz.prog w 0 spare held fuel 24 [v] = some x) (hB : Rows.uptoBulk x.1 ≤ 1048576) :
    ∃ l : List ByteArray, RowS w v l ∧ totT l ≤ 1048576 ∧ l.length ≤ 1048576 := by
  rcases open_slice Tryz.underlying24 h with ⟨hcs, _⟩ | ⟨a, len, cap, m, n, D, Pl, hcs, _, hl, hm, hmm, hx, hel⟩
  · cases hcs
    exact ⟨[], .inl ⟨rfl, _, _, rfl⟩, by simp [totT], by simp⟩
  · cases hcs
    have hlm : len ≤ m := by rw [hmm]; split <;> omega
    have hxb : Rows.uptoBulk x.1 = Rows.uptoBulkAll ((List.range len).map D) + Rows.uptoBulkAll ((List.range (m - len)).map fun j => D (len + j)) + 1 := by rw [hx]; simp only [Rows.uptoBulk]
    have hlen : len ≤ 1048576 := by
      have := bulk_len ((List.range len).map D)
      simp at this; omega
    rcases Nat.eq_zero_or_pos len with h0 | h0
    · subst h0
      exact ⟨[], .inl ⟨rfl, _, _, rfl⟩, by simp [totT], by simp⟩
    · rw [cellsS] at hel
      obtain ⟨b, off, spot⟩ := a
      have hs : spot = none := by
        obtain ⟨cs', h1, _⟩ := hel 0 (by omega)
        obtain ⟨_, hl1, hc1⟩ := World.cells?_some h1
        have := hc1 0 (by omega)
        rw [List.getElem?_eq_getElem (by omega)] at this
        simpa [Addr.add] using World.cell?_spot this
      subst hs
      have each : ∀ i, i < len → ∃ s : ByteArray, w.cell? ⟨b, off + i, none⟩ = some (.string s) ∧ s.size ≤ Rows.uptoBulk (D i) := by
        intro i hi
        obtain ⟨cs', h1, h2⟩ := hel i (by omega)
        rw [add_off] at h1
        obtain ⟨_, hl1, hc1⟩ := World.cells?_some h1
        obtain ⟨u, rfl⟩ : ∃ u, cs' = [u] := by
          match cs', hl1 with
          | [u], _ => exact ⟨u, rfl⟩
        obtain ⟨s, e, z, _⟩ := DataW.trod_string Tryz.underlying9 h2
        cases e
        have c0 := hc1 0 (by omega)
        rw [add_off] at c0
        refine ⟨s, by simpa using c0, ?_⟩
        have hz : (D i) = _ := congrArg Prod.fst z
        rw [hz]
        simp only [Rows.uptoBulk, Array.length_toList]
        show s.data.size ≤ _
        omega
      haveI : Inhabited ByteArray := ⟨⟨#[]⟩⟩
      obtain ⟨f, hf⟩ := choose_lt each
      refine ⟨(List.range len).map f, .inr ⟨b, off, cap, by simp, fun j hj => ?_⟩, ?_, by simpa using hlen⟩
      · have hj' : j < len := by simpa using hj
        rw [(hf j hj').1]
        simp [List.getD, hj']
      · have := sum_le_bulkV D f len (fun i hi => (hf i hi).2)
        omega
/-- A file's numbers handed in by value. -/
theorem open_metaV {cs : Array Value} {d : DataW H} {p : List MemPlace} (h : DataW.Trod enc Tryz.prog w 0 (fun _ => true) true 23 (.agg cs) d p) : ∃ m0 m1 m2 m3 : Int, cs = #[.int .i64 m0, .int .i64 m1, .int .i64 m2, .int .i64 m3] := by
  obtain ⟨fuel, h⟩ := h
  obtain ⟨ms, m', rfl, _, hl, hml, hmf⟩ := DataW.trod_struct Tryz.underlying23 h
  rw [cellsM] at hl
  have hl' : cs.toList.length = 4 := hl
  obtain ⟨p0, p1, p2, p3, rfl⟩ := len4 hml
  obtain ⟨v4, v5, v6, v7, hcs⟩ := len4 hl'
  have hcs2 : (Value.agg cs).cells.toList = [v4, v5, v6, v7] := hcs
  rw [hcs2] at hmf
  have q0 : DataW.trod enc Tryz.prog w 0 (fun _ => true) true m' 3 [v4] = some p0 := by simpa [cellsI] using hmf 0 _ rfl
  have q1 : DataW.trod enc Tryz.prog w 0 (fun _ => true) true m' 3 [v5] = some p1 := by simpa [cellsI] using hmf 1 _ rfl
  have q2 : DataW.trod enc Tryz.prog w 0 (fun _ => true) true m' 3 [v6] = some p2 := by simpa [cellsI] using hmf 2 _ rfl
  have q3 : DataW.trod enc Tryz.prog w 0 (fun _ => true) true m' 3 [v7] = some p3 := by simpa [cellsI] using hmf 3 _ rfl
  obtain ⟨k4, e4, _, _⟩ := DataW.trod_int Tryz.underlying3 q0
  obtain ⟨k5, e5, _, _⟩ := DataW.trod_int Tryz.underlying3 q1
  obtain ⟨k6, e6, _, _⟩ := DataW.trod_int Tryz.underlying3 q2
  obtain ⟨k7, e7, _, _⟩ := DataW.trod_int Tryz.underlying3 q3
  cases e4; cases e5; cases e6; cases e7
  refine ⟨k4, k5, k6, k7, ?_⟩
  have := congrArg List.toArray hcs
  rw [Array.toArray_toList] at this
  exact this
end
end Go.Proofs.YtjbphheojfclcaaGreat
