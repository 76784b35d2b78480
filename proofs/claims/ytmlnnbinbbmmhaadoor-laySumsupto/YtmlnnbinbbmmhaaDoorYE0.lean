
-- lay.place: what lies in memory meanwhile.
import Derived.Test.YtmlnnbinbbmmhaaDoorYD
namespace Go.Proofs.YtmlnnbinbbmmhaaDoor
open Go.ChangeShapes Go.WideShapes Go.ChangeAt Go.RowKit
set_option linter.unusedVariables false
set_option maxRecDepth 100000
theorem setY_at {w : World} {b : Nat} {c : Array Value} {t : TypeId} {fr : Nat × Nat} (h : w.heap[b]? = some (.cells c t fr)) {k : Nat} (v : Value) : (w.setCell ⟨b, k, none⟩ v).heap[b]? = some (.cells (c.setIfInBounds k v) t fr) := by
  obtain ⟨hb, he⟩ := Array.getElem?_eq_some_iff.1 h
  simp [World.setCell, hb, Array.getElem_modify, he]
theorem setY_kq (w : World) (b k : Nat) (v : Value) : Kq b w (w.setCell ⟨b, k, none⟩ v) := by
  refine ⟨rfl, rfl, rfl, by simp [World.setCell], fun j hj hl => ?_⟩
  have : ¬ b = j := fun e => hj e.symm
  simp [World.setCell, Array.getElem?_modify, this]
/-- a made row of numbers, the first j of them put -/
def intAt (f : Nat → Int) (n j : Nat) : Array Value := ((List.range n).map fun i => Value.int .i64 (if i < j then f i else 0)).toArray
theorem intAt_size (f : Nat → Int) (n j : Nat) : (intAt f n j).size = n := by simp [intAt]
theorem intAt_any (f g : Nat → Int) (n : Nat) : intAt f n 0 = intAt g n 0 := by simp [intAt]
theorem intAt_put (f : Nat → Int) (n j : Nat) (hj : j < n) : putAt (intAt f n j) j #[.int .i64 (f j)] = intAt f n (j + 1) := by
  rw [putAt_at _ _ _ (by rw [intAt_size]; exact hj)]
  apply Array.ext
  · simp [intAt]
  · intro i h1 h2
    rw [Array.getElem_setIfInBounds]
    · by_cases e : j = i
      · subst e; simp [intAt]
      · simp only [e, if_false, intAt, List.getElem_toArray, List.getElem_map, List.getElem_range]
        by_cases h3 : i < j
        · rw [if_pos h3, if_pos (by omega)]
        · rw [if_neg h3, if_neg (by omega)]
    · simpa [intAt] using h1
theorem intAt_row {f : Nat → Int} {w : World} {g n : Nat} (hm : n ≤ 1100000) (h : w.heap[g]? = some (.cells (intAt f n n) 3 (0, 0))) : RowI w (.slice (some ⟨g, 0, none⟩) n n) ((List.range n).map f) := by
  refine ⟨some ⟨g, 0, none⟩, n, by simp, by simp, by unfold maxLen; omega, (fun e => by cases e), fun _ => ⟨g, 0, rfl, fun j u hu => ?_⟩⟩
  rw [Nat.zero_add]
  refine cell_rowK h j u ?_
  have e : ((List.range n).map f).flatMap nmL = (List.range n).map fun i => Value.int .i64 (f i) := by
    generalize List.range n = l
    induction l with
    | nil => rfl
    | cons a r ih => rw [List.map_cons, List.flatMap_cons, List.map_cons, ih]; rfl
  rw [e, List.getElem?_map] at hu
  cases hy : (List.range n)[j]? with
  | none => rw [hy] at hu; cases hu
  | some y =>
    have hj : j < n := by have := (List.getElem?_eq_some_iff.1 hy).1; simpa using this
    rw [List.getElem?_range hj] at hy
    injection hy with hy
    subst hy
    rw [List.getElem?_range hj] at hu
    injection hu with hu
    subst hu
    unfold intAt
    simp only [List.getElem?_toArray, List.getElem?_map, List.getElem?_range hj, Option.map_some]
    rw [if_pos hj]
theorem infoInt : (Tryd.prog.info? 3).map (fun i => (i.zero, i.size, i.bytes)) = some (some (.int .i64 0), 1, 8) := by kernel_rfl
theorem made_ints (n : Nat) : madeCells #[Value.int .i64 0] (n * 1) = intAt (fun _ => 0) n 0 := by
  apply Array.ext
  · simp [intAt, madeCells]
  · intro i h1 h2
    have e : i % 1 = 0 := Nat.mod_one i
    simp [intAt, madeCells, e]
theorem mk_ints (n : Nat) (hn : n ≤ 1100000) (W : World) : (Instr.makeSlice 25 (.int .i64 n) (.int .i64 n)).run Tryd.prog W = .ok (.slice (some ⟨W.heap.size, 0, none⟩) n n) (W.alloc (.cells (intAt (fun _ => 0) n 0) 3)) := by
  obtain ⟨i0, hi, hz0, hz1, hz2⟩ := info_parts infoInt
  rw [run_makeSlice W 25 3 i0 (.int .i64 0) Tryd.underlying25 hi hz0 .i64 .i64 n n (by omega) (by omega) (by rw [hz1, Int.toNat_natCast]; omega) (by rw [hz2]; omega) (by omega), hz1, Int.toNat_natCast, ← made_ints]
  rfl
abbrev lay0 : Array Value := #[.slice none 0 0, .int .i64 0, .int .i64 0]
/-- what place has laid -/
structure PSt (w : World) (gl gr : Nat) (ns : Array Value) (n : Nat) (f : Nat → Int) (j : Nat) (tb T : Int) (wx : World) : Prop where
  b : Below w.heap.size w wx
  n0 : wx.heap[w.heap.size]? = some (.cells ns 36 (0, 0))
  r0 : wx.heap[w.heap.size + 1]? = some (.cells lay0 27 (0, 0))
  l : wx.heap[gl]? = some (.cells #[.slice (some ⟨gr, 0, none⟩) n n, .int .i64 tb, .int .i64 T] 27 (0, 0))
  a : wx.heap[gr]? = some (.cells (intAt f n j) 3 (0, 0))
  g1 : w.heap.size + 1 < gl
  g2 : w.heap.size + 1 < gr
  ne : gl ≠ gr
section
variable {w : World} {gl gr : Nat} {ns : Array Value} {n : Nat} {f : Nat → Int} {j : Nat} {tb T : Int} {wx wy : World}
theorem PSt.on (h : PSt w gl gr ns n f j tb T wx) (hb : Below wx.heap.size wx wy) : PSt w gl gr ns n f j tb T wy := ⟨h.b.trans (hb.mono h.b.size), hkeepK hb h.n0, hkeepK hb h.r0, hkeepK hb h.l, hkeepK hb h.a, h.g1, h.g2, h.ne⟩
theorem PSt.drewN (h : PSt w gl gr ns n f j tb T wx) (k : Nat) : PSt w gl gr ns n f j tb T (wx.drewN k) := h.on (below_drewY (Below.refl _ _) k)
theorem PSt.drew (h : PSt w gl gr ns n f j tb T wx) : PSt w gl gr ns n f j tb T wx.drew := h.on (Below.refl _ _).drew
theorem PSt.tot (h : PSt w gl gr ns n f j tb T wx) (T' : Int) : PSt w gl gr ns n f j tb T' (wx.setCell ⟨gl, 2, none⟩ (.int .i64 T')) := by
  have q := setY_kq wx gl 2 (.int .i64 T')
  have g1 := h.g1
  exact ⟨q.belowN h.b (by omega) (Nat.le_refl _), q.keeps (by omega) h.n0, q.keeps (by omega) h.r0, setY_at h.l _, q.keeps (fun e => h.ne e.symm) h.a, h.g1, h.g2, h.ne⟩
theorem PSt.put (h : PSt w gl gr ns n f j tb T wx) (hg : wy.heap[gr]? = some (.cells (intAt f n (j + 1)) 3 (0, 0))) (q : Kq gr wx wy) : PSt w gl gr ns n f (j + 1) tb T wy := by
  have g2 := h.g2
  exact ⟨q.belowN h.b (by omega) (Nat.le_refl _), q.keeps (by omega) h.n0, q.keeps (by omega) h.r0, q.keeps h.ne h.l, hg, h.g1, h.g2, h.ne⟩
theorem PSt.c0 (h : PSt w gl gr ns n f j tb T wx) : wx.cell? ⟨gl, 0, none⟩ = some (.slice (some ⟨gr, 0, none⟩) n n) ∧ wx.cell? ⟨gl, 1, none⟩ = some (.int .i64 tb) ∧ wx.cell? ⟨gl, 2, none⟩ = some (.int .i64 T) := ⟨cell_rowK h.l 0 _ rfl, cell_rowK h.l 1 _ rfl, cell_rowK h.l 2 _ rfl⟩
theorem PSt.fz (h : PSt w gl gr ns n f j tb T wx) (k : Nat) : wx.frozen? ⟨gl, k, none⟩ = false := by
  have := h.l
  simp [World.frozen?, this]
end
end Go.Proofs.YtmlnnbinbbmmhaaDoor
