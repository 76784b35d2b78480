
-- One file on a new volume: its steps, with the boxes beside.
import Derived.Test.YtjbphheojfclcaaGreatZY
import Derived.Test.YtjbphheojfclcaaGreatZX
namespace Go.Proofs.YtjbphheojfclcaaGreat
open Go.ChangeShapes Go.WideShapes Go.ChangeAt Go.RowKit
set_option linter.unusedVariables false
set_option maxRecDepth 100000
variable {PS : (Nat → Prop) → Nat → St → World → Prop}
section
variable {vb : Nat} {x : Vl} {w W W' : World} {rs : List Nat}
theorem OneS.step (C : PC PS) (h : OneS PS vb x w rs W) {k : Nat} (hk : Vlf x k) (hkk : k < 2097151) (o : Opv) (ho : OkC o) {an : An} {x' : Vl} (he : x.call o.c = (an, x')) :
    Calls Tryz.prog 11 #[.pointer (some ⟨vb, 0, none⟩), o.v] W fun e w' => ∃ ao c, e = .returned (.agg (ansV an (.slice ao an.l.length c))) ∧ OneS PS vb x' w rs w' ∧ Vlf x' (k + 1) ∧ (∀ r ∈ rs, w'.heap[r]? = W.heap[r]?) ∧ RowS w' (.slice ao an.l.length c) an.l := by
  have hf : Vlf (x.call o.c).2 (k + 1) := hk.call hkk o.c
  have hc := h.call C hk hkk o ho (Below.refl _ W)
  rw [he] at hf hc
  refine hc.mono ?_
  rintro e w' ⟨ao, c, rfl, h1, h2, h3⟩
  exact ⟨ao, c, rfl, h1, hf, h2, h3⟩
theorem OneS.blw (h : OneS PS vb x w rs W) : Below w.heap.size w W := by
  obtain ⟨S, -, -, -, h4⟩ := h
  exact h4
end
theorem at4 {W : World} {r : Nat} {c0 c1 c2 c3 : Value} {t : TypeId} (h : W.heap[r]? = some (.cells #[c0, c1, c2, c3] t (0, 0))) : W.cell? ⟨r, 0, none⟩ = some c0 ∧ W.cell? ⟨r, 1, none⟩ = some c1 ∧ W.cell? ⟨r, 2, none⟩ = some c2 ∧ W.cell? ⟨r, 3, none⟩ = some c3 := by
  refine ⟨?_, ?_, ?_, ?_⟩ <;> (rw [Lib.cell_of_heap h]; rfl)
/-- The state of the loop: the one file, its numbers' box and an answer's. -/
def BackS (PS : (Nat → Prop) → Nat → St → World → Prop) (va ra z cnt : Nat) (nm data : ByteArray) (m0 m1 m2 m3 : Int) (w W : World) : Prop := OneS PS va (oneVl z cnt nm data m0 m1 m2 m3) w [ra, w.heap.size] W ∧ Vlf (oneVl z cnt nm data m0 m1 m2 m3) cnt ∧ w.heap.size < ra ∧ W.heap[w.heap.size]? = some (.cells #[.int .i64 m0, .int .i64 m1, .int .i64 m2, .int .i64 m3] 23 (0, 0)) ∧ ∃ old : Array Value, old.size = 14 ∧ W.heap[ra]? = some (.cells old 34 (0, 0))
section
variable {va ra z cnt : Nat} {nm data : ByteArray} {m0 m1 m2 m3 : Int} {w W W' : World}
theorem BackS.below (C : PC PS) (h : BackS PS va ra z cnt nm data m0 m1 m2 m3 w W) (hb : Below W.heap.size W W') : BackS PS va ra z cnt nm data m0 m1 m2 m3 w W' := by
  obtain ⟨h1, h2, h3, h4, old, h5, h6⟩ := h
  exact ⟨h1.below C hb, h2, h3, (hb.block _ (Array.getElem?_eq_some_iff.1 h4).1).trans h4, old, h5, (hb.block _ (Array.getElem?_eq_some_iff.1 h6).1).trans h6⟩
theorem BackS.put (C : PC PS) (h : BackS PS va ra z cnt nm data m0 m1 m2 m3 w W) (cs : Array Value) (hcs : cs.size = 14) : BackS PS va ra z cnt nm data m0 m1 m2 m3 w (W.setRow ra cs) ∧ (W.setRow ra cs).heap[ra]? = some (.cells cs 34 (0, 0)) := by
  obtain ⟨h1, h2, h3, h4, old, h5, h6⟩ := h
  have hx : (W.setRow ra cs).heap[ra]? = some (.cells cs 34 (0, 0)) := setRow_heap _ _ _ _ _ _ h6
  exact ⟨⟨h1.put C (by simp) (by omega) cs, h2, h3, (setRow_other _ _ _ (by omega)).trans h4, cs, hcs, hx⟩, hx⟩
theorem BackS.write (C : PC PS) (h : BackS PS va ra z cnt nm data m0 m1 m2 m3 w W) (hc : cnt < 2097151) (p : ByteArray) (hp : p.size ≤ 1048576) (hz : data.size + p.size ≤ z) :
    Calls Tryz.prog 11 #[.pointer (some ⟨va, 0, none⟩), .agg #[.int .i64 8, .int .i64 0, .string p, .string ⟨#[]⟩, .int .i64 0, .int .i64 0, .int .i64 0, .int .i64 0, .slice none 0 0, .slice none 0 0]] W fun e w' => ∃ ao c, e = .returned (.agg #[.string ⟨#[]⟩, .int .i64 (p.size : Int), .int .i64 0, .int .i64 0, .int .i64 0, .int .i64 0, .string ⟨#[]⟩, .int .i64 0, .slice ao 0 c, .bool false, .bool false, .string ⟨#[]⟩, .string ⟨#[]⟩, .int .i64 0]) ∧ BackS PS va ra z (cnt + 1) nm (data ++ p) m0 m1 m2 m3 w w' := by
  obtain ⟨h1, h2, h3, h4, old, h5, h6⟩ := h
  refine (h1.step C h2 hc (opk 8 p) (opk_ok _ _ (by omega)) (one_write z cnt nm data p m0 m1 m2 m3 hz)).mono ?_
  rintro e w' ⟨ao, c, rfl, g1, g2, g3, -⟩
  exact ⟨ao, c, rfl, g1, g2, h3, (g3 _ (by simp)).trans h4, old, h5, (g3 _ (by simp)).trans h6⟩
theorem BackS.full (C : PC PS) (h : BackS PS va ra z cnt nm data m0 m1 m2 m3 w W) (hc : cnt < 2097151) (p : ByteArray) (hp : p.size ≤ 1048576) (hn : p ≠ ⟨#[]⟩) (hz : z < data.size + p.size) :
    Calls Tryz.prog 11 #[.pointer (some ⟨va, 0, none⟩), .agg #[.int .i64 8, .int .i64 0, .string p, .string ⟨#[]⟩, .int .i64 0, .int .i64 0, .int .i64 0, .int .i64 0, .slice none 0 0, .slice none 0 0]] W fun e w' => ∃ ao c, e = .returned (.agg #[.string ⟨#[]⟩, .int .i64 0, .int .i64 0, .int .i64 0, .int .i64 0, .int .i64 0, .string ⟨#[]⟩, .int .i64 0, .slice ao 0 c, .bool true, .bool false, .string opWrite, .string nm, .int .i64 31]) ∧ BackS PS va ra z (cnt + 1) nm data m0 m1 m2 m3 w w' := by
  obtain ⟨h1, h2, h3, h4, old, h5, h6⟩ := h
  refine (h1.step C h2 hc (opk 8 p) (opk_ok _ _ (by omega)) (one_full z cnt nm data p m0 m1 m2 m3 hn hz)).mono ?_
  rintro e w' ⟨ao, c, rfl, g1, g2, g3, -⟩
  exact ⟨ao, c, rfl, g1, g2, h3, (g3 _ (by simp)).trans h4, old, h5, (g3 _ (by simp)).trans h6⟩
end
end Go.Proofs.YtjbphheojfclcaaGreat
