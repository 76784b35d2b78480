
-- A step of the Vol, half done: the volume was called, the answer's box stands.
import Derived.Test.YtjbphheojfclcaaGreatZM
namespace Go.Proofs.YtjbphheojfclcaaGreat
open Go.RowKit
set_option linter.unusedVariables false
set_option maxRecDepth 100000
variable {PS : (Nat → Prop) → Nat → St → World → Prop}
def ans0V : Array Value := #[.string ⟨#[]⟩, .int .i64 0, .int .i64 0, .int .i64 0, .int .i64 0, .int .i64 0, .string ⟨#[]⟩, .int .i64 0, .slice none 0 0, .bool false, .bool false, .string ⟨#[]⟩, .string ⟨#[]⟩, .int .i64 0]
structure Mid (PS : (Nat → Prop) → Nat → St → World → Prop) (S : Nat → Prop) (vb : Nat) (x : Vl) (w W : World) (lv : Value) (l : List ByteArray) : Prop where
  vol : ∃ S', VA PS S' vb x W ∧ (∀ k, S' k → ext S w W k) ∧ ¬ S' (w.heap.size + 1)
  kp : Kp S w W
  res : W.heap[w.heap.size + 1]? = some (.cells ans0V 34 (0, 0))
  row : W.ownsRow (w.heap.size + 2) 9 1 lv l.length (strV l)
  two : w.heap.size + 2 ≤ W.heap.size
  slow : ∀ k, S k → k < w.heap.size
section
variable {S G : Nat → Prop} {vb q : Nat} {x : Vl} {mv lv : Value} {l : List ByteArray} {hs : List (Nat × Hd)} {w W W' : World}
theorem Mid.below (C : PC PS) (h : Mid PS S vb x w W lv l) (hb : Below W.heap.size W W') : Mid PS S vb x w W' lv l := by
  obtain ⟨⟨S', h1, h2, h3⟩, h4, h5, h6, h7, h8⟩ := h
  have hs := hb.size
  refine ⟨⟨S', h1.below C hb, fun k hk => ?_, h3⟩, h4.kept hb, (hb.block _ (by omega)).trans h5, own_keep h6 fun k hk => hb.block k (h6.lt k hk).2, by omega, h8⟩
  rcases h2 k hk with h | h
  · exact .inl h
  · exact .inr ⟨h.1, by omega⟩
theorem mid_two (X : Obj) : Below w.heap.size w ((w.alloc X).alloc (.cells ans0V 34)) ∧ ((w.alloc X).alloc (.cells ans0V 34)).heap.size = w.heap.size + 2 ∧ ((w.alloc X).alloc (.cells ans0V 34)).heap[w.heap.size + 1]? = some (.cells ans0V 34 (0, 0)) ∧ ((w.alloc X).alloc (.cells ans0V 34)).heap[w.heap.size]? = some X :=
  ⟨((Below.refl _ w).alloc (Nat.le_refl _) X).alloc (by simp) _, by simp, new_at (by simp), ((((Below.refl _ (w.alloc X)).alloc (Nat.le_refl _) _).block w.heap.size (by simp)).trans (new_at rfl))⟩
/-- Nothing was called yet. -/
theorem mid_start (C : PC PS) (h : VA PS S vb x w) (X : Obj) : Mid PS S vb x w ((w.alloc X).alloc (.cells ans0V 34)) (.slice none 0 0) [] := by
  obtain ⟨h1, h2, h3, h4⟩ := mid_two (w := w) X
  exact ⟨⟨S, h.below C h1, fun k hk => .inl hk, fun hk => by have := h.low _ hk; omega⟩, Kp.of_below h1, h3, World.ownsRow_nil _ _ _ _, by omega, h.low⟩
/-- A call on the volume. -/
theorem mid_did (C : PC PS) (T : VLo PS S vb x w q mv G hs) {X : Obj} (hA : Alike ((w.alloc X).alloc (.cells ans0V 34)) W) {v' : Vs} (hd : VDid PS G q v' W W') : Mid PS S vb ⟨v', x.hs⟩ w W' (.slice none 0 0) [] := by
  obtain ⟨h1, h2, h3, h4⟩ := mid_two (w := w) X
  have hb := h1.trans (hA.below.mono (by omega))
  have hsW : W.heap.size = w.heap.size + 2 := by rw [hA.heap]; exact h2
  obtain ⟨t, hk⟩ := (T.below C hb).did hd
  have hs' := hk.size
  have no : ¬ S (w.heap.size + 1) := fun h => by have := T.low _ h; omega
  refine ⟨⟨_, ⟨_, _, _, _, t⟩, fun k h => ?_, fun h => ?_⟩, (Kp.of_below hb).trans hk, (hk.block _ (by omega) no).trans (by rw [hA.heap]; exact h3), World.ownsRow_nil _ _ _ _, by omega, T.low⟩
  · rcases h with h | h
    · exact .inl h
    · exact .inr ⟨by omega, h.2⟩
  · rcases h with h | h
    · exact no h
    · omega
/-- A step that has its answer: it is put into its box and told. -/
theorem Mid.doneW (C : PC PS) (h : Mid PS S vb x w W lv l) (hsz : W'.heap.size = W.heap.size) (ho : W'.os = W.os) (ht : W'.tape = W.tape) (hu : W'.output = W.output) (oth : ∀ k, k ≠ w.heap.size + 1 → W'.heap[k]? = W.heap[k]?) : VAD PS S vb x w W' ∧ W'.ownsRow w.heap.size 9 1 lv l.length (strV l) := by
  obtain ⟨⟨S', h1, h2, h3⟩, h4, h5, h6, h7, h8⟩ := h
  refine ⟨⟨(h1.same C (by omega) fun k hk => oth k fun e => h3 (e ▸ hk)).mono (fun k hk => ?_) (fun k hk => ?_), ho.trans h4.os, ht.trans h4.tape, hu.trans h4.output, by have := h4.size; omega, fun k hk hS => (oth k (by omega)).trans (h4.block k hk hS)⟩, own_mono (own_keep h6 fun k hk => oth k (by have := (h6.lt k hk).1; omega)) (by omega)⟩
  · unfold ext; rw [hsz]; exact h2 k hk
  · unfold ext at hk; rw [hsz] at hk ⊢
    rcases hk with hk | hk
    · have := h4.size
      have := h8 k hk
      omega
    · exact hk.2
theorem Mid.done (C : PC PS) (h : Mid PS S vb x w W lv l) (cs : Array Value) : VAD PS S vb x w (W.setRow (w.heap.size + 1) cs) ∧ (W.setRow (w.heap.size + 1) cs).ownsRow w.heap.size 9 1 lv l.length (strV l) :=
  h.doneW C (by simp) rfl rfl rfl fun k hk => setRow_other _ _ _ hk
/-- A row of fourteen cells is written cell by cell. -/
def put14 (W : World) (r : Nat) (v0 v1 v2 v3 v4 v5 v6 v7 v8 v9 v10 v11 v12 v13 : Value) : World :=
  (((((((((((((W.setCell ⟨r, 0, none⟩ v0).setCell ⟨r, 1, none⟩ v1).setCell ⟨r, 2, none⟩ v2).setCell ⟨r, 3, none⟩ v3).setCell ⟨r, 4, none⟩ v4).setCell ⟨r, 5, none⟩ v5).setCell ⟨r, 6, none⟩ v6).setCell ⟨r, 7, none⟩ v7).setCell ⟨r, 8, none⟩ v8).setCell ⟨r, 9, none⟩ v9).setCell ⟨r, 10, none⟩ v10).setCell ⟨r, 11, none⟩ v11).setCell ⟨r, 12, none⟩ v12).setCell ⟨r, 13, none⟩ v13
theorem set14_0 (v c0 c1 c2 c3 c4 c5 c6 c7 c8 c9 c10 c11 c12 c13 : Value) : (#[c0, c1, c2, c3, c4, c5, c6, c7, c8, c9, c10, c11, c12, c13] : Array Value).setIfInBounds 0 v = #[v, c1, c2, c3, c4, c5, c6, c7, c8, c9, c10, c11, c12, c13] := rfl
theorem set14_1 (v c0 c1 c2 c3 c4 c5 c6 c7 c8 c9 c10 c11 c12 c13 : Value) : (#[c0, c1, c2, c3, c4, c5, c6, c7, c8, c9, c10, c11, c12, c13] : Array Value).setIfInBounds 1 v = #[c0, v, c2, c3, c4, c5, c6, c7, c8, c9, c10, c11, c12, c13] := rfl
theorem set14_2 (v c0 c1 c2 c3 c4 c5 c6 c7 c8 c9 c10 c11 c12 c13 : Value) : (#[c0, c1, c2, c3, c4, c5, c6, c7, c8, c9, c10, c11, c12, c13] : Array Value).setIfInBounds 2 v = #[c0, c1, v, c3, c4, c5, c6, c7, c8, c9, c10, c11, c12, c13] := rfl
theorem set14_3 (v c0 c1 c2 c3 c4 c5 c6 c7 c8 c9 c10 c11 c12 c13 : Value) : (#[c0, c1, c2, c3, c4, c5, c6, c7, c8, c9, c10, c11, c12, c13] : Array Value).setIfInBounds 3 v = #[c0, c1, c2, v, c4, c5, c6, c7, c8, c9, c10, c11, c12, c13] := rfl
theorem set14_4 (v c0 c1 c2 c3 c4 c5 c6 c7 c8 c9 c10 c11 c12 c13 : Value) : (#[c0, c1, c2, c3, c4, c5, c6, c7, c8, c9, c10, c11, c12, c13] : Array Value).setIfInBounds 4 v = #[c0, c1, c2, c3, v, c5, c6, c7, c8, c9, c10, c11, c12, c13] := rfl
theorem set14_5 (v c0 c1 c2 c3 c4 c5 c6 c7 c8 c9 c10 c11 c12 c13 : Value) : (#[c0, c1, c2, c3, c4, c5, c6, c7, c8, c9, c10, c11, c12, c13] : Array Value).setIfInBounds 5 v = #[c0, c1, c2, c3, c4, v, c6, c7, c8, c9, c10, c11, c12, c13] := rfl
theorem set14_6 (v c0 c1 c2 c3 c4 c5 c6 c7 c8 c9 c10 c11 c12 c13 : Value) : (#[c0, c1, c2, c3, c4, c5, c6, c7, c8, c9, c10, c11, c12, c13] : Array Value).setIfInBounds 6 v = #[c0, c1, c2, c3, c4, c5, v, c7, c8, c9, c10, c11, c12, c13] := rfl
theorem set14_7 (v c0 c1 c2 c3 c4 c5 c6 c7 c8 c9 c10 c11 c12 c13 : Value) : (#[c0, c1, c2, c3, c4, c5, c6, c7, c8, c9, c10, c11, c12, c13] : Array Value).setIfInBounds 7 v = #[c0, c1, c2, c3, c4, c5, c6, v, c8, c9, c10, c11, c12, c13] := rfl
theorem set14_8 (v c0 c1 c2 c3 c4 c5 c6 c7 c8 c9 c10 c11 c12 c13 : Value) : (#[c0, c1, c2, c3, c4, c5, c6, c7, c8, c9, c10, c11, c12, c13] : Array Value).setIfInBounds 8 v = #[c0, c1, c2, c3, c4, c5, c6, c7, v, c9, c10, c11, c12, c13] := rfl
theorem set14_9 (v c0 c1 c2 c3 c4 c5 c6 c7 c8 c9 c10 c11 c12 c13 : Value) : (#[c0, c1, c2, c3, c4, c5, c6, c7, c8, c9, c10, c11, c12, c13] : Array Value).setIfInBounds 9 v = #[c0, c1, c2, c3, c4, c5, c6, c7, c8, v, c10, c11, c12, c13] := rfl
theorem set14_10 (v c0 c1 c2 c3 c4 c5 c6 c7 c8 c9 c10 c11 c12 c13 : Value) : (#[c0, c1, c2, c3, c4, c5, c6, c7, c8, c9, c10, c11, c12, c13] : Array Value).setIfInBounds 10 v = #[c0, c1, c2, c3, c4, c5, c6, c7, c8, c9, v, c11, c12, c13] := rfl
theorem set14_11 (v c0 c1 c2 c3 c4 c5 c6 c7 c8 c9 c10 c11 c12 c13 : Value) : (#[c0, c1, c2, c3, c4, c5, c6, c7, c8, c9, c10, c11, c12, c13] : Array Value).setIfInBounds 11 v = #[c0, c1, c2, c3, c4, c5, c6, c7, c8, c9, c10, v, c12, c13] := rfl
theorem set14_12 (v c0 c1 c2 c3 c4 c5 c6 c7 c8 c9 c10 c11 c12 c13 : Value) : (#[c0, c1, c2, c3, c4, c5, c6, c7, c8, c9, c10, c11, c12, c13] : Array Value).setIfInBounds 12 v = #[c0, c1, c2, c3, c4, c5, c6, c7, c8, c9, c10, c11, v, c13] := rfl
theorem set14_13 (v c0 c1 c2 c3 c4 c5 c6 c7 c8 c9 c10 c11 c12 c13 : Value) : (#[c0, c1, c2, c3, c4, c5, c6, c7, c8, c9, c10, c11, c12, c13] : Array Value).setIfInBounds 13 v = #[c0, c1, c2, c3, c4, c5, c6, c7, c8, c9, c10, c11, c12, v] := rfl
theorem put14_row {W : World} {r : Nat} {c0 c1 c2 c3 c4 c5 c6 c7 c8 c9 c10 c11 c12 c13 : Value} {t : TypeId} {fr : Nat × Nat} (h : W.heap[r]? = some (.cells #[c0, c1, c2, c3, c4, c5, c6, c7, c8, c9, c10, c11, c12, c13] t fr)) (v0 v1 v2 v3 v4 v5 v6 v7 v8 v9 v10 v11 v12 v13 : Value) :
    (put14 W r v0 v1 v2 v3 v4 v5 v6 v7 v8 v9 v10 v11 v12 v13).heap[r]? = some (.cells #[v0, v1, v2, v3, v4, v5, v6, v7, v8, v9, v10, v11, v12, v13] t fr) := by
  unfold put14
  rw [blk_set (blk_set (blk_set (blk_set (blk_set (blk_set (blk_set (blk_set (blk_set (blk_set (blk_set (blk_set (blk_set (blk_set h _) _) _) _) _) _) _) _) _) _) _) _) _) _]
  rw [set14_0, set14_1, set14_2, set14_3, set14_4, set14_5, set14_6, set14_7, set14_8, set14_9, set14_10, set14_11, set14_12, set14_13]
theorem sc_rest (W : World) (a : Addr) (v : Value) : (W.setCell a v).heap.size = W.heap.size ∧ (W.setCell a v).os = W.os ∧ (W.setCell a v).tape = W.tape ∧ (W.setCell a v).output = W.output := ⟨by simp [World.setCell], rfl, rfl, rfl⟩
theorem put14_rest (W : World) (r : Nat) (v0 v1 v2 v3 v4 v5 v6 v7 v8 v9 v10 v11 v12 v13 : Value) : (put14 W r v0 v1 v2 v3 v4 v5 v6 v7 v8 v9 v10 v11 v12 v13).heap.size = W.heap.size ∧ (put14 W r v0 v1 v2 v3 v4 v5 v6 v7 v8 v9 v10 v11 v12 v13).os = W.os ∧ (put14 W r v0 v1 v2 v3 v4 v5 v6 v7 v8 v9 v10 v11 v12 v13).tape = W.tape ∧ (put14 W r v0 v1 v2 v3 v4 v5 v6 v7 v8 v9 v10 v11 v12 v13).output = W.output ∧ ∀ k, k ≠ r → (put14 W r v0 v1 v2 v3 v4 v5 v6 v7 v8 v9 v10 v11 v12 v13).heap[k]? = W.heap[k]? := by
  unfold put14
  refine ⟨?_, ?_, ?_, ?_, fun k hk => ?_⟩
  · iterate 14 (refine (sc_rest _ _ _).1.trans ?_)
    rfl
  · iterate 14 (refine (sc_rest _ _ _).2.1.trans ?_)
    rfl
  · iterate 14 (refine (sc_rest _ _ _).2.2.1.trans ?_)
    rfl
  · iterate 14 (refine (sc_rest _ _ _).2.2.2.trans ?_)
    rfl
  · iterate 14 (refine (Below.heap_setCell _ _ _ _ hk).trans ?_)
    rfl
theorem Mid.done14 (C : PC PS) (h : Mid PS S vb x w W lv l) (v0 v1 v2 v3 v4 v5 v6 v7 v8 v9 v10 v11 v12 v13 : Value) : (VAD PS S vb x w (put14 W (w.heap.size + 1) v0 v1 v2 v3 v4 v5 v6 v7 v8 v9 v10 v11 v12 v13) ∧ (put14 W (w.heap.size + 1) v0 v1 v2 v3 v4 v5 v6 v7 v8 v9 v10 v11 v12 v13).ownsRow w.heap.size 9 1 lv l.length (strV l)) ∧ (put14 W (w.heap.size + 1) v0 v1 v2 v3 v4 v5 v6 v7 v8 v9 v10 v11 v12 v13).heap[w.heap.size + 1]? = some (.cells #[v0, v1, v2, v3, v4, v5, v6, v7, v8, v9, v10, v11, v12, v13] 34 (0, 0)) := by
  obtain ⟨a1, a2, a3, a4, a5⟩ := put14_rest W (w.heap.size + 1) v0 v1 v2 v3 v4 v5 v6 v7 v8 v9 v10 v11 v12 v13
  exact ⟨h.doneW C a1 a2 a3 a4 a5, put14_row h.res _ _ _ _ _ _ _ _ _ _ _ _ _ _⟩
theorem at14 {W : World} {r : Nat} {c0 c1 c2 c3 c4 c5 c6 c7 c8 c9 c10 c11 c12 c13 : Value} {t : TypeId} (h : W.heap[r]? = some (.cells #[c0, c1, c2, c3, c4, c5, c6, c7, c8, c9, c10, c11, c12, c13] t (0, 0))) :
    (W.cell? ⟨r, 0, none⟩ = some c0 ∧ W.cell? ⟨r, 1, none⟩ = some c1 ∧ W.cell? ⟨r, 2, none⟩ = some c2 ∧ W.cell? ⟨r, 3, none⟩ = some c3 ∧ W.cell? ⟨r, 4, none⟩ = some c4 ∧ W.cell? ⟨r, 5, none⟩ = some c5 ∧ W.cell? ⟨r, 6, none⟩ = some c6 ∧ W.cell? ⟨r, 7, none⟩ = some c7 ∧ W.cell? ⟨r, 8, none⟩ = some c8 ∧ W.cell? ⟨r, 9, none⟩ = some c9 ∧ W.cell? ⟨r, 10, none⟩ = some c10 ∧ W.cell? ⟨r, 11, none⟩ = some c11 ∧ W.cell? ⟨r, 12, none⟩ = some c12 ∧ W.cell? ⟨r, 13, none⟩ = some c13) ∧
    (W.frozen? ⟨r, 0, none⟩ = false ∧ W.frozen? ⟨r, 1, none⟩ = false ∧ W.frozen? ⟨r, 2, none⟩ = false ∧ W.frozen? ⟨r, 3, none⟩ = false ∧ W.frozen? ⟨r, 4, none⟩ = false ∧ W.frozen? ⟨r, 5, none⟩ = false ∧ W.frozen? ⟨r, 6, none⟩ = false ∧ W.frozen? ⟨r, 7, none⟩ = false ∧ W.frozen? ⟨r, 8, none⟩ = false ∧ W.frozen? ⟨r, 9, none⟩ = false ∧ W.frozen? ⟨r, 10, none⟩ = false ∧ W.frozen? ⟨r, 11, none⟩ = false ∧ W.frozen? ⟨r, 12, none⟩ = false ∧ W.frozen? ⟨r, 13, none⟩ = false) := by
  refine ⟨⟨?_, ?_, ?_, ?_, ?_, ?_, ?_, ?_, ?_, ?_, ?_, ?_, ?_, ?_⟩, Lib.frozen_of_heap h 0, Lib.frozen_of_heap h 1, Lib.frozen_of_heap h 2, Lib.frozen_of_heap h 3, Lib.frozen_of_heap h 4, Lib.frozen_of_heap h 5, Lib.frozen_of_heap h 6, Lib.frozen_of_heap h 7, Lib.frozen_of_heap h 8, Lib.frozen_of_heap h 9, Lib.frozen_of_heap h 10, Lib.frozen_of_heap h 11, Lib.frozen_of_heap h 12, Lib.frozen_of_heap h 13⟩ <;> (rw [Lib.cell_of_heap h]; rfl)
theorem all14 (a : An) (ao : Option Addr) (n c : Nat) : (ansV a (.slice ao n c)).all (·.oneCell') = true := by
  simp [ansV, Value.oneCell']
/-- What a step of the Vol answers and leaves. -/
def Stepped (PS : (Nat → Prop) → Nat → St → World → Prop) (S : Nat → Prop) (vb : Nat) (a : An) (x' : Vl) (w w' : World) (e : Ending) : Prop := ∃ ao c, e = .returned (.agg (ansV a (.slice ao a.l.length c))) ∧ VAD PS S vb x' w w' ∧ w'.ownsRow w.heap.size 9 1 (.slice ao a.l.length c) a.l.length (strV a.l)
end
end Go.Proofs.YtjbphheojfclcaaGreat
