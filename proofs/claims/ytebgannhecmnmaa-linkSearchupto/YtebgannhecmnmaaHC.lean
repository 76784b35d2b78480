
-- starts, sameState.
import Derived.Test.YtebgannhecmnmaaHB
namespace Go.Proofs.Ytebgannhecmnmaa
open Go.ChangeShapes Go.WideShapes Go.ChangeAt Go.RowKit Go.MapKept
set_option linter.unusedVariables false
set_option maxRecDepth 100000
theorem rowG_front {α : Type} {c : α → List Value} {w : World} {ao : Option Addr} {n cap : Nat} {A Q : List α} (h : RowG c w (.slice ao n cap) (A ++ Q)) : RowG c w (.slice ao A.length cap) A := by
  obtain ⟨ao', cap', e, h1, h2, h3, h4⟩ := h
  injection e with e1 e2 e3
  subst e1 e3
  rw [List.length_append] at h1 h4
  refine ⟨_, _, rfl, by omega, h2, h3, fun hp => ?_⟩
  obtain ⟨b, off, e, hc⟩ := h4 (by omega)
  refine ⟨b, off, e, fun j u hu => hc j u ?_⟩
  rw [List.flatMap_append, List.getElem?_append_left (List.getElem?_eq_some_iff.1 hu).1]
  exact hu
set_option maxHeartbeats 2000000 in
theorem starts_c (v u : Value) (A Q : List (Int × Int)) (w : World) (h : RowP w v A) (h' : RowP w u (A ++ Q)) (hn : (A ++ Q).length < 4611686018427387904) :
    Calls Try.prog 14 #[v, u] w fun e w' => e = .returned (.bool true) ∧ Below w.heap.size w w' := by
  obtain ⟨a1, c1, q1, _, _⟩ := h.form
  obtain ⟨a2, c2, q2, hc, hm⟩ := h'.form
  obtain ⟨n, hnn⟩ : ∃ n, n = A.length := ⟨_, rfl⟩
  obtain ⟨m, hmm⟩ : ∃ m, m = (A ++ Q).length := ⟨_, rfl⟩
  have hnm : n ≤ m := by rw [hnn, hmm]; simp
  subst q1 q2
  have h2 := rowG_front h'
  have HS := hidK (samePulled_c _ _ A w h h2 (by have : A.length ≤ (A ++ Q).length := by simp
                                                 omega))
  rw [← hnn] at HS
  rw [← hmm] at hc hn
  rw [← hnn, ← hmm]
  have hm2 : c2 ≤ 9223372036854775807 := by unfold maxLen at hm; omega
  clear h h' h2 hnn hmm
  have i1 : (n : Int) ≤ (m : Int) := by omega
  have i2 : (n : Int) ≤ (c2 : Int) := by omega
  go_enter Try.func14, Try.ntmps14
  go_wp2_with (go_at_call 37; refine HS.out.mono ?_; rintro e w1 ⟨rfl, q1⟩; have HB := hidK q1; clear q1)
  go_ret
  exact ⟨rfl, HB.out⟩
theorem lk_cells {w : World} {b : Nat} {v0 v1 v2 : Value} {t : TypeId} (h : w.heap[b]? = some (.cells #[v0, v1, v2] t (0, 0))) : w.cell? ⟨b, 0, none⟩ = some v0 ∧ w.cell? ⟨b, 1, none⟩ = some v1 ∧ w.cell? ⟨b, 2, none⟩ = some v2 := ⟨cell_rowK h 0 _ rfl, cell_rowK h 1 _ rfl, cell_rowK h 2 _ rfl⟩
set_option maxHeartbeats 4000000 in
theorem sameState_c (a0 a1 a2 b0 b1 b2 : Value) (x : Lk) (w : World) (h0 : RowT w a0 x.d) (h1 : RowT w a1 x.w) (h2 : RowP w a2 x.p) (k0 : RowT w b0 x.d) (k1 : RowT w b1 x.w) (k2 : RowP w b2 x.p) (n0 : x.d.length < 4611686018427387904) (n1 : x.w.length < 4611686018427387904) (n2 : x.p.length < 4611686018427387904) :
    Calls Try.prog 16 #[.agg #[a0, a1, a2], .agg #[b0, b1, b2]] w fun e w' => e = .returned (.bool true) ∧ Below w.heap.size w w' := by
  obtain ⟨X, hX⟩ : ∃ X, X = Obj.cells #[a0, a1, a2] 26 := ⟨_, rfl⟩
  obtain ⟨Y, hY⟩ : ∃ Y, Y = Obj.cells #[b0, b1, b2] 26 := ⟨_, rfl⟩
  obtain ⟨w1, hw1⟩ : ∃ w1, w1 = (w.alloc X).alloc Y := ⟨_, rfl⟩
  have hb1 : Below w.heap.size w w1 := by rw [hw1]; exact ((Below.refl _ w).alloc (Nat.le_refl _) X).alloc (by simp) Y
  have x0 : w1.heap[w.heap.size]? = some (.cells #[a0, a1, a2] 26 (0, 0)) := by rw [hw1]; exact hupK (by rw [heap_alloc_new, hX]) Y
  have y0 : w1.heap[w.heap.size + 1]? = some (.cells #[b0, b1, b2] 26 (0, 0)) := by rw [hw1, heap_new2K, hY]
  have HC : Hid (∀ W, Below w1.heap.size w1 W → (W.cell? ⟨w.heap.size, 0, none⟩ = some a0 ∧ W.cell? ⟨w.heap.size, 1, none⟩ = some a1 ∧ W.cell? ⟨w.heap.size, 2, none⟩ = some a2) ∧ (W.cell? ⟨w.heap.size + 1, 0, none⟩ = some b0 ∧ W.cell? ⟨w.heap.size + 1, 1, none⟩ = some b1 ∧ W.cell? ⟨w.heap.size + 1, 2, none⟩ = some b2)) := fun W hb => ⟨lk_cells (hkeepK hb x0), lk_cells (hkeepK hb y0)⟩
  have H1 : Hid (∀ W, Below w1.heap.size w1 W → Calls Try.prog 15 #[a0, b0] W fun e w' => e = .returned (.bool true) ∧ Below w1.heap.size w1 w') := fun W hb => (sameTexts_c a0 b0 x.d W ((h0.on hb1).on hb) ((k0.on hb1).on hb) n0).mono (by
    rintro e w' ⟨q1, q2⟩; exact ⟨q1, bel3K hb q2⟩)
  have H2 : Hid (∀ W, Below w1.heap.size w1 W → Calls Try.prog 15 #[a1, b1] W fun e w' => e = .returned (.bool true) ∧ Below w1.heap.size w1 w') := fun W hb => (sameTexts_c a1 b1 x.w W ((h1.on hb1).on hb) ((k1.on hb1).on hb) n1).mono (by
    rintro e w' ⟨q1, q2⟩; exact ⟨q1, bel3K hb q2⟩)
  have H3 : Hid (∀ W, Below w1.heap.size w1 W → Calls Try.prog 37 #[a2, b2] W fun e w' => e = .returned (.bool true) ∧ Below w1.heap.size w1 w') := fun W hb => (samePulled_c a2 b2 x.p W ((h2.on hb1).on hb) ((k2.on hb1).on hb) n2).mono (by
    rintro e w' ⟨q1, q2⟩; exact ⟨q1, bel3K hb q2⟩)
  have HB1 := hidK hb1
  clear h0 h1 h2 k0 k1 k2 n0 n1 n2 hb1 x0 y0
  subst hX hY
  go_enter Try.func16, Try.ntmps16
  go_upto_region 1 with fail
  rw [← hw1]
  clear hw1
  obtain ⟨⟨c0, c1, c2⟩, ⟨d0, d1, d2⟩⟩ := HC.out w1 (Below.refl _ _)
  go_wp2_with (first
    | (go_at_call_of 15 a0; refine (H1.out _ (Below.refl _ _)).mono ?_; rintro e w2 ⟨rfl, q1⟩; obtain ⟨⟨x0, x1, x2⟩, ⟨y0, y1, y2⟩⟩ := HC.out _ q1; have HQ2 := hidK q1; clear q1)
    | (go_at_call_of 15 a1; refine (H2.out _ HQ2.out).mono ?_; rintro e w3 ⟨rfl, q1⟩; obtain ⟨⟨u0, u1, u2⟩, ⟨z0, z1, z2⟩⟩ := HC.out _ q1; have HQ3 := hidK q1; clear q1)
    | (go_at_call 37; refine (H3.out _ HQ3.out).mono ?_; rintro e w4 ⟨rfl, q1⟩; have HQ4 := hidK q1; clear q1))
  go_ret
  exact ⟨rfl, HB1.out.trans (HQ4.out.mono HB1.out.size)⟩
end Go.Proofs.Ytebgannhecmnmaa
