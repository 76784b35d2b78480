
-- A step of the Vol by the volume itself: kind 2.
import Derived.Test.YtjbphheojfclcaaGreatZC
import Derived.Deep.QuietTactic
import Derived.BigQuiet
import Derived.Deep.RegionWith
import Derived.Deep.DrawnRows
import Derived.Deep.CutRange
namespace Go.Proofs.YtjbphheojfclcaaGreat
open Go.RowKit
set_option linter.unusedVariables false
set_option maxRecDepth 100000
variable {PS : (Nat → Prop) → Nat → St → World → Prop}
attribute [local go_sem ↓] Go.wp_at_zero Go.wp_at_succ
def put6 (W : World) (r : Nat) (v0 v1 v2 v3 v4 v5 : Value) : World := (((((W.setCell ⟨r, 0, none⟩ v0).setCell ⟨r, 1, none⟩ v1).setCell ⟨r, 2, none⟩ v2).setCell ⟨r, 3, none⟩ v3).setCell ⟨r, 4, none⟩ v4).setCell ⟨r, 5, none⟩ v5
theorem put6_rest (W : World) (r : Nat) (v0 v1 v2 v3 v4 v5 : Value) : (put6 W r v0 v1 v2 v3 v4 v5).heap.size = W.heap.size ∧ (put6 W r v0 v1 v2 v3 v4 v5).os = W.os ∧ (put6 W r v0 v1 v2 v3 v4 v5).tape = W.tape ∧ (put6 W r v0 v1 v2 v3 v4 v5).output = W.output ∧ ∀ k, k ≠ r → (put6 W r v0 v1 v2 v3 v4 v5).heap[k]? = W.heap[k]? := by
  unfold put6
  refine ⟨?_, ?_, ?_, ?_, fun k hk => ?_⟩
  · iterate 6 (refine (sc_rest _ _ _).1.trans ?_)
    rfl
  · iterate 6 (refine (sc_rest _ _ _).2.1.trans ?_)
    rfl
  · iterate 6 (refine (sc_rest _ _ _).2.2.1.trans ?_)
    rfl
  · iterate 6 (refine (sc_rest _ _ _).2.2.2.trans ?_)
    rfl
  · iterate 6 (refine (Below.heap_setCell _ _ _ _ hk).trans ?_)
    rfl
/-- The same, with a box beside it. -/
structure MidB (PS : (Nat → Prop) → Nat → St → World → Prop) (S : Nat → Prop) (vb : Nat) (x : Vl) (w W : World) (ib : Nat) : Prop where
  vol : ∃ S', VA PS S' vb x W ∧ (∀ k, S' k → ext S w W k) ∧ ¬ S' (w.heap.size + 1) ∧ ¬ S' ib
  kp : Kp S w W
  res : W.heap[w.heap.size + 1]? = some (.cells ans0V 34 (0, 0))
  box : W.heap[ib]? = some (.cells #[.int .i64 0, .int .i64 0, .int .i64 0, .int .i64 0, .string ⟨#[]⟩, .int .i64 0] 29 (0, 0))
  two : w.heap.size + 2 ≤ ib
  slow : ∀ k, S k → k < w.heap.size
theorem mid_didB (C : PC PS) {S G : Nat → Prop} {vb q : Nat} {x : Vl} {mv : Value} {hs : List (Nat × Hd)} {w W W' : World} (T : VLo PS S vb x w q mv G hs) {X : Obj} (hA : Alike (((w.alloc X).alloc (.cells ans0V 34)).alloc (.cells #[.int .i64 0, .int .i64 0, .int .i64 0, .int .i64 0, .string ⟨#[]⟩, .int .i64 0] 29)) W) {v' : Vs} (hd : VDid PS G q v' W W') : MidB PS S vb ⟨v', x.hs⟩ w W' (w.heap.size + 2) := by
  obtain ⟨h1, h2, h3, h4⟩ := mid_two (w := w) X
  have hb3 : Below ((w.alloc X).alloc (.cells ans0V 34)).heap.size ((w.alloc X).alloc (.cells ans0V 34)) (((w.alloc X).alloc (.cells ans0V 34)).alloc (.cells #[.int .i64 0, .int .i64 0, .int .i64 0, .int .i64 0, .string ⟨#[]⟩, .int .i64 0] 29)) := (Below.refl _ _).alloc (Nat.le_refl _) _
  have hb := (h1.trans (hb3.mono (by omega))).trans (hA.below.mono (by simp; omega))
  have hsW : W.heap.size = w.heap.size + 3 := by rw [hA.heap]; simp
  obtain ⟨t, hk⟩ := (T.below C hb).did hd
  have hs' := hk.size
  have no : ∀ j, w.heap.size ≤ j → ¬ S j := fun j hj h => by have := T.low _ h; omega
  refine ⟨⟨_, ⟨_, _, _, _, t⟩, fun k h => ?_, fun h => ?_, fun h => ?_⟩, (Kp.of_below hb).trans hk, (hk.block _ (by omega) (no _ (by omega))).trans (by rw [hA.heap]; exact (hb3.block _ (by omega)).trans h3), (hk.block _ (by omega) (no _ (by omega))).trans (by rw [hA.heap]; exact new_at h2), Nat.le_refl _, T.low⟩
  · rcases h with h | h
    · exact .inl h
    · exact .inr ⟨by omega, h.2⟩
  · rcases h with h | h
    · exact no _ (by omega) h
    · omega
  · rcases h with h | h
    · exact no _ (by omega) h
    · omega
theorem MidB.put (C : PC PS) {S : Nat → Prop} {vb : Nat} {x : Vl} {w W : World} {ib : Nat} (h : MidB PS S vb x w W ib) (v0 v1 v2 v3 v4 v5 : Value) : Mid PS S vb x w (put6 W ib v0 v1 v2 v3 v4 v5) (.slice none 0 0) [] ∧ (put6 W ib v0 v1 v2 v3 v4 v5).heap[ib]? = some (.cells #[v0, v1, v2, v3, v4, v5] 29 (0, 0)) := by
  obtain ⟨⟨S', h1, h2, h3, h4⟩, h5, h6, h7, h8, h9⟩ := h
  obtain ⟨a1, a2, a3, a4, a5⟩ := put6_rest W ib v0 v1 v2 v3 v4 v5
  have hl := (Array.getElem?_eq_some_iff.1 h7).1
  refine ⟨⟨⟨S', h1.same C (by omega) fun k hk => a5 k fun e => h4 (e ▸ hk), fun k hk => ?_, h3⟩, ⟨a2.trans h5.os, a3.trans h5.tape, a4.trans h5.output, by have := h5.size; omega, fun k hk hS => (a5 k (by omega)).trans (h5.block k hk hS)⟩, (a5 _ (by omega)).trans h6, World.ownsRow_nil _ _ _ _, by omega, h9⟩, six_set h7 _ _ _ _ _ _⟩
  unfold ext; rw [a1]; exact h2 k hk
set_option maxRecDepth 20000 in
set_option maxHeartbeats 8000000 in
theorem call_2 (C : PC PS) (S : Nat → Prop) (vb : Nat) (x : Vl) (k : Nat) (n : Int) (a b : ByteArray) (m0 m1 m2 m3 : Int) (po : Option Addr) (pl pc : Nat) (co : Option Addr) (cl cc : Nat) (w : World) (h : VA PS S vb x w) (hk : Vlf x k) (hkk : k < 2097151) :
    Calls Tryz.prog 11 #[.pointer (some ⟨vb, 0, none⟩), .agg #[.int .i64 2, .int .i64 n, .string a, .string b, .int .i64 m0, .int .i64 m1, .int .i64 m2, .int .i64 m3, .slice po pl pc, .slice co cl cc]] w fun e w' => Stepped PS S vb (x.call ⟨2, n, a, b, m0, m1, m2, m3⟩).1 (x.call ⟨2, n, a, b, m0, m1, m2, m3⟩).2 w w' e := by
  obtain ⟨q, mv, G, hs, T⟩ := h
  obtain ⟨X, hX⟩ : ∃ X, X = Obj.cells #[.int .i64 2, .int .i64 n, .string a, .string b, .int .i64 m0, .int .i64 m1, .int .i64 m2, .int .i64 m3, .slice po pl pc, .slice co cl cc] 39 := ⟨_, rfl⟩
  obtain ⟨W0, hW0⟩ : ∃ W0, W0 = (w.alloc X).alloc (.cells ans0V 34) := ⟨_, rfl⟩
  obtain ⟨z1, z2, z3, z4⟩ := mid_two (w := w) X
  rw [← hW0] at z1 z2 z3 z4
  have T0 := T.below C z1
  obtain ⟨p0, _, pf⟩ := T0.cells
  have hcn : x.v.cnt ≤ 4194304 := by have := hk.vf.cnt; omega
  rw [hX] at z4
  have sa : W0.cell? ⟨w.heap.size, 2, none⟩ = some (.string a) := by rw [Lib.cell_of_heap z4]; rfl
  have sk : W0.cell? ⟨w.heap.size, 0, none⟩ = some (.int .i64 2) := by rw [Lib.cell_of_heap z4]; rfl
  obtain ⟨E, hE⟩ : ∃ z, z = (x.v.stat a).1.2 := ⟨_, rfl⟩
  obtain ⟨V, hV⟩ : ∃ z, z = (x.v.stat a).2 := ⟨_, rfl⟩
  obtain ⟨F1, F2, F3, F4, F5, F6, hF, hI⟩ : ∃ (F1 F2 F3 F4 : Int) (F5 : ByteArray) (F6 : Nat), Value.agg (stV x.v a) = .agg #[.int .i64 F1, .int .i64 F2, .int .i64 F3, .int .i64 F4, .string F5, .int .i64 (F6 : Nat)] ∧ anInfo (x.v.stat a).1.1 = { an0 with i0 := F1, i1 := F2, i2 := F3, i3 := F4, iname := F5, isz := (F6 : Nat) } := ⟨_, _, _, _, _, _, rfl, rfl⟩
  obtain ⟨A, hA⟩ : ∃ A, A = (x.call ⟨2, n, a, b, m0, m1, m2, m3⟩).1 := ⟨_, rfl⟩
  have hA' : A = An.fail ({ an0 with i0 := F1, i1 := F2, i2 := F3, i3 := F4, iname := F5, isz := (F6 : Nat) }) opStat a E := by rw [← hI, hA, hE]; rfl
  have hx' : (x.call ⟨2, n, a, b, m0, m1, m2, m3⟩).2 = ⟨V, x.hs⟩ := by rw [hV]; rfl
  have HPa : Hid (∀ W, Alike W0 W → Calls Tryz.prog 32 #[.pointer (some ⟨q, 0, none⟩), .string a] W fun e w' => ∃ ev, e = .returned (.tuple #[.agg #[.int .i64 F1, .int .i64 F2, .int .i64 F3, .int .i64 F4, .string F5, .int .i64 (F6 : Nat)], ev]) ∧ Mid PS S vb ⟨V, x.hs⟩ w w' (.slice none 0 0) [] ∧ ErrIs w' 0 opStat a E ev) := fun W hAl => by
    have t := T0.below C hAl.below
    refine (fStat_c C G q x.v a W t.pp hk.vf.wf hcn).mono ?_
    rintro e w' ⟨ev, rfl, he, hd⟩
    refine ⟨ev, by rw [hF], ?_, by rw [hE]; exact he.low (Nat.zero_le _)⟩
    rw [hV]
    rw [hW0] at hAl
    exact mid_did C T hAl hd
  have HPb : Hid (∀ W, Alike (W0.alloc (.cells #[.int .i64 0, .int .i64 0, .int .i64 0, .int .i64 0, .string ⟨#[]⟩, .int .i64 0] 29)) W → Calls Tryz.prog 32 #[.pointer (some ⟨q, 0, none⟩), .string a] W fun e w' => ∃ ev, e = .returned (.tuple #[.agg #[.int .i64 F1, .int .i64 F2, .int .i64 F3, .int .i64 F4, .string F5, .int .i64 (F6 : Nat)], ev]) ∧ MidB PS S vb ⟨V, x.hs⟩ w w' (w.heap.size + 2) ∧ ErrIs w' W0.heap.size.succ opStat a E ev ∧ w'.heap[W0.heap.size]? = some (.cells #[.int .i64 0, .int .i64 0, .int .i64 0, .int .i64 0, .string ⟨#[]⟩, .int .i64 0] 29 (0, 0))) := fun W hAl => by
    have t := (T0.below C ((Below.refl _ W0).alloc (Nat.le_refl _) (.cells #[.int .i64 0, .int .i64 0, .int .i64 0, .int .i64 0, .string ⟨#[]⟩, .int .i64 0] 29))).below C hAl.below
    have hsW : W.heap.size = W0.heap.size + 1 := by rw [hAl.heap]; simp
    refine (fStat_c C G q x.v a W t.pp hk.vf.wf hcn).mono ?_
    rintro e w' ⟨ev, rfl, he, hd⟩
    rw [hW0] at hAl
    have hm := mid_didB C T hAl hd
    rw [← hV] at hm
    refine ⟨ev, by rw [hF], hm, by rw [hE]; exact he.low (by omega), ?_⟩
    rw [z2]; exact hm.box
  have HEa : Hid (∀ w1 ev, Mid PS S vb ⟨V, x.hs⟩ w w1 (.slice none 0 0) [] → ErrIs w1 0 opStat a E ev → Mid PS S vb ⟨V, x.hs⟩ w (w1.alloc (.cells #[.int .i64 F1, .int .i64 F2, .int .i64 F3, .int .i64 F4, .string F5, .int .i64 (F6 : Nat)] 29)) (.slice none 0 0) [] ∧ ErrIs (w1.alloc (.cells #[.int .i64 F1, .int .i64 F2, .int .i64 F3, .int .i64 F4, .string F5, .int .i64 (F6 : Nat)] 29)) 0 opStat a E ev ∧ (w1.alloc (.cells #[.int .i64 F1, .int .i64 F2, .int .i64 F3, .int .i64 F4, .string F5, .int .i64 (F6 : Nat)] 29)).heap[w1.heap.size]? = some (.cells #[.int .i64 F1, .int .i64 F2, .int .i64 F3, .int .i64 F4, .string F5, .int .i64 (F6 : Nat)] 29 (0, 0))) := fun w1 ev hm he => by
    have hb : Below w1.heap.size w1 (w1.alloc (.cells #[.int .i64 F1, .int .i64 F2, .int .i64 F3, .int .i64 F4, .string F5, .int .i64 (F6 : Nat)] 29)) := (Below.refl _ w1).alloc (Nat.le_refl _) _
    exact ⟨hm.below C hb, he.below hb, new_at rfl⟩
  have HEb : Hid (∀ w1 ev, MidB PS S vb ⟨V, x.hs⟩ w w1 (w.heap.size + 2) → ErrIs w1 W0.heap.size.succ opStat a E ev → Mid PS S vb ⟨V, x.hs⟩ w (put6 w1 W0.heap.size (.int .i64 F1) (.int .i64 F2) (.int .i64 F3) (.int .i64 F4) (.string F5) (.int .i64 (F6 : Nat))) (.slice none 0 0) [] ∧ ErrIs (put6 w1 W0.heap.size (.int .i64 F1) (.int .i64 F2) (.int .i64 F3) (.int .i64 F4) (.string F5) (.int .i64 (F6 : Nat))) 0 opStat a E ev ∧ (put6 w1 W0.heap.size (.int .i64 F1) (.int .i64 F2) (.int .i64 F3) (.int .i64 F4) (.string F5) (.int .i64 (F6 : Nat))).heap[W0.heap.size]? = some (.cells #[.int .i64 F1, .int .i64 F2, .int .i64 F3, .int .i64 F4, .string F5, .int .i64 (F6 : Nat)] 29 (0, 0))) := fun w1 ev hm he => by
    rw [z2] at he ⊢
    obtain ⟨h1, h2⟩ := hm.put C (.int .i64 F1) (.int .i64 F2) (.int .i64 F3) (.int .i64 F4) (.string F5) (.int .i64 (F6 : Nat))
    obtain ⟨a1, a2, a3, a4, a5⟩ := put6_rest w1 (w.heap.size + 2) (.int .i64 F1) (.int .i64 F2) (.int .i64 F3) (.int .i64 F4) (.string F5) (.int .i64 (F6 : Nat))
    refine ⟨h1, ?_, h2⟩
    rcases he with he | ⟨g0, b', g1, g2, g3⟩
    · exact .inl he
    · exact .inr ⟨g0, b', Nat.zero_le _, g2, (a5 _ (by omega)).trans g3⟩
  have HW : Hid (∀ ev W, Mid PS S vb ⟨V, x.hs⟩ w W (.slice none 0 0) [] → ErrIs W 0 opStat a E ev → ∀ W', Alike W W' → Calls Tryz.prog 31 #[.agg #[.string ⟨#[]⟩, .int .i64 0, .int .i64 F1, .int .i64 F2, .int .i64 F3, .int .i64 F4, .string F5, .int .i64 (F6 : Nat), .slice none 0 0, .bool false, .bool false, .string ⟨#[]⟩, .string ⟨#[]⟩, .int .i64 0], ev] W' fun r w2 => r = .returned (.agg #[.string A.s, .int .i64 A.n, .int .i64 A.i0, .int .i64 A.i1, .int .i64 A.i2, .int .i64 A.i3, .string A.iname, .int .i64 A.isz, .slice none 0 0, .bool A.bad, .bool false, .string A.op, .string A.nm, .int .i64 A.e]) ∧ Mid PS S vb ⟨V, x.hs⟩ w w2 (.slice none 0 0) [] ∧ w2.heap[w.heap.size + 1]? = some (.cells ans0V 34 (0, 0))) := fun ev W hm he W' hAl => by
    refine (with_c ({ an0 with i0 := F1, i1 := F2, i2 := F3, i3 := F4, iname := F5, isz := (F6 : Nat) }) none 0 0 opStat a E ev W' ⟨rfl, rfl, rfl, rfl⟩ (he.below hAl.below)).mono ?_
    rintro r w2 ⟨rfl, hb⟩
    rw [hA']
    have hm2 := (hm.below C hAl.below).below C hb
    exact ⟨rfl, hm2, hm2.res⟩
  have HD14 : Hid (∀ W, Mid PS S vb ⟨V, x.hs⟩ w W (.slice none 0 0) [] → ∀ v0 v1 v2 v3 v4 v5 v6 v7 v8 v9 v10 v11 v12 v13 : Value, (VAD PS S vb ⟨V, x.hs⟩ w (put14 W (w.heap.size + 1) v0 v1 v2 v3 v4 v5 v6 v7 v8 v9 v10 v11 v12 v13) ∧ (put14 W (w.heap.size + 1) v0 v1 v2 v3 v4 v5 v6 v7 v8 v9 v10 v11 v12 v13).ownsRow w.heap.size 9 1 (.slice none 0 0) 0 []) ∧ (put14 W (w.heap.size + 1) v0 v1 v2 v3 v4 v5 v6 v7 v8 v9 v10 v11 v12 v13).heap[w.heap.size + 1]? = some (.cells #[v0, v1, v2, v3, v4, v5, v6, v7, v8, v9, v10, v11, v12, v13] 34 (0, 0))) := fun W hm v0 v1 v2 v3 v4 v5 v6 v7 v8 v9 v10 v11 v12 v13 => hm.done14 C v0 v1 v2 v3 v4 v5 v6 v7 v8 v9 v10 v11 v12 v13
  have HAL : Hid (A.l = []) := by
    rw [hA']; unfold An.fail; split <;> rfl
  have HW0 : Hid (W0 = (w.alloc (.cells #[.int .i64 2, .int .i64 n, .string a, .string b, .int .i64 m0, .int .i64 m1, .int .i64 m2, .int .i64 m3, .slice po pl pc, .slice co cl cc] 39)).alloc (.cells #[.string ⟨#[]⟩, .int .i64 0, .int .i64 0, .int .i64 0, .int .i64 0, .int .i64 0, .string ⟨#[]⟩, .int .i64 0, .slice none 0 0, .bool false, .bool false, .string ⟨#[]⟩, .string ⟨#[]⟩, .int .i64 0] 34)) := by rw [hW0, hX]; rfl
  rw [← hA, hx']
  have pz := cell_below ((Below.refl W0.heap.size W0).alloc (Nat.le_refl _) (.cells #[.int .i64 0, .int .i64 0, .int .i64 0, .int .i64 0, .string ⟨#[]⟩, .int .i64 0] 29)) p0
  have sz := cell_below ((Below.refl W0.heap.size W0).alloc (Nat.le_refl _) (.cells #[.int .i64 0, .int .i64 0, .int .i64 0, .int .i64 0, .string ⟨#[]⟩, .int .i64 0] 29)) sa
  clear hx' hA hA' hE hV hF hI hcn T T0 z1 z2 z3 z4 hW0 hk hkk
  subst hX
  go_enter Tryz.func11, Tryz.ntmps11
  go_upto_region 6 with fail
  rw [← HW0.out]
  go_cut [7, 8] from 33 to 42 (fun j ev wx => ∃ ib, j = .pointer (some ⟨ib, 0, none⟩) ∧ Mid PS S vb ⟨V, x.hs⟩ w wx (.slice none 0 0) [] ∧ ErrIs wx 0 opStat a E ev ∧ wx.heap[ib]? = some (.cells #[.int .i64 F1, .int .i64 F2, .int .i64 F3, .int .i64 F4, .string F5, .int .i64 (F6 : Nat)] 29 (0, 0)))
  case first =>
    go_region_with (go_at_call 32; first
      | (refine (HPa.out _ (Alike.mk ?_ ?_ ?_ ?_)).mono ?_; rfl; rfl; rfl; rfl; rintro e w1 ⟨ev, rfl, hm1, he1⟩; obtain ⟨x0, x1, x2, x3, x4, x5, g0, g1, g2, g3, g4, g5⟩ := six_at (heap_alloc_new w1 (.cells #[.int .i64 0, .int .i64 0, .int .i64 0, .int .i64 0, .string ⟨#[]⟩, .int .i64 0] 29)))
      | (refine (HPb.out _ (Alike.mk ?_ ?_ ?_ ?_)).mono ?_; rfl; rfl; rfl; rfl; rintro e w1 ⟨ev, rfl, hmb1, he1, hz1⟩; obtain ⟨x0, x1, x2, x3, x4, x5, g0, g1, g2, g3, g4, g5⟩ := six_at hz1))
    all_goals
      go_wp2_with fail
      go_meet
      first
        | (have hmb2 := hmb1; exact ⟨W0.heap.size, rfl, HEb.out w1 _ hmb2 he1⟩)
        | exact ⟨w1.heap.size, rfl, HEa.out w1 _ hm1 he1⟩
  case rest =>
    obtain ⟨ib, rfl, hm1, he1, hi1⟩ := hcut
    obtain ⟨x0, x1, x2, x3, x4, x5, g0, g1, g2, g3, g4, g5⟩ := six_at hi1
    clear pz sz p0 sa sk pf
    go_wp2_with (go_at_call 31; refine (HW.out _ _ hm1 he1 _ (Alike.mk ?_ ?_ ?_ ?_)).mono ?_; rfl; rfl; rfl; rfl; rintro r w2 ⟨rfl, hm2, hr2⟩; obtain ⟨⟨y0, y1, y2, y3, y4, y5, y6, y7, y8, y9, y10, y11, y12, y13⟩, g0, g1, g2, g3, g4, g5, g6, g7, g8, g9, g10, g11, g12, g13⟩ := at14 hr2)
    obtain ⟨⟨u1, u2⟩, u3⟩ := HD14.out w2 hm2 (.string A.s) (.int .i64 A.n) (.int .i64 A.i0) (.int .i64 A.i1) (.int .i64 A.i2) (.int .i64 A.i3) (.string A.iname) (.int .i64 A.isz) (.slice none 0 0) (.bool A.bad) (.bool false) (.string A.op) (.string A.nm) (.int .i64 A.e)
    refine bodyPost_ret (results_one rfl _ _ (w.heap.size + 1) _ _ _ _ rfl u3 Tryz.underlying34 rfl sizeAns) rfl ?_
    exact ⟨none, 0, by rw [HAL.out]; rfl, u1, by rw [HAL.out]; exact u2⟩
end Go.Proofs.YtjbphheojfclcaaGreat
