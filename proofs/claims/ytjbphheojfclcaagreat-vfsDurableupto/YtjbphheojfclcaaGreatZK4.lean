
-- A step of the Vol by the volume itself: kind 4.
import Derived.Test.YtjbphheojfclcaaGreatZC
import Derived.Deep.QuietTactic
import Derived.BigQuiet
import Derived.Deep.RegionWith
import Derived.Deep.DrawnRows
import Derived.Deep.CutRange
import Derived.Maps.AppendAt
namespace Go.Proofs.YtjbphheojfclcaaGreat
open Go.RowKit
set_option linter.unusedVariables false
set_option maxRecDepth 100000
variable {PS : (Nat → Prop) → Nat → St → World → Prop}
attribute [local go_sem ↓] Go.wp_at_zero Go.wp_at_succ
theorem infoHF : (Tryz.prog.info? 83).map (fun i => (i.zero, i.size, i.bytes)) = some (some (.pointer none), 1, 8) := by kernel_rfl
theorem wp_worldH {P : Program} {c : Code} {Q : Exit → Act → World → Prop} {a : Act} {w : World} (h : ∀ W, W = w → Code.wp P c Q a W) : Code.wp P c Q a w := h w rfl
/-- A handle was made: it is not in the list yet. -/
structure MidH (PS : (Nat → Prop) → Nat → St → World → Prop) (S : Nat → Prop) (vb : Nat) (x : Vl) (w W : World) (q : Nat) (mv : Value) (hs : List (Nat × Hd)) (b1 : Nat) (y : Hd) : Prop where
  vol : ∃ S1 G1, VLo PS S1 vb x W q mv G1 hs ∧ S1 b1 ∧ ¬ G1 b1 ∧ (∀ k, S1 k → ext S w W k) ∧ ¬ S1 (w.heap.size + 1)
  file : FileAt W b1 q y
  new : b1 ∉ hs.map (·.1)
  kp : Kp S w W
  res : W.heap[w.heap.size + 1]? = some (.cells ans0V 34 (0, 0))
  two : w.heap.size + 2 ≤ W.heap.size
  slow : ∀ k, S k → k < w.heap.size
section
variable {S : Nat → Prop} {vb q b1 : Nat} {x : Vl} {mv : Value} {hs : List (Nat × Hd)} {y : Hd} {w W W' : World}
theorem MidH.below (C : PC PS) (h : MidH PS S vb x w W q mv hs b1 y) (hb : Below W.heap.size W W') : MidH PS S vb x w W' q mv hs b1 y := by
  obtain ⟨⟨S1, G1, T, h1, h2, h3, h4⟩, h5, h6, h7, h8, h9, h10⟩ := h
  have hs := hb.size
  refine ⟨⟨S1, G1, T.below C hb, h1, h2, fun k hk => ?_, h4⟩, h5.below hb, h6, h7.kept hb, (hb.block _ (by omega)).trans h8, by omega, h10⟩
  rcases h3 k hk with h | h
  · exact .inl h
  · exact .inr ⟨h.1, by omega⟩
theorem MidH.made (C : PC PS) {G : Nat → Prop} (T : VLo PS S vb x w q mv G hs) {X : Obj} (hA : Alike ((w.alloc X).alloc (.cells ans0V 34)) W) {v' : Vs} {G1 : Nat → Prop} (hkp : Kp G W W') (hf : FileAt W' b1 q y) (hpv : PV PS G1 q v' W') (hsub : ∀ k, G1 k → ext G W W' k) (hg : ¬ G1 b1) (hl : W.heap.size ≤ b1) : MidH PS S vb ⟨v', x.hs⟩ w W' q mv hs b1 y := by
  obtain ⟨h1, h2, h3, h4⟩ := mid_two (w := w) X
  have hb := h1.trans (hA.below.mono (by omega))
  have hsW : W.heap.size = w.heap.size + 2 := by rw [hA.heap]; exact h2
  have TW := T.below C hb
  have hs' := hkp.size
  have hbl := (Array.getElem?_eq_some_iff.1 hf).1
  have no : ∀ j, w.heap.size ≤ j → ¬ S j := fun j hj h => by have := T.low _ h; omega
  have hkS := TW.kp hkp
  refine ⟨⟨ext S W W', G1, TW.turn hpv (fun k hk => .inl hk) (fun k hk => ?_) (fun k hk => ?_) (fun k g1 g2 => hkp.block k (TW.low k g1) g2) (fun k hk => ?_), .inr ⟨hl, hbl⟩, hg, fun k hk => ?_, fun hk => ?_⟩, hf, fun hm => ?_, (Kp.of_below hb).trans hkS, (hkS.block _ (by omega) (no _ (by omega))).trans (by rw [hA.heap]; exact h3), by omega, T.low⟩
  · rcases hsub k hk with h | h
    · exact .inl h
    · exact .inr h.1
  · rcases hsub k hk with h | h
    · exact .inl (T.sub k h)
    · exact .inr h
  · rcases hk with hk | hk
    · have := TW.low k hk; omega
    · exact hk.2
  · rcases hk with hk | hk
    · exact .inl hk
    · exact .inr ⟨by omega, hk.2⟩
  · rcases hk with hk | hk
    · exact no _ (by omega) hk
    · omega
  · obtain ⟨⟨a', z⟩, hi, rfl⟩ := List.mem_map.1 hm
    obtain ⟨i, hi⟩ := List.getElem?_of_mem hi
    have := (Array.getElem?_eq_some_iff.1 (TW.mf i _ z hi).1).1
    simp only at hl; omega
/-- It joins the list. -/
theorem MidH.add (C : PC PS) (h : MidH PS S vb x w W q mv hs b1 y) {o : Obj} {w2 : World} {v' : Value}
    (hown : w2.ownsRow 0 83 1 v' (hs.length + 1) (hptrs hs ++ [.pointer (some ⟨b1, 0, none⟩)])) (hgr : (W.alloc o).grownBy w2 mv.ownBlock) (hv' : v'.ownBlock = mv.ownBlock ∨ v'.ownBlock = some (W.alloc o).heap.size) :
    Mid PS S vb ⟨x.v, x.hs ++ [y]⟩ w (w2.setCell ⟨vb, 1, none⟩ v') (.slice none 0 0) [] ∧ (w2.setCell ⟨vb, 1, none⟩ v').cell? ⟨vb, 1, none⟩ = some v' := by
  have hba : Below W.heap.size W (W.alloc o) := (Below.refl _ W).alloc (Nat.le_refl _) _
  have hsz : (W.alloc o).heap.size = W.heap.size + 1 := by simp
  obtain ⟨⟨S1, G1, T, h1, h2, h3, h4⟩, h5, h6, h7, h8, h9, h10⟩ := h.below C hba
  obtain ⟨t, hk⟩ := T.add C h5 ⟨h1, h2⟩ h6 hown hgr (by
    rcases hv' with h | h
    · exact .inl h
    · exact .inr ⟨_, h, Nat.le_refl _⟩)
  have hs2 := hk.size
  refine ⟨⟨⟨_, ⟨_, _, _, _, t⟩, fun k hk' => ?_, fun hk' => ?_⟩, ⟨hk.os.trans h7.os, hk.tape.trans h7.tape, hk.output.trans h7.output, Nat.le_trans h7.size hk.size, fun k g1 g2 => (hk.block k (Nat.lt_of_lt_of_le g1 h7.size) (fun hS1 => ?_)).trans (h7.block k g1 g2)⟩, (hk.block _ (by omega) h4).trans h8, World.ownsRow_nil _ _ _ _, by omega, h10⟩, t.cells.2.1⟩
  · rcases hk' with hk' | hk'
    · rcases h3 k hk' with h | h
      · exact .inl h
      · exact .inr ⟨h.1, by omega⟩
    · exact .inr ⟨by omega, hk'.2⟩
  · rcases hk' with hk' | hk'
    · exact h4 hk'
    · omega
  · rcases h3 k hS1 with h | h
    · exact g2 h
    · omega
end
set_option maxRecDepth 20000 in
set_option maxHeartbeats 8000000 in
theorem call_4no (C : PC PS) (S : Nat → Prop) (vb : Nat) (x : Vl) (k : Nat) (n : Int) (a b : ByteArray) (m0 m1 m2 m3 : Int) (po : Option Addr) (pl pc : Nat) (co : Option Addr) (cl cc : Nat) (w : World) (h : VA PS S vb x w) (hk : Vlf x k) (hkk : k < 2097151) (hE : (x.v.create a m0 m1 m2 m3).1.2 ≠ 0) :
    Calls Tryz.prog 11 #[.pointer (some ⟨vb, 0, none⟩), .agg #[.int .i64 4, .int .i64 n, .string a, .string b, .int .i64 m0, .int .i64 m1, .int .i64 m2, .int .i64 m3, .slice po pl pc, .slice co cl cc]] w fun e w' => Stepped PS S vb (x.call ⟨4, n, a, b, m0, m1, m2, m3⟩).1 (x.call ⟨4, n, a, b, m0, m1, m2, m3⟩).2 w w' e := by
  obtain ⟨q, mv, G, hs, T⟩ := h
  obtain ⟨X, hX⟩ : ∃ X, X = Obj.cells #[.int .i64 4, .int .i64 n, .string a, .string b, .int .i64 m0, .int .i64 m1, .int .i64 m2, .int .i64 m3, .slice po pl pc, .slice co cl cc] 39 := ⟨_, rfl⟩
  obtain ⟨W0, hW0⟩ : ∃ W0, W0 = (w.alloc X).alloc (.cells ans0V 34) := ⟨_, rfl⟩
  obtain ⟨z1, z2, z3, z4⟩ := mid_two (w := w) X
  rw [← hW0] at z1 z2 z3 z4
  have T0 := T.below C z1
  obtain ⟨p0, _, pf⟩ := T0.cells
  have hcn : x.v.cnt ≤ 4194304 := by have := hk.vf.cnt; omega
  rw [hX] at z4
  have sa : W0.cell? ⟨w.heap.size, 2, none⟩ = some (.string a) := by rw [Lib.cell_of_heap z4]; rfl
  have sk : W0.cell? ⟨w.heap.size, 0, none⟩ = some (.int .i64 4) := by rw [Lib.cell_of_heap z4]; rfl
  have sm0 : W0.cell? ⟨w.heap.size, 4, none⟩ = some (.int .i64 m0) := by rw [Lib.cell_of_heap z4]; rfl
  have sm1 : W0.cell? ⟨w.heap.size, 5, none⟩ = some (.int .i64 m1) := by rw [Lib.cell_of_heap z4]; rfl
  have sm2 : W0.cell? ⟨w.heap.size, 6, none⟩ = some (.int .i64 m2) := by rw [Lib.cell_of_heap z4]; rfl
  have sm3 : W0.cell? ⟨w.heap.size, 7, none⟩ = some (.int .i64 m3) := by rw [Lib.cell_of_heap z4]; rfl
  obtain ⟨V, hV⟩ : ∃ z, z = (x.v.create a m0 m1 m2 m3).2 := ⟨_, rfl⟩
  obtain ⟨E, hE'⟩ : ∃ z, z = (x.v.create a m0 m1 m2 m3).1.2 := ⟨_, rfl⟩
  rw [← hE'] at hE
  obtain ⟨A, hA⟩ : ∃ A, A = (x.call ⟨4, n, a, b, m0, m1, m2, m3⟩).1 := ⟨_, rfl⟩
  have hm4 : x.call ⟨4, n, a, b, m0, m1, m2, m3⟩ = (an0.fail opCreate a (x.v.create a m0 m1 m2 m3).1.2, { x with v := (x.v.create a m0 m1 m2 m3).2 }) := by
    show Vl.made x _ = _
    unfold Vl.made
    rw [← hE']
    exact if_neg hE
  have hA' : A = An.fail an0 opCreate a E := by rw [hA, hm4, hE']
  have hx' : (x.call ⟨4, n, a, b, m0, m1, m2, m3⟩).2 = ⟨V, x.hs⟩ := by rw [hm4, hV]
  have HP : Hid (∀ W, Alike W0 W → Calls Tryz.prog 34 #[.pointer (some ⟨q, 0, none⟩), .string a, .agg #[.int .i64 m0, .int .i64 m1, .int .i64 m2, .int .i64 m3]] W fun e w' => ∃ ev, e = .returned (.tuple #[.pointer none, ev]) ∧ Mid PS S vb ⟨V, x.hs⟩ w w' (.slice none 0 0) [] ∧ ErrIs w' 0 opCreate a E ev) := fun W hAl => by
    have t := T0.below C hAl.below
    refine (sCreate_c C G q x.v a m0 m1 m2 m3 W t.pp hk.vf.wf hcn).mono ?_
    rintro e w' ⟨hv, ev, rfl, hd⟩
    rcases hd with ⟨_, rfl, hd⟩ | ⟨h0, _⟩
    · refine ⟨ev, rfl, ?_, by rw [hE']; exact hd.weak.1.low (Nat.zero_le _)⟩
      rw [hV]
      rw [hW0] at hAl
      exact mid_did C T hAl hd.weak.2
    · exact absurd (hE'.trans h0) hE
  have HW : Hid (∀ ev W, Mid PS S vb ⟨V, x.hs⟩ w W (.slice none 0 0) [] → ErrIs W 0 opCreate a E ev → ∀ W', Alike W W' → Calls Tryz.prog 31 #[.agg #[.string ⟨#[]⟩, .int .i64 0, .int .i64 0, .int .i64 0, .int .i64 0, .int .i64 0, .string ⟨#[]⟩, .int .i64 0, .slice none 0 0, .bool false, .bool false, .string ⟨#[]⟩, .string ⟨#[]⟩, .int .i64 0], ev] W' fun r w2 => r = .returned (.agg #[.string A.s, .int .i64 A.n, .int .i64 A.i0, .int .i64 A.i1, .int .i64 A.i2, .int .i64 A.i3, .string A.iname, .int .i64 A.isz, .slice none 0 0, .bool A.bad, .bool false, .string A.op, .string A.nm, .int .i64 A.e]) ∧ Mid PS S vb ⟨V, x.hs⟩ w w2 (.slice none 0 0) [] ∧ w2.heap[w.heap.size + 1]? = some (.cells ans0V 34 (0, 0))) := fun ev W hm he W' hAl => by
    refine (with_c (an0) none 0 0 opCreate a E ev W' ⟨rfl, rfl, rfl, rfl⟩ (he.below hAl.below)).mono ?_
    rintro r w2 ⟨rfl, hb⟩
    rw [hA']
    have hm2 := (hm.below C hAl.below).below C hb
    exact ⟨rfl, hm2, hm2.res⟩
  have HD14 : Hid (∀ W, Mid PS S vb ⟨V, x.hs⟩ w W (.slice none 0 0) [] → ∀ v0 v1 v2 v3 v4 v5 v6 v7 v8 v9 v10 v11 v12 v13 : Value, (VAD PS S vb ⟨V, x.hs⟩ w (put14 W (w.heap.size + 1) v0 v1 v2 v3 v4 v5 v6 v7 v8 v9 v10 v11 v12 v13) ∧ (put14 W (w.heap.size + 1) v0 v1 v2 v3 v4 v5 v6 v7 v8 v9 v10 v11 v12 v13).ownsRow w.heap.size 9 1 (.slice none 0 0) 0 []) ∧ (put14 W (w.heap.size + 1) v0 v1 v2 v3 v4 v5 v6 v7 v8 v9 v10 v11 v12 v13).heap[w.heap.size + 1]? = some (.cells #[v0, v1, v2, v3, v4, v5, v6, v7, v8, v9, v10, v11, v12, v13] 34 (0, 0))) := fun W hm v0 v1 v2 v3 v4 v5 v6 v7 v8 v9 v10 v11 v12 v13 => hm.done14 C v0 v1 v2 v3 v4 v5 v6 v7 v8 v9 v10 v11 v12 v13
  have HAL : Hid (A.l = []) := by
    rw [hA']; first | rfl | (unfold An.fail; split <;> rfl)
  have HW0 : Hid (W0 = (w.alloc (.cells #[.int .i64 4, .int .i64 n, .string a, .string b, .int .i64 m0, .int .i64 m1, .int .i64 m2, .int .i64 m3, .slice po pl pc, .slice co cl cc] 39)).alloc (.cells #[.string ⟨#[]⟩, .int .i64 0, .int .i64 0, .int .i64 0, .int .i64 0, .int .i64 0, .string ⟨#[]⟩, .int .i64 0, .slice none 0 0, .bool false, .bool false, .string ⟨#[]⟩, .string ⟨#[]⟩, .int .i64 0] 34)) := by rw [hW0, hX]; rfl
  rw [← hA, hx']
  clear hx' hA hA' hm4 hE' hE hV hcn T T0 z1 z2 z3 z4 hW0 hk hkk
  subst hX
  go_enter Tryz.func11, Tryz.ntmps11
  go_upto_region 12 with fail
  rw [← HW0.out]
  go_region_with (go_at_call 34; refine (HP.out _ (Alike.mk ?_ ?_ ?_ ?_)).mono ?_; rfl; rfl; rfl; rfl; rintro e w1 ⟨ev, rfl, hm1, he1⟩)
  all_goals
    go_wp2_with (go_at_call 31; refine (HW.out _ _ hm1 he1 _ (Alike.mk ?_ ?_ ?_ ?_)).mono ?_; rfl; rfl; rfl; rfl; rintro r w2 ⟨rfl, hm2, hr2⟩; obtain ⟨⟨y0, y1, y2, y3, y4, y5, y6, y7, y8, y9, y10, y11, y12, y13⟩, g0, g1, g2, g3, g4, g5, g6, g7, g8, g9, g10, g11, g12, g13⟩ := at14 hr2)
    obtain ⟨⟨u1, u2⟩, u3⟩ := HD14.out w2 hm2 (.string A.s) (.int .i64 A.n) (.int .i64 A.i0) (.int .i64 A.i1) (.int .i64 A.i2) (.int .i64 A.i3) (.string A.iname) (.int .i64 A.isz) (.slice none 0 0) (.bool A.bad) (.bool false) (.string A.op) (.string A.nm) (.int .i64 A.e)
    refine bodyPost_ret (results_one rfl _ _ (w.heap.size + 1) _ _ _ _ rfl u3 Tryz.underlying34 rfl sizeAns) rfl ?_
    exact ⟨none, 0, by rw [HAL.out]; rfl, u1, by rw [HAL.out]; exact u2⟩
set_option maxRecDepth 20000 in
set_option maxHeartbeats 8000000 in
theorem call_4ok (C : PC PS) (S : Nat → Prop) (vb : Nat) (x : Vl) (k : Nat) (n : Int) (a b : ByteArray) (m0 m1 m2 m3 : Int) (po : Option Addr) (pl pc : Nat) (co : Option Addr) (cl cc : Nat) (w : World) (h : VA PS S vb x w) (hk : Vlf x k) (hkk : k < 2097151) (hE : (x.v.create a m0 m1 m2 m3).1.2 = 0) :
    Calls Tryz.prog 11 #[.pointer (some ⟨vb, 0, none⟩), .agg #[.int .i64 4, .int .i64 n, .string a, .string b, .int .i64 m0, .int .i64 m1, .int .i64 m2, .int .i64 m3, .slice po pl pc, .slice co cl cc]] w fun e w' => Stepped PS S vb (x.call ⟨4, n, a, b, m0, m1, m2, m3⟩).1 (x.call ⟨4, n, a, b, m0, m1, m2, m3⟩).2 w w' e := by
  obtain ⟨im, him, hm0, hm1, hm2⟩ := info_parts infoHF
  obtain ⟨q, mv, G, hs, T⟩ := h
  obtain ⟨X, hX⟩ : ∃ X, X = Obj.cells #[.int .i64 4, .int .i64 n, .string a, .string b, .int .i64 m0, .int .i64 m1, .int .i64 m2, .int .i64 m3, .slice po pl pc, .slice co cl cc] 39 := ⟨_, rfl⟩
  obtain ⟨W0, hW0⟩ : ∃ W0, W0 = (w.alloc X).alloc (.cells ans0V 34) := ⟨_, rfl⟩
  obtain ⟨z1, z2, z3, z4⟩ := mid_two (w := w) X
  rw [← hW0] at z1 z2 z3 z4
  have T0 := T.below C z1
  obtain ⟨p0, _, pf⟩ := T0.cells
  have hcn : x.v.cnt ≤ 4194304 := by have := hk.vf.cnt; omega
  rw [hX] at z4
  have sa : W0.cell? ⟨w.heap.size, 2, none⟩ = some (.string a) := by rw [Lib.cell_of_heap z4]; rfl
  have sk : W0.cell? ⟨w.heap.size, 0, none⟩ = some (.int .i64 4) := by rw [Lib.cell_of_heap z4]; rfl
  have sm0 : W0.cell? ⟨w.heap.size, 4, none⟩ = some (.int .i64 m0) := by rw [Lib.cell_of_heap z4]; rfl
  have sm1 : W0.cell? ⟨w.heap.size, 5, none⟩ = some (.int .i64 m1) := by rw [Lib.cell_of_heap z4]; rfl
  have sm2 : W0.cell? ⟨w.heap.size, 6, none⟩ = some (.int .i64 m2) := by rw [Lib.cell_of_heap z4]; rfl
  have sm3 : W0.cell? ⟨w.heap.size, 7, none⟩ = some (.int .i64 m3) := by rw [Lib.cell_of_heap z4]; rfl
  obtain ⟨V, hV⟩ : ∃ z, z = (x.v.create a m0 m1 m2 m3).2 := ⟨_, rfl⟩
  obtain ⟨y, hy⟩ : ∃ y : Hd, y = ⟨a, (x.v.create a m0 m1 m2 m3).1.1, x.v.round, false⟩ := ⟨_, rfl⟩
  obtain ⟨A, hA⟩ : ∃ A, A = (x.call ⟨4, n, a, b, m0, m1, m2, m3⟩).1 := ⟨_, rfl⟩
  have hlen : hs.length = x.hs.length := by rw [← T.eq, List.length_map]
  have hm4 : x.call ⟨4, n, a, b, m0, m1, m2, m3⟩ = ({ an0 with n := ((hs.length : Int) + 1) }, ⟨V, x.hs ++ [y]⟩) := by
    show Vl.made x _ = _
    unfold Vl.made
    rw [hy, hV, hlen]
    exact if_pos hE
  have hA' : A = { an0 with n := ((hs.length : Int) + 1) } := by rw [hA, hm4]
  have hx' : (x.call ⟨4, n, a, b, m0, m1, m2, m3⟩).2 = ⟨V, x.hs ++ [y]⟩ := by rw [hm4]
  have hll : hs.length ≤ 2097151 := by have := hk.few; omega
  have HP : Hid (∀ W, Alike W0 W → Calls Tryz.prog 34 #[.pointer (some ⟨q, 0, none⟩), .string a, .agg #[.int .i64 m0, .int .i64 m1, .int .i64 m2, .int .i64 m3]] W fun e w' => ∃ b1, e = .returned (.tuple #[.pointer (some ⟨b1, 0, none⟩), .nilIface]) ∧ MidH PS S vb ⟨V, x.hs⟩ w w' q mv hs b1 y) := fun W hAl => by
    have t := T0.below C hAl.below
    refine (sCreate_c C G q x.v a m0 m1 m2 m3 W t.pp hk.vf.wf hcn).mono ?_
    rintro e w' ⟨hv, ev, rfl, hd⟩
    rcases hd with ⟨h0, _⟩ | ⟨_, rfl, hkp, b1, G1, rfl, hf, hpv, hsub, _, hg, hlb⟩
    · exact absurd hE h0
    · rw [hW0] at hAl
      rw [← hy] at hf
      rw [← hV] at hpv
      exact ⟨b1, rfl, MidH.made C T hAl hkp hf hpv hsub hg hlb⟩
  have HAD : Hid (∀ b1 W o w2 v', MidH PS S vb ⟨V, x.hs⟩ w W q mv hs b1 y → w2.ownsRow 0 83 1 v' (hs.length + 1) (hptrs hs ++ [.pointer (some ⟨b1, 0, none⟩)]) → (W.alloc o).grownBy w2 mv.ownBlock → (v'.ownBlock = mv.ownBlock ∨ v'.ownBlock = some (W.alloc o).heap.size) → Mid PS S vb ⟨V, x.hs ++ [y]⟩ w (w2.setCell ⟨vb, 1, none⟩ v') (.slice none 0 0) [] ∧ (w2.setCell ⟨vb, 1, none⟩ v').cell? ⟨vb, 1, none⟩ = some v') := fun b1 W o w2 v' h1 h2 h3 h4 => h1.add C h2 h3 h4
  have HMB : Hid (∀ b1 W W', MidH PS S vb ⟨V, x.hs⟩ w W q mv hs b1 y → Alike W W' → MidH PS S vb ⟨V, x.hs⟩ w W' q mv hs b1 y) := fun b1 W W' h1 h2 => h1.below C h2.below
  have HW : Hid (∀ ev W, Mid PS S vb ⟨V, x.hs ++ [y]⟩ w W (.slice none 0 0) [] → ErrIs W 0 opCreate a 0 ev → ∀ W', Alike W W' → Calls Tryz.prog 31 #[.agg #[.string ⟨#[]⟩, .int .i64 ((hs.length : Int) + 1), .int .i64 0, .int .i64 0, .int .i64 0, .int .i64 0, .string ⟨#[]⟩, .int .i64 0, .slice none 0 0, .bool false, .bool false, .string ⟨#[]⟩, .string ⟨#[]⟩, .int .i64 0], ev] W' fun r w2 => r = .returned (.agg #[.string A.s, .int .i64 A.n, .int .i64 A.i0, .int .i64 A.i1, .int .i64 A.i2, .int .i64 A.i3, .string A.iname, .int .i64 A.isz, .slice none 0 0, .bool A.bad, .bool false, .string A.op, .string A.nm, .int .i64 A.e]) ∧ Mid PS S vb ⟨V, x.hs ++ [y]⟩ w w2 (.slice none 0 0) [] ∧ w2.heap[w.heap.size + 1]? = some (.cells ans0V 34 (0, 0))) := fun ev W hm he W' hAl => by
    refine (with_c ({ an0 with n := ((hs.length : Int) + 1) }) none 0 0 opCreate a 0 ev W' ⟨rfl, rfl, rfl, rfl⟩ (he.below hAl.below)).mono ?_
    rintro r w2 ⟨rfl, hb⟩
    rw [hA']
    have hm2 := (hm.below C hAl.below).below C hb
    exact ⟨rfl, hm2, hm2.res⟩
  have HD14 : Hid (∀ W, Mid PS S vb ⟨V, x.hs ++ [y]⟩ w W (.slice none 0 0) [] → ∀ v0 v1 v2 v3 v4 v5 v6 v7 v8 v9 v10 v11 v12 v13 : Value, (VAD PS S vb ⟨V, x.hs ++ [y]⟩ w (put14 W (w.heap.size + 1) v0 v1 v2 v3 v4 v5 v6 v7 v8 v9 v10 v11 v12 v13) ∧ (put14 W (w.heap.size + 1) v0 v1 v2 v3 v4 v5 v6 v7 v8 v9 v10 v11 v12 v13).ownsRow w.heap.size 9 1 (.slice none 0 0) 0 []) ∧ (put14 W (w.heap.size + 1) v0 v1 v2 v3 v4 v5 v6 v7 v8 v9 v10 v11 v12 v13).heap[w.heap.size + 1]? = some (.cells #[v0, v1, v2, v3, v4, v5, v6, v7, v8, v9, v10, v11, v12, v13] 34 (0, 0))) := fun W hm v0 v1 v2 v3 v4 v5 v6 v7 v8 v9 v10 v11 v12 v13 => hm.done14 C v0 v1 v2 v3 v4 v5 v6 v7 v8 v9 v10 v11 v12 v13
  have HAL : Hid (A.l = []) := by
    rw [hA']; first | rfl | (unfold An.fail; split <;> rfl)
  have HW0 : Hid (W0 = (w.alloc (.cells #[.int .i64 4, .int .i64 n, .string a, .string b, .int .i64 m0, .int .i64 m1, .int .i64 m2, .int .i64 m3, .slice po pl pc, .slice co cl cc] 39)).alloc (.cells #[.string ⟨#[]⟩, .int .i64 0, .int .i64 0, .int .i64 0, .int .i64 0, .int .i64 0, .string ⟨#[]⟩, .int .i64 0, .slice none 0 0, .bool false, .bool false, .string ⟨#[]⟩, .string ⟨#[]⟩, .int .i64 0] 34)) := by rw [hW0, hX]; rfl
  have HERR : Hid (∀ W : World, ErrIs W 0 opCreate a 0 .nilIface) := fun W => .inl ⟨rfl, rfl⟩
  rw [← hA, hx']
  obtain ⟨L, hL⟩ : ∃ L, L = hs.length := ⟨_, rfl⟩
  rw [← hL] at hll HW
  have HLL : Hid (L = hs.length) := hL
  clear hx' hA hA' hm4 hE hV hlen hcn T T0 z1 z2 z3 z4 hW0 hk hkk hL
  subst hX
  go_enter Tryz.func11, Tryz.ntmps11
  go_upto_region 12 with fail
  rw [← HW0.out]
  go_cut [11, 12] from 63 to 74 (fun h11 h12 wx => ∃ b1, h11 = .pointer (some ⟨b1, 0, none⟩) ∧ h12 = .nilIface ∧ MidH PS S vb ⟨V, x.hs⟩ w wx q mv hs b1 y)
  case first =>
    go_region_with (go_at_call 34; refine (HP.out _ (Alike.mk ?_ ?_ ?_ ?_)).mono ?_; rfl; rfl; rfl; rfl; rintro e w1 ⟨b1, rfl, hm1⟩)
    all_goals
      go_wp2_with fail
      go_meet
      exact ⟨b1, rfl, rfl, HMB.out _ _ _ hm1 ⟨rfl, rfl, rfl, rfl⟩⟩
  case rest =>
    obtain ⟨b1, rfl, rfl, hm1⟩ := hcut
    obtain ⟨S1, G1, T, -, -, -, -⟩ := hm1.vol
    obtain ⟨aom, cm, hmv⟩ := own_shape T.row
    rw [← HLL.out] at hmv
    subst hmv
    have hpm : some vb ≠ (Value.slice aom L cm).ownBlock := fun e => by
      obtain ⟨cur, hc⟩ := own_typed T.row e.symm
      exact typed_ne T.blk hc (by decide) rfl
    have hpl := T.lt
    obtain ⟨d0, d1, df⟩ := T.cells
    have hrow := T.row
    rw [← HLL.out] at hrow
    have HPM : Hid (some vb ≠ (Value.slice aom L cm).ownBlock ∧ wc.heap[vb]? = some (.cells #[.pointer (some ⟨q, 0, none⟩), .slice aom L cm] 45 (0, 0)) ∧ vb < wc.heap.size) := ⟨hpm, T.blk, hpl⟩
    have HM1 : Hid (MidH PS S vb ⟨V, x.hs⟩ w wc q (.slice aom L cm) hs b1 y) := hm1
    clear hm1 T hpm hpl p0 pf sa sk sm0 sm1 sm2 sm3
    go_wp2_with (at_builtin; refine wpList_append_own_at _ rfl _ _ 43 rfl 0 83 im (.pointer none) 1 8 Tryz.underlying43 him hm0 hm1 hm2 rfl (by decide) _ _ _ rfl (hrow.alloc _) ⟨wc.heap.size, 0, none⟩ 1 1 [.pointer (some ⟨b1, 0, none⟩)] rfl rfl (cell_one_new _ _ _) ?c2 ?c3 ?c4 ?c5 ?_)
    case c2 => first | rfl | (intro u hu; simp at hu; subst hu; rfl)
    case c3 => unfold maxLen; omega
    case c4 => omega
    case c5 => exact Nat.zero_le _
    intro v3 w3 hown3 hgrow3 _ hwh3
    have e0 : w3.heap[vb]? = some (.cells #[.pointer (some ⟨q, 0, none⟩), .slice aom L cm] 45 (0, 0)) := (hgrow3.block vb (by have := HPM.out.2.2; simp; omega) HPM.out.1).trans ((Lib.alloc_old _ _ vb HPM.out.2.2).trans HPM.out.2.1)
    obtain ⟨ao3, c3', hv3⟩ := own_shape hown3
    subst hv3
    have e1 : w3.cell? ⟨vb, 1, none⟩ = some (.slice aom L cm) := by rw [Lib.cell_of_heap e0]; rfl
    have f1 := Lib.frozen_of_heap e0 1
    have T3 := HAD.out b1 wc (.cells #[.pointer (some ⟨b1, 0, none⟩)] 83) w3 _ HM1.out (by rw [← HLL.out]; exact hown3) ⟨hgrow3.os, hgrow3.tape, hgrow3.output, hgrow3.size, hgrow3.block⟩ (by rw [show (wc.alloc (.cells #[.pointer (some ⟨b1, 0, none⟩)] 83)).heap.size = wc.heap.size + 1 by simp]; exact hwh3)
    have HT3 : Hid _ := T3
    clear T3 e0 hgrow3 hown3 hwh3 hrow d0 d1 df
    go_upto_region 15 with fail
    refine wp_worldH ?_
    intro W3 hW3
    rw [← hW3] at HT3
    have t3 := HT3.out.2
    have hm3 := HT3.out.1
    clear e1 f1 hW3
    go_wp2_with (go_at_call 31; refine (HW.out _ _ hm3 (HERR.out _) _ (Alike.mk ?_ ?_ ?_ ?_)).mono ?_; rfl; rfl; rfl; rfl; rintro r w2 ⟨rfl, hm2, hr2⟩; obtain ⟨⟨y0, y1, y2, y3, y4, y5, y6, y7, y8, y9, y10, y11, y12, y13⟩, g0, g1, g2, g3, g4, g5, g6, g7, g8, g9, g10, g11, g12, g13⟩ := at14 hr2)
    obtain ⟨⟨u1, u2⟩, u3⟩ := HD14.out w2 hm2 (.string A.s) (.int .i64 A.n) (.int .i64 A.i0) (.int .i64 A.i1) (.int .i64 A.i2) (.int .i64 A.i3) (.string A.iname) (.int .i64 A.isz) (.slice none 0 0) (.bool A.bad) (.bool false) (.string A.op) (.string A.nm) (.int .i64 A.e)
    refine bodyPost_ret (results_one rfl _ _ (w.heap.size + 1) _ _ _ _ rfl u3 Tryz.underlying34 rfl sizeAns) rfl ?_
    exact ⟨none, 0, by rw [HAL.out]; rfl, u1, by rw [HAL.out]; exact u2⟩
theorem call_4 (C : PC PS) (S : Nat → Prop) (vb : Nat) (x : Vl) (k : Nat) (n : Int) (a b : ByteArray) (m0 m1 m2 m3 : Int) (po : Option Addr) (pl pc : Nat) (co : Option Addr) (cl cc : Nat) (w : World) (h : VA PS S vb x w) (hk : Vlf x k) (hkk : k < 2097151) :
    Calls Tryz.prog 11 #[.pointer (some ⟨vb, 0, none⟩), .agg #[.int .i64 4, .int .i64 n, .string a, .string b, .int .i64 m0, .int .i64 m1, .int .i64 m2, .int .i64 m3, .slice po pl pc, .slice co cl cc]] w fun e w' => Stepped PS S vb (x.call ⟨4, n, a, b, m0, m1, m2, m3⟩).1 (x.call ⟨4, n, a, b, m0, m1, m2, m3⟩).2 w w' e := by
  by_cases hE : (x.v.create a m0 m1 m2 m3).1.2 = 0
  · exact call_4ok C S vb x k n a b m0 m1 m2 m3 po pl pc co cl cc w h hk hkk hE
  · exact call_4no C S vb x k n a b m0 m1 m2 m3 po pl pc co cl cc w h hk hkk hE
end Go.Proofs.YtjbphheojfclcaaGreat
