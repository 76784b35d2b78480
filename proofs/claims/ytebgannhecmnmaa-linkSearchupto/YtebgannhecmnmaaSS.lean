
-- state, spare.
import Derived.Test.YtebgannhecmnmaaTW
import Derived.Test.YtebgannhecmnmaaRB
import Derived.Shelf.Abstract
import Derived.Deep.CutRange
namespace Go.Proofs.Ytebgannhecmnmaa
open Go.ChangeShapes Go.WideShapes Go.ChangeAt Go.RowKit Go.MapKept
set_option linter.unusedVariables false
set_option maxRecDepth 100000
/-- a twin of a link -/
structure TwK (B : Nat) (w : World) (vd vw vp : Value) (s : Lk) : Prop where
  d : Tw txL 1 9 B w vd s.d slT
  wt : Tw txL 1 9 B w vw s.w slT
  p : Tw paL 2 30 B w vp s.p (-7, 0)
theorem TwK.on {B : Nat} {w w' : World} {vd vw vp : Value} {s : Lk} (h : TwK B w vd vw vp s) (hb : Below w.heap.size w w') : TwK B w' vd vw vp s := ⟨h.d.on hb, h.wt.on hb, h.p.on hb⟩
theorem st_done {B q : Nat} {w0 x : World} {v1 v2 : Value} {L1 L2 : List ByteArray} (hz : x.heap[q]? = some (.cells #[.slice none 0 0, .slice none 0 0, .slice none 0 0] 26 (0, 0))) (h1 : Tw txL 1 9 B x v1 L1 slT) (h2 : Tw txL 1 9 B x v2 L2 slT) (hb : Below B w0 x) (hq : B ≤ q) :
    (((x.setCell ⟨q, 0, none⟩ v1).setCell ⟨q, 1, none⟩ v2).setCell ⟨q, 2, none⟩ (.slice none 0 0)).heap[q]? = some (.cells #[v1, v2, .slice none 0 0] 26 (0, 0)) ∧ Tw txL 1 9 B (((x.setCell ⟨q, 0, none⟩ v1).setCell ⟨q, 1, none⟩ v2).setCell ⟨q, 2, none⟩ (.slice none 0 0)) v1 L1 slT ∧ Tw txL 1 9 B (((x.setCell ⟨q, 0, none⟩ v1).setCell ⟨q, 1, none⟩ v2).setCell ⟨q, 2, none⟩ (.slice none 0 0)) v2 L2 slT ∧ Below B w0 (((x.setCell ⟨q, 0, none⟩ v1).setCell ⟨q, 1, none⟩ v2).setCell ⟨q, 2, none⟩ (.slice none 0 0)) := by
  obtain ⟨g7, k7⟩ := three_set hz v1 v2 (.slice none 0 0)
  have hk : ∀ k cs, x.heap[k]? = some (.cells cs 9 (0, 0)) → B ≤ k → (((x.setCell ⟨q, 0, none⟩ v1).setCell ⟨q, 1, none⟩ v2).setCell ⟨q, 2, none⟩ (.slice none 0 0)).heap[k]? = x.heap[k]? := fun k cs hc _ => k7.block k (cells_typ hc hz (by decide)) (Array.getElem?_eq_some_iff.1 hc).1
  have hlt := (Array.getElem?_eq_some_iff.1 hz).1
  exact ⟨g7, h1.keep hk, h2.keep hk, hb.trans (k7.below hq (by omega))⟩
theorem st_done2 {B : Nat} {w0 x : World} {v1 v2 : Value} {L1 L2 : List ByteArray} (h1 : Tw txL 1 9 B x v1 L1 slT) (h2 : Tw txL 1 9 B x v2 L2 slT) (hb : Below B w0 x) (hB : B ≤ w0.heap.size) :
    (x.alloc (.cells #[v1, v2, .slice none 0 0] 26)).heap[x.heap.size]? = some (.cells #[v1, v2, .slice none 0 0] 26 (0, 0)) ∧ Tw txL 1 9 B (x.alloc (.cells #[v1, v2, .slice none 0 0] 26)) v1 L1 slT ∧ Tw txL 1 9 B (x.alloc (.cells #[v1, v2, .slice none 0 0] 26)) v2 L2 slT ∧ Below B w0 (x.alloc (.cells #[v1, v2, .slice none 0 0] 26)) := by
  have hb9 : Below x.heap.size x (x.alloc (.cells #[v1, v2, .slice none 0 0] 26)) := (Below.refl _ _).alloc (Nat.le_refl _) _
  exact ⟨heap_alloc_new _ _, h1.on hb9, h2.on hb9, hb.trans (hb9.mono (Nat.le_trans hB hb.size))⟩
theorem step_call1 {ops : Array Oper} {o : Oper} {a : Act} {w : World} {K : Act → World → Prop} {Q : Exit → Act → World → Prop} {E : Prop}
    (hg : o.guard = none) (f : FuncId) (x : Operand) (t1 : TypeId) (hop : o.op = Op.call { callee := Callee.value (Operand.func f), args := #[x], argTypes := #[t1] })
    (v : Value) (hx : a.eval x = v) (eg : ∀ args w, (callFunc f args).run Try.prog w = .ok (.enter f args) w) {R : Ending → World → Prop} (hc : Calls Try.prog f #[v] w R) (hK : ∀ e w', R e w' → ∃ u, e = .returned u ∧ K (a.put o.dst u) w') :
    if Region.wanted o (yielded ops a.tmps) = true then Oper.wp Try.prog o a w K Q else E := by
  rw [if_pos (by simp [Region.wanted, hg])]
  unfold Oper.wp
  subst hx
  have hr : (execOp a.eval o).run Try.prog w = .ok (.enter f #[a.eval x]) w := by
    simp [execOp, hop, resolve, invoke, eg, go_sem]
  rw [hr, Oper.upon_enter]
  refine hc.mono ?_
  intro e w' h
  obtain ⟨u, rfl, hk⟩ := hK e w' h
  exact hk
set_option maxHeartbeats 8000000 in
theorem state_c (vd vw vp : Value) (s : Lk) (w : World) (hd : RowT w vd s.d) (hw : RowT w vw s.w) (hp : RowP w vp s.p) (n1 : s.d.length ≤ 4398046511104) (n2 : s.w.length ≤ 4398046511104) (n3 : s.p.length ≤ 4398046511104) :
    Calls Try.prog 22 #[.agg #[vd, vw, vp]] w fun e w' => ∃ a0 l0 c0 a1 l1 c1 a2 l2 c2, e = .returned (.agg #[.slice a0 l0 c0, .slice a1 l1 c1, .slice a2 l2 c2]) ∧ TwK w.heap.size w' (.slice a0 l0 c0) (.slice a1 l1 c1) (.slice a2 l2 c2) s ∧ Below w.heap.size w w' := by
  obtain ⟨S, hS⟩ : ∃ S, S = Obj.cells #[vd, vw, vp] 26 := ⟨_, rfl⟩
  obtain ⟨Z, hZ⟩ : ∃ Z, Z = Obj.cells #[.slice none 0 0, .slice none 0 0, .slice none 0 0] 26 := ⟨_, rfl⟩
  obtain ⟨w1, hw1⟩ : ∃ w1, w1 = (w.alloc S).alloc Z := ⟨_, rfl⟩
  have hb1 : Below w.heap.size w w1 := by rw [hw1]; exact ((Below.refl _ w).alloc (Nat.le_refl _) S).alloc (by simp) Z
  have hs1 : w1.heap.size = w.heap.size + 2 := by rw [hw1]; simp
  have hx0 : w1.heap[w.heap.size]? = some (.cells #[vd, vw, vp] 26 (0, 0)) := by rw [hw1]; exact hupK (by rw [heap_alloc_new, hS]) Z
  have hz0 : w1.heap[w.heap.size + 1]? = some (.cells #[.slice none 0 0, .slice none 0 0, .slice none 0 0] 26 (0, 0)) := by rw [hw1, heap_new2K, hZ]
  have hv0 : ∀ W, Below w1.heap.size w1 W → W.cell? ⟨w.heap.size, 0, none⟩ = some vd := fun W hb => (lk_cells (hkeepK hb hx0)).1
  have hv1 : ∀ W, Below w1.heap.size w1 W → W.cell? ⟨w.heap.size, 1, none⟩ = some vw := fun W hb => (lk_cells (hkeepK hb hx0)).2.1
  have H1 : Hid (∀ W, Below w1.heap.size w1 W → Calls Try.prog 40 #[vd] W fun e w' => ∃ a l c, e = .returned (.slice a l c) ∧ (Tw txL 1 9 w1.heap.size w' (.slice a l c) s.d slT ∧ Below W.heap.size W w') ∧ Below w1.heap.size w1 w') := fun W hb => (texts_c vd s.d W ((hd.on hb1).on hb) n1).mono (by
    rintro e w' ⟨a, l, c, q1, q2, q3⟩
    exact ⟨a, l, c, q1, ⟨q2.le hb.size, q3⟩, bel3K hb q3⟩)
  have H2 : Hid (∀ W, Below w1.heap.size w1 W → Calls Try.prog 40 #[vw] W fun e w' => ∃ a l c, e = .returned (.slice a l c) ∧ (Tw txL 1 9 w1.heap.size w' (.slice a l c) s.w slT ∧ Below W.heap.size W w') ∧ Below w1.heap.size w1 w') := fun W hb => (texts_c vw s.w W ((hw.on hb1).on hb) n2).mono (by
    rintro e w' ⟨a, l, c, q1, q2, q3⟩
    exact ⟨a, l, c, q1, ⟨q2.le hb.size, q3⟩, bel3K hb q3⟩)
  have hb0 : Below w1.heap.size w1 w1 := Below.refl _ _
  have HX0 := hidK hx0
  have HZ0 := hidK hz0
  have HB1 := hidK hb1
  have HS1 := hidK hs1
  have HP := hidK hp
  obtain ⟨ap, cp, ep, _, _⟩ := hp.form
  obtain ⟨lp, hlp⟩ : ∃ l, l = s.p.length := ⟨_, rfl⟩
  rw [← hlp] at ep n3
  have HLP := hidK hlp
  subst ep
  clear hd hw hp hb1 hs1 hx0 hz0 n1 n2 hlp
  subst hS hZ
  go_enter Try.func22, Try.ntmps22
  go_upto_region 1 with fail
  rw [← hw1]
  clear hw1
  go_cut [3] from 4 to 10 (fun s3 wx => ∃ q a0 l0 c0 a1 l1 c1, s3 = .pointer (some ⟨q, 0, none⟩) ∧ w1.heap.size ≤ q ∧ wx.heap[q]? = some (.cells #[.slice a0 l0 c0, .slice a1 l1 c1, .slice none 0 0] 26 (0, 0)) ∧ Tw txL 1 9 w1.heap.size wx (.slice a0 l0 c0) s.d slT ∧ Tw txL 1 9 w1.heap.size wx (.slice a1 l1 c1) s.w slT ∧ Below w1.heap.size w1 wx)
  case first =>
    have hbZ : Below w1.heap.size w1 (w1.alloc (.cells #[.slice none 0 0, .slice none 0 0, .slice none 0 0] 26)) := (Below.refl _ _).alloc (Nat.le_refl _) _
    have hzZ : (w1.alloc (.cells #[.slice none 0 0, .slice none 0 0, .slice none 0 0] 26)).heap[w1.heap.size]? = some (.cells #[.slice none 0 0, .slice none 0 0, .slice none 0 0] 26 (0, 0)) := heap_alloc_new _ _
    have ya0 := hv0 _ hb0
    have yb0 := hv0 _ hbZ
    have ya1 := hv1 _ hb0
    have yb1 := hv1 _ hbZ
    go_region_law (first
      | (refine step_call1 rfl 40 (.tmp 5) 23 rfl (vd) (by simp [Act.eval]) (enters_of Try.func40 (by kernel_rfl) rfl) (H1.out _ (by first | exact hb0 | exact hb0.drew | exact hbZ | exact hbZ.drew)) ?_; rintro e x1 ⟨a1, l1, c1, rfl, hq1, hS1⟩; refine ⟨_, rfl, ?_⟩; (try (have hz1 : x1.heap[w1.heap.size]? = some (.cells #[.slice none 0 0, .slice none 0 0, .slice none 0 0] 26 (0, 0)) := hkeepK hq1.2 hzZ)); have yc1_0 := hv0 _ hS1; have yd1_0 := hv0 _ (bupK hS1 (.cells #[.slice none 0 0, .slice none 0 0, .slice none 0 0] 26)); have yc1_1 := hv1 _ hS1; have yd1_1 := hv1 _ (bupK hS1 (.cells #[.slice none 0 0, .slice none 0 0, .slice none 0 0] 26)))
      | (refine step_call1 rfl 40 (.tmp 8) 23 rfl (vw) (by simp [Act.eval]) (enters_of Try.func40 (by kernel_rfl) rfl) (H2.out _ (by first | exact hS1 | exact hS1.drew | exact bupK hS1 _ | exact (bupK hS1 _).drew)) ?_; rintro e x2 ⟨a2, l2, c2, rfl, hq2, hS2⟩; refine ⟨_, rfl, ?_⟩; (first | (have hz2 := hkeepK hq2.2 hz1) | (have hz2 : x2.heap[x1.heap.size]? = some (.cells #[.slice none 0 0, .slice none 0 0, .slice none 0 0] 26 (0, 0)) := hkeepK hq2.2 (heap_alloc_new x1 _)) | skip); have ht2 : Tw txL 1 9 w1.heap.size x2 (.slice a1 l1 c1) s.d slT := (by first | exact hq1.1.on hq2.2 | exact (hq1.1.on (bupK (Below.refl _ _) _)).on hq2.2); try (obtain ⟨z0, z1, z2⟩ := lk_cells hz2; have f0 := Lib.frozen_of_heap hz2 0; have f1 := Lib.frozen_of_heap hz2 1; have f2 := Lib.frozen_of_heap hz2 2)))
    all_goals
      clear yc1_0 yc1_1 yd1_0 yd1_1 ya0 ya1 yb0 yb1 hbZ hzZ H1 H2 hv0 hv1
    all_goals first
      | (have HD := hidK (st_done (B := w1.heap.size) (w0 := w1) hz2 ht2 hq2.1 hS2 hS1.size)
         clear z0 z1 z2 f0 f1 f2 hz2 ht2 hq1 hq2
         go_wp2
         go_meet
         case rel => exact ⟨_, _, _, _, _, _, _, rfl, hS1.size, HD.out.1, HD.out.2.1, HD.out.2.2.1, HD.out.2.2.2⟩)
      | (have HD := hidK (st_done (B := w1.heap.size) (w0 := w1) hz2 ht2 hq2.1 hS2 (Nat.le_refl _))
         clear z0 z1 z2 f0 f1 f2 hz2 ht2 hq1 hq2
         go_wp2
         go_meet
         case rel => exact ⟨_, _, _, _, _, _, _, rfl, Nat.le_refl _, HD.out.1, HD.out.2.1, HD.out.2.2.1, HD.out.2.2.2⟩)
      | (have HD := hidK (st_done2 (B := w1.heap.size) (w0 := w1) ht2 hq2.1 hS2 (Nat.le_refl _))
         clear ht2 hq1 hq2
         go_wp2
         go_meet
         case rel => exact ⟨_, _, _, _, _, _, _, rfl, hS2.size, HD.out.1, HD.out.2.1, HD.out.2.2.1, HD.out.2.2.2⟩)
  case rest =>
    obtain ⟨q, a0, l0, c0, a1, l1, c1, rfl, hq, hg, ht0, ht1, hbc⟩ := hcut
    clear H1 H2 hv0 hv1 hb0
    have HG := hidK hg
    have HT0 := hidK ht0
    have HT1 := hidK ht1
    have HBC := hidK hbc
    obtain ⟨x0, x1, x2⟩ := lk_cells (hkeepK hbc HX0.out)
    obtain ⟨y0, y1, y2⟩ := lk_cells hg
    have hbw := HB1.out.trans (hbc.mono HB1.out.size)
    have HPW := hidK (HP.out.on hbw)
    have HBW := hidK hbw
    clear hg ht0 ht1 hbc hbw
    go_upto_region 3 with (first
      | (refine wpG_all (F := fun b => w1.heap.size ≤ b) elP rfl (.tmp 12) (.tmp 14) rfl (.slice none 0 0) (.slice ap lp cp) [] s.p rfl rfl OwnF.nil HPW.out (fun m _ => paL_one m) (by have := HLP.out; simp; omega) (fun b hb => Nat.le_trans HBC.out.size hb) ?_; intro v5 w5 o5 k5 l5; rw [List.nil_append] at o5; obtain ⟨a5, c5, e5, _⟩ := o5.form; rw [← HLP.out] at e5; subst e5; have HO5 := hidK o5; have HK5 := hidK k5; clear o5 k5 l5; have HB5 : Hid (Below wc.heap.size wc w5) := HK5.out.below (fun k hk => by simp [Value.ownBlock] at hk) (Nat.le_refl _))
      | (refine wpList_store_kz rfl rfl 24 _ _ rfl q 2 (.slice a5 lp c5) rfl rfl 26 #[.slice a0 l0 c0, .slice a1 l1 c1, .slice none 0 0] #[.slice a0 l0 c0, .slice a1 l1 c1, .slice a5 lp c5] (hkeepK HB5.out HG.out) sizeSlP rfl rfl rfl ?_; intro W6 g6 q6; have HG6 := hidK g6; have HQ6 := hidK q6; clear g6 q6))
    have HO6 : Hid (OwnF (fun b => w1.heap.size ≤ b) paL 2 30 W6 (.slice a5 lp c5) s.p) := HO5.out.keep (fun k hk => by
      obtain ⟨cs, hc⟩ := HO5.out.typed hk
      exact HQ6.out.block k (cells_typ hc (hkeepK HB5.out HG.out) (by decide)) (HO5.out.lt k hk))
    have HT6 : Hid (Tw txL 1 9 w1.heap.size W6 (.slice a0 l0 c0) s.d slT ∧ Tw txL 1 9 w1.heap.size W6 (.slice a1 l1 c1) s.w slT) := ⟨(HT0.out.on HB5.out).keep (fun k cs hc _ => HQ6.out.block k (cells_typ hc (hkeepK HB5.out HG.out) (by decide)) (Array.getElem?_eq_some_iff.1 hc).1), (HT1.out.on HB5.out).keep (fun k cs hc _ => HQ6.out.block k (cells_typ hc (hkeepK HB5.out HG.out) (by decide)) (Array.getElem?_eq_some_iff.1 hc).1)⟩
    have HB6 : Hid (Below w1.heap.size w1 W6) := by
      have h5 := HBC.out.trans (HB5.out.mono HBC.out.size)
      exact h5.trans (HQ6.out.below hq h5.size)
    clear x0 x1 x2 y0 y1 y2 HO5 HK5 HG HQ6 HT0 HT1 HB5 HBC HPW HBW
    obtain ⟨x0, x1, x2⟩ := lk_cells (hkeepK HB6.out HX0.out)
    obtain ⟨y0, y1, y2⟩ := lk_cells HG6.out
    go_upto_region 4 with (first
      | (refine wpG_one (F := fun b => w1.heap.size ≤ b) elP rfl (.tmp 18) (.tmp 20) rfl (.slice a5 lp c5) s.p (-7, 0) #[.int .i64 (-7), .int .i64 0] rfl rfl rfl HO6.out (paL_one _) (by have := HLP.out; omega) (fun b hb => Nat.le_trans HB6.out.size hb) ?_; intro v7 w7 o7 k7 l7; obtain ⟨g, cap, e7, hc1, hc2, htw⟩ := Tw.of o7; rw [← HLP.out] at e7 hc1; subst e7; have HT7 := hidK htw; have HK7 := hidK k7; have HG7 := hidK ((k7.block q (Array.getElem?_eq_some_iff.1 HG6.out).1 (fun e => by { obtain ⟨cs, hc⟩ := HO6.out.typed e; exact cells_typ hc HG6.out (by decide) rfl })).trans HG6.out); clear o7 k7 l7 htw)
      | (refine wpList_store_kz rfl rfl 24 _ _ rfl q 2 (.slice (some ⟨g, 0, none⟩) (lp + 1) cap) rfl rfl 26 #[.slice a0 l0 c0, .slice a1 l1 c1, .slice a5 lp c5] #[.slice a0 l0 c0, .slice a1 l1 c1, .slice (some ⟨g, 0, none⟩) (lp + 1) cap] HG7.out sizeSlP rfl rfl rfl ?_; intro W8 g8 q8; have HG8 := hidK g8; have HQ8 := hidK q8; clear g8 q8))
    have HT8 : Hid (Tw txL 1 9 w1.heap.size W8 (.slice a0 l0 c0) s.d slT ∧ Tw txL 1 9 w1.heap.size W8 (.slice a1 l1 c1) s.w slT ∧ Tw paL 2 30 w1.heap.size W8 (.slice (some ⟨g, 0, none⟩) lp cap) s.p (-7, 0)) := by
      have up : ∀ (k : Nat) (cs : Array Value) (t : TypeId), w7.heap[k]? = some (.cells cs t (0, 0)) → t ≠ 26 → W8.heap[k]? = w7.heap[k]? := fun k cs t hc ht => HQ8.out.block k (cells_typ hc HG7.out ht) (Array.getElem?_eq_some_iff.1 hc).1
      have h67 : ∀ (v : Value) (L : List ByteArray), Tw txL 1 9 w1.heap.size W6 v L slT → Tw txL 1 9 w1.heap.size w7 v L slT := fun v L h => h.keep (fun k cs hc _ => HK7.out.block k (Array.getElem?_eq_some_iff.1 hc).1 (fun e => by
        obtain ⟨cs', hc'⟩ := HO6.out.typed e
        exact cells_typ hc hc' (by decide) rfl))
      have h7 : Tw paL 2 30 w1.heap.size w7 (.slice (some ⟨g, 0, none⟩) lp cap) s.p (-7, 0) := by have := HT7.out; rw [← HLP.out] at this; exact this
      exact ⟨(h67 _ _ HT6.out.1).keep (fun k cs hc _ => up k cs _ hc (by decide)), (h67 _ _ HT6.out.2).keep (fun k cs hc _ => up k cs _ hc (by decide)), h7.keep (fun k cs hc _ => up k cs _ hc (by decide))⟩
    have HB8 : Hid (Below w1.heap.size w1 W8) := by
      have h7 := HB6.out.trans (HK7.out.below (fun b hb => HO6.out.2 b hb) HB6.out.size)
      exact h7.trans (HQ8.out.below hq h7.size)
    clear x0 x1 x2 y0 y1 y2 HO6 HK7 HG6 HG7 HQ8 HT6 HT7 HB6
    obtain ⟨x0, x1, x2⟩ := lk_cells (hkeepK HB8.out HX0.out)
    obtain ⟨y0, y1, y2⟩ := lk_cells HG8.out
    have i1 : (lp : Int) ≤ (cap : Int) := by omega
    have hc3 : cap ≤ 9223372036854775807 := by unfold maxLen at hc2; omega
    go_upto_region 5 with (refine wpList_store_kz rfl rfl 24 _ _ rfl q 2 (.slice (some ⟨g, 0, none⟩) lp cap) rfl rfl 26 #[.slice a0 l0 c0, .slice a1 l1 c1, .slice (some ⟨g, 0, none⟩) (lp + 1) cap] #[.slice a0 l0 c0, .slice a1 l1 c1, .slice (some ⟨g, 0, none⟩) lp cap] HG8.out sizeSlP rfl rfl rfl ?_; intro W9 g9 q9; have HG9 := hidK g9; have HQ9 := hidK q9; clear g9 q9)
    have HT9 : Hid (Tw txL 1 9 w1.heap.size W9 (.slice a0 l0 c0) s.d slT ∧ Tw txL 1 9 w1.heap.size W9 (.slice a1 l1 c1) s.w slT ∧ Tw paL 2 30 w1.heap.size W9 (.slice (some ⟨g, 0, none⟩) lp cap) s.p (-7, 0)) := by
      have up : ∀ (k : Nat) (cs : Array Value) (t : TypeId), W8.heap[k]? = some (.cells cs t (0, 0)) → t ≠ 26 → W9.heap[k]? = W8.heap[k]? := fun k cs t hc ht => HQ9.out.block k (cells_typ hc HG8.out ht) (Array.getElem?_eq_some_iff.1 hc).1
      exact ⟨HT8.out.1.keep (fun k cs hc _ => up k cs _ hc (by decide)), HT8.out.2.1.keep (fun k cs hc _ => up k cs _ hc (by decide)), HT8.out.2.2.keep (fun k cs hc _ => up k cs _ hc (by decide))⟩
    have HB9 : Hid (Below w1.heap.size w1 W9) := HB8.out.trans (HQ9.out.below hq HB8.out.size)
    clear x0 x1 x2 y0 y1 y2 HG8 HQ9 HT8 HB8
    obtain ⟨y0, y1, y2⟩ := lk_cells HG9.out
    have HZ9 := hidK (hkeepK HB9.out HZ0.out)
    go_wp2_with (refine wpList_store_kz rfl rfl 26 _ _ rfl (w.heap.size + 1) 0 (.agg #[.slice a0 l0 c0, .slice a1 l1 c1, .slice (some ⟨g, 0, none⟩) lp cap]) rfl rfl 26 #[.slice none 0 0, .slice none 0 0, .slice none 0 0] #[.slice a0 l0 c0, .slice a1 l1 c1, .slice (some ⟨g, 0, none⟩) lp cap] HZ9.out sizeLink rfl rfl rfl ?_; intro WA gA qA; have HGA := hidK gA; have HQA := hidK qA; clear gA qA)
    refine bodyPost_ret (results_cell_row rfl _ _ (w.heap.size + 1) _ _ _ _ rfl HGA.out Try.underlying26 rfl sizeLink) rfl ?_
    have up : ∀ (k : Nat) (cs : Array Value) (t : TypeId), W9.heap[k]? = some (.cells cs t (0, 0)) → t ≠ 26 → WA.heap[k]? = W9.heap[k]? := fun k cs t hc ht => HQA.out.block k (cells_typ hc HZ9.out ht) (Array.getElem?_eq_some_iff.1 hc).1
    have hb9 := HB1.out.trans (HB9.out.mono HB1.out.size)
    have hl := HB1.out.size
    exact ⟨_, _, _, _, _, _, _, _, _, rfl, ⟨(HT9.out.1.keep (fun k cs hc _ => up k cs _ hc (by decide))).le hl, (HT9.out.2.1.keep (fun k cs hc _ => up k cs _ hc (by decide))).le hl, (HT9.out.2.2.keep (fun k cs hc _ => up k cs _ hc (by decide))).le hl⟩, hb9.trans (HQA.out.below (by omega) hb9.size)⟩
/-- the mark behind a twin's list -/
theorem Tw.last {α : Type} {c : α → List Value} {z e sl bytes B : Nat} (E : El c z e sl bytes) {w : World} {v : Value} {L : List α} {m : α} (h : Tw c z e B w v L m) : ∃ g cap, v = .slice (some ⟨g, 0, none⟩) L.length cap ∧ L.length + 1 ≤ cap ∧ cap ≤ maxLen ∧ ∀ i u, (c m)[i]? = some u → w.cell? ⟨g, L.length * z + i, none⟩ = some u := by
  obtain ⟨g, cap, h1, h2, h3, h4⟩ := h.full E
  refine ⟨g, cap, h1, h2, h3, fun i u hu => ?_⟩
  obtain ⟨b, off, cp, e, _, _, hc⟩ := RowG.at (k := L.length) (x := m) E.len h4 (by simp)
  injection e with e _ _
  injection e with e
  injection e with e1 e2 _
  have := hc i u hu
  rw [← e1, ← e2, Nat.zero_add] at this
  exact this
set_option maxHeartbeats 8000000 in
theorem spare_c (vd vw vp : Value) (s : Lk) (B : Nat) (w : World) (h : TwK B w vd vw vp s) :
    Calls Try.prog 28 #[.agg #[vd, vw, vp]] w fun e w' => e = .returned (.bool true) ∧ Below w.heap.size w w' := by
  obtain ⟨g0, c0, e0, p0, q0, r0⟩ := h.d.last elT
  obtain ⟨g1, c1, e1, p1, q1, r1⟩ := h.wt.last elT
  obtain ⟨g2, c2, e2, p2, q2, r2⟩ := h.p.last elP
  have d0 := r0 0 _ rfl
  have d1 := r1 0 _ rfl
  have d2 := r2 0 _ rfl
  have d3 := r2 1 _ rfl
  rw [Nat.mul_one, Nat.add_zero] at d0 d1
  rw [Nat.add_zero] at d2
  obtain ⟨l0, hl0⟩ : ∃ l, l = s.d.length := ⟨_, rfl⟩
  obtain ⟨l1, hl1⟩ : ∃ l, l = s.w.length := ⟨_, rfl⟩
  obtain ⟨l2, hl2⟩ : ∃ l, l = s.p.length := ⟨_, rfl⟩
  rw [← hl0] at e0 p0 d0
  rw [← hl1] at e1 p1 d1
  rw [← hl2] at e2 p2 d2 d3
  subst e0 e1 e2
  unfold maxLen at q0 q1 q2
  obtain ⟨S, hS⟩ : ∃ S, S = Obj.cells #[.slice (some ⟨g0, 0, none⟩) l0 c0, .slice (some ⟨g1, 0, none⟩) l1 c1, .slice (some ⟨g2, 0, none⟩) l2 c2] 26 := ⟨_, rfl⟩
  obtain ⟨w1, hw1⟩ : ∃ w1, w1 = w.alloc S := ⟨_, rfl⟩
  have hb1 : Below w.heap.size w w1 := by rw [hw1]; exact (Below.refl _ w).alloc (Nat.le_refl _) S
  have hx0 : w1.heap[w.heap.size]? = some (.cells #[.slice (some ⟨g0, 0, none⟩) l0 c0, .slice (some ⟨g1, 0, none⟩) l1 c1, .slice (some ⟨g2, 0, none⟩) l2 c2] 26 (0, 0)) := by rw [hw1, heap_alloc_new, hS]
  obtain ⟨y0, y1, y2⟩ := lk_cells hx0
  have d0' := cell_onG d0 hb1
  have d1' := cell_onG d1 hb1
  have d2' := cell_onG d2 hb1
  have d3' := cell_onG d3 hb1
  have HB1 := hidK hb1
  have k0 : IntKind.i64.wrap ((l0 : Int) + 1) = (l0 : Int) + 1 := by rw [IntKind.wrap_i64]; omega
  have k1 : IntKind.i64.wrap ((l1 : Int) + 1) = (l1 : Int) + 1 := by rw [IntKind.wrap_i64]; omega
  have k2 : IntKind.i64.wrap ((l2 : Int) + 1) = (l2 : Int) + 1 := by rw [IntKind.wrap_i64]; omega
  have n0 : (l0 : Int) + 1 ≤ (c0 : Int) := by omega
  have n1 : (l1 : Int) + 1 ≤ (c1 : Int) := by omega
  have n2 : (l2 : Int) + 1 ≤ (c2 : Int) := by omega
  have hE := fun W => run_equalIn_pl W (-7) 0 (-7) 0
  simp only [and_self, decide_true] at hE
  have hs : slT = ⟨#[47]⟩ := rfl
  rw [hs] at d0' d1'
  clear h r0 r1 r2 d0 d1 d2 d3 hl0 hl1 hl2 hb1 hx0 hs
  subst hS
  go_enter Try.func28, Try.ntmps28
  go_upto_region 1 with fail
  rw [← hw1]
  clear hw1
  go_wp2
  go_ret
  exact ⟨rfl, HB1.out⟩
end Go.Proofs.Ytebgannhecmnmaa
