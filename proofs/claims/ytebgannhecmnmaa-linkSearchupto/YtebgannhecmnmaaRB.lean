
-- A link in a box, and how its lists are put there; the document's fresh.
import Derived.Test.YtebgannhecmnmaaRA
import Derived.Test.YtebgannhecmnmaaWF
import Derived.Lib.FrozenHead2
namespace Go.Proofs.Ytebgannhecmnmaa
open Go.ChangeShapes Go.WideShapes Go.ChangeAt Go.RowKit Go.MapKept
set_option linter.unusedVariables false
set_option maxRecDepth 100000
/-- a link in a box -/
structure LkBox (B g : Nat) (w : World) (vd vw vp : Value) (x : Lk) : Prop where
  blk : w.heap[g]? = some (.cells #[vd, vw, vp] 26 (0, 0))
  own : LkOwn B w vd vw vp x
theorem LkOwn.keep {B : Nat} {w w' : World} {a b c : Value} {x : Lk} (h : LkOwn B w a b c x) (h1 : ∀ k, a.ownBlock = some k → w'.heap[k]? = w.heap[k]?) (h2 : ∀ k, b.ownBlock = some k → w'.heap[k]? = w.heap[k]?) (h3 : ∀ k, c.ownBlock = some k → w'.heap[k]? = w.heap[k]?) : LkOwn B w' a b c x :=
  ⟨h.d.keep h1, h.wt.keep h2, h.p.keep h3, h.n⟩
/-- a link beside a box that is written -/
theorem LkOwn.store {B g : Nat} {w w' : World} {a b c : Value} {x : Lk} {cs : Array Value} (h : LkOwn B w a b c x) (hg : w.heap[g]? = some (.cells cs 26 (0, 0))) (hq : Kq g w w') : LkOwn B w' a b c x :=
  h.keep (fun k hk => hq.block k (by obtain ⟨c1, e1⟩ := h.d.typed hk; exact cells_typ e1 hg (by decide)) (h.d.lt k hk)) (fun k hk => hq.block k (by obtain ⟨c1, e1⟩ := h.wt.typed hk; exact cells_typ e1 hg (by decide)) (h.wt.lt k hk)) (fun k hk => hq.block k (by obtain ⟨c1, e1⟩ := h.p.typed hk; exact cells_typ e1 hg (by decide)) (h.p.lt k hk))
section
variable {B g : Nat} {w w4 W5 : World} {vd vw vp : Value} {x : Lk}
theorem LkBox.glt (h : LkBox B g w vd vw vp x) : g < w.heap.size := (Array.getElem?_eq_some_iff.1 h.blk).1
theorem LkBox.on (h : LkBox B g w vd vw vp x) (hb : Below w.heap.size w w4) : LkBox B g w4 vd vw vp x := ⟨hkeepK hb h.blk, h.own.on hb⟩
theorem LkBox.cells (h : LkBox B g w vd vw vp x) : w.cell? ⟨g, 0, none⟩ = some vd ∧ w.cell? ⟨g, 1, none⟩ = some vw ∧ w.cell? ⟨g, 2, none⟩ = some vp := lk_cells h.blk
theorem LkBox.nd (h : LkBox B g w vd vw vp x) : ∀ k, vd.ownBlock = some k → k ≠ g ∧ vw.ownBlock ≠ some k ∧ vp.ownBlock ≠ some k := fun k hk => by
  obtain ⟨c1, e1⟩ := h.own.d.typed hk
  refine ⟨cells_typ e1 h.blk (by decide), h.own.n k hk, fun e => ?_⟩
  obtain ⟨c2, e2⟩ := h.own.p.typed e
  exact cells_typ e1 e2 (by decide) rfl
theorem LkBox.nw (h : LkBox B g w vd vw vp x) : ∀ k, vw.ownBlock = some k → k ≠ g ∧ vd.ownBlock ≠ some k ∧ vp.ownBlock ≠ some k := fun k hk => by
  obtain ⟨c1, e1⟩ := h.own.wt.typed hk
  refine ⟨cells_typ e1 h.blk (by decide), fun e => h.own.n k e hk, fun e => ?_⟩
  obtain ⟨c2, e2⟩ := h.own.p.typed e
  exact cells_typ e1 e2 (by decide) rfl
theorem LkBox.np (h : LkBox B g w vd vw vp x) : ∀ k, vp.ownBlock = some k → k ≠ g ∧ vd.ownBlock ≠ some k ∧ vw.ownBlock ≠ some k := fun k hk =>
  ⟨by obtain ⟨c1, e1⟩ := h.own.p.typed hk; exact cells_typ e1 h.blk (by decide), fun e => (h.nd k e).2.2 hk, fun e => (h.nw k e).2.2 hk⟩
theorem LkBox.putD {vd' : Value} {d' : List ByteArray} (h : LkBox B g w vd vw vp x) (hk : Kp (fun k => vd.ownBlock = some k) w w4) (ho : OwnF (fun b => B ≤ b) txL 1 9 w4 vd' d') (hl : ∀ k, vd'.ownBlock = some k → vd.ownBlock = some k ∨ w.heap.size ≤ k)
    (hg : W5.heap[g]? = some (.cells #[vd', vw, vp] 26 (0, 0))) (hq : Kq g w4 W5) : LkBox B g W5 vd' vw vp ⟨d', x.w, x.p⟩ := by
  have up : ∀ k, k < w.heap.size → vd.ownBlock ≠ some k → k ≠ g → W5.heap[k]? = w.heap[k]? := fun k h1 h2 h3 => (hq.block k h3 (Nat.lt_of_lt_of_le h1 hk.size)).trans (hk.block k h1 h2)
  have hg4 := (hk.block g h.glt (fun e => (h.nd g e).1 rfl)).trans h.blk
  refine ⟨hg, ⟨ho.keep fun k e => hq.block k ?_ (ho.lt k e), h.own.wt.keep fun k e => up k (h.own.wt.lt k e) (h.nw k e).2.1 (h.nw k e).1, h.own.p.keep fun k e => up k (h.own.p.lt k e) (h.np k e).2.1 (h.np k e).1, fun k e e2 => ?_⟩⟩
  · obtain ⟨c1, e1⟩ := ho.typed e
    exact cells_typ e1 hg4 (by decide)
  · rcases hl k e with q | q
    · exact h.own.n k q e2
    · have := h.own.wt.lt k e2; omega
theorem LkBox.putW {vw' : Value} {d' : List ByteArray} (h : LkBox B g w vd vw vp x) (hk : Kp (fun k => vw.ownBlock = some k) w w4) (ho : OwnF (fun b => B ≤ b) txL 1 9 w4 vw' d') (hl : ∀ k, vw'.ownBlock = some k → vw.ownBlock = some k ∨ w.heap.size ≤ k)
    (hg : W5.heap[g]? = some (.cells #[vd, vw', vp] 26 (0, 0))) (hq : Kq g w4 W5) : LkBox B g W5 vd vw' vp ⟨x.d, d', x.p⟩ := by
  have up : ∀ k, k < w.heap.size → vw.ownBlock ≠ some k → k ≠ g → W5.heap[k]? = w.heap[k]? := fun k h1 h2 h3 => (hq.block k h3 (Nat.lt_of_lt_of_le h1 hk.size)).trans (hk.block k h1 h2)
  have hg4 := (hk.block g h.glt (fun e => (h.nw g e).1 rfl)).trans h.blk
  refine ⟨hg, ⟨h.own.d.keep fun k e => up k (h.own.d.lt k e) (h.nd k e).2.1 (h.nd k e).1, ho.keep fun k e => hq.block k ?_ (ho.lt k e), h.own.p.keep fun k e => up k (h.own.p.lt k e) (h.np k e).2.2 (h.np k e).1, fun k e e2 => ?_⟩⟩
  · obtain ⟨c1, e1⟩ := ho.typed e
    exact cells_typ e1 hg4 (by decide)
  · rcases hl k e2 with q | q
    · exact h.own.n k e q
    · have := h.own.d.lt k e; omega
theorem LkBox.putP {vp' : Value} {d' : List (Int × Int)} (h : LkBox B g w vd vw vp x) (hk : Kp (fun k => vp.ownBlock = some k) w w4) (ho : OwnF (fun b => B ≤ b) paL 2 30 w4 vp' d')
    (hg : W5.heap[g]? = some (.cells #[vd, vw, vp'] 26 (0, 0))) (hq : Kq g w4 W5) : LkBox B g W5 vd vw vp' ⟨x.d, x.w, d'⟩ := by
  have up : ∀ k, k < w.heap.size → vp.ownBlock ≠ some k → k ≠ g → W5.heap[k]? = w.heap[k]? := fun k h1 h2 h3 => (hq.block k h3 (Nat.lt_of_lt_of_le h1 hk.size)).trans (hk.block k h1 h2)
  have hg4 := (hk.block g h.glt (fun e => (h.np g e).1 rfl)).trans h.blk
  refine ⟨hg, ⟨h.own.d.keep fun k e => up k (h.own.d.lt k e) (h.nd k e).2.2 (h.nd k e).1, h.own.wt.keep fun k e => up k (h.own.wt.lt k e) (h.nw k e).2.2 (h.nw k e).1, ho.keep fun k e => hq.block k ?_ (ho.lt k e), h.own.n⟩⟩
  obtain ⟨c1, e1⟩ := ho.typed e
  exact cells_typ e1 hg4 (by decide)
/-- a list that is quite new -/
theorem LkBox.newD {vd' : Value} {d' : List ByteArray} (h : LkBox B g w vd vw vp x) (hb : Below w.heap.size w w4) (ho : OwnF (fun b => w.heap.size ≤ b) txL 1 9 w4 vd' d') (hB : B ≤ w.heap.size)
    (hg : W5.heap[g]? = some (.cells #[vd', vw, vp] 26 (0, 0))) (hq : Kq g w4 W5) : LkBox B g W5 vd' vw vp ⟨d', x.w, x.p⟩ :=
  h.putD (w4 := w4) (Kp.of_below hb) (ho.weak fun b hb => Nat.le_trans hB hb) (fun k hk => .inr (ho.2 k hk)) hg hq
theorem LkBox.newW {vw' : Value} {d' : List ByteArray} (h : LkBox B g w vd vw vp x) (hb : Below w.heap.size w w4) (ho : OwnF (fun b => w.heap.size ≤ b) txL 1 9 w4 vw' d') (hB : B ≤ w.heap.size)
    (hg : W5.heap[g]? = some (.cells #[vd, vw', vp] 26 (0, 0))) (hq : Kq g w4 W5) : LkBox B g W5 vd vw' vp ⟨x.d, d', x.p⟩ :=
  h.putW (w4 := w4) (Kp.of_below hb) (ho.weak fun b hb => Nat.le_trans hB hb) (fun k hk => .inr (ho.2 k hk)) hg hq
end
set_option maxHeartbeats 8000000 in
theorem rfresh_c (vd vw vp : Value) (s : Lk) (w : World) (hd : RowT w vd s.d) (hw : RowT w vw s.w) (hp : RowP w vp s.p) (n1 : s.d.length ≤ 4398046511104) (n2 : s.w.length ≤ 4398046511104) (n3 : s.p.length ≤ 4398046511104) :
    Calls Try.prog 44 #[.agg #[vd, vw, vp]] w fun e w' => ∃ a0 l0 c0 a1 l1 c1 a2 l2 c2, e = .returned (.agg #[.slice a0 l0 c0, .slice a1 l1 c1, .slice a2 l2 c2]) ∧ LkOwn w.heap.size w' (.slice a0 l0 c0) (.slice a1 l1 c1) (.slice a2 l2 c2) s ∧ Below w.heap.size w w' := by
  obtain ⟨S, hS⟩ : ∃ S, S = Obj.cells #[vd, vw, vp] 26 := ⟨_, rfl⟩
  obtain ⟨Z, hZ⟩ : ∃ Z, Z = Obj.cells #[.slice none 0 0, .slice none 0 0, .slice none 0 0] 26 := ⟨_, rfl⟩
  obtain ⟨w1, hw1⟩ : ∃ w1, w1 = ((w.alloc S).alloc Z).alloc Z := ⟨_, rfl⟩
  have hb1 : Below w.heap.size w w1 := by rw [hw1]; exact (((Below.refl _ w).alloc (Nat.le_refl _) S).alloc (by simp) Z).alloc (by simp; omega) Z
  have hs1 : w1.heap.size = w.heap.size + 3 := by rw [hw1]; simp
  have hx0 : w1.heap[w.heap.size]? = some (.cells #[vd, vw, vp] 26 (0, 0)) := by rw [hw1]; exact hupK (hupK (by rw [heap_alloc_new, hS]) Z) Z
  have hy0 : w1.heap[w.heap.size + 1]? = some (.cells #[.slice none 0 0, .slice none 0 0, .slice none 0 0] 26 (0, 0)) := by rw [hw1]; exact hupK (by rw [heap_new2K, hZ]) Z
  have hz0 : w1.heap[w.heap.size + 1 + 1]? = some (.cells #[.slice none 0 0, .slice none 0 0, .slice none 0 0] 26 (0, 0)) := by rw [hw1, heap_new3K, hZ]
  have hbox : LkBox w.heap.size (w.heap.size + 1 + 1) w1 (.slice none 0 0) (.slice none 0 0) (.slice none 0 0) ⟨[], [], []⟩ := ⟨hz0, ⟨OwnF.nil, OwnF.nil, OwnF.nil, fun k hk => by simp [Value.ownBlock] at hk⟩⟩
  obtain ⟨x0, x1, x2⟩ := lk_cells hx0
  have HC1 := hidK (rcopied_c vd s.d w1 (hd.on hb1) n1)
  have HBOX := hidK hbox
  have HX0 := hidK hx0
  have HY0 := hidK hy0
  have HB1 := hidK hb1
  have HS1 := hidK hs1
  have HW := hidK hw
  have HPR := hidK hp
  obtain ⟨ap, cp, ep, _, _⟩ := hp.form
  obtain ⟨lp, hlp⟩ : ∃ l, l = s.p.length := ⟨_, rfl⟩
  rw [← hlp] at ep n3
  have HLP := hidK hlp
  subst ep
  clear hd hw hp hb1 hs1 hx0 hy0 hz0 hbox hlp
  subst hS hZ
  go_enter Try.func44, Try.ntmps44
  go_upto_region 2 with fail
  rw [← hw1]
  clear hw1
  go_upto_region 3 with (first
    | (go_at_call 57; refine HC1.out.mono ?_; rintro e w2 ⟨u, rfl, q1, q2⟩; obtain ⟨a0, c0, e0, _⟩ := q1.form; obtain ⟨l0, hl0⟩ : ∃ l, l = s.d.length := ⟨_, rfl⟩; rw [← hl0] at e0; clear hl0; subst e0; have HO2 := hidK q1; have HB2 := hidK q2; clear q1 q2)
    | (refine wpList_store_kz rfl rfl 23 _ _ rfl (w.heap.size + 1 + 1) 0 (.slice a0 l0 c0) rfl rfl 26 #[.slice none 0 0, .slice none 0 0, .slice none 0 0] #[.slice a0 l0 c0, .slice none 0 0, .slice none 0 0] (hkeepK HB2.out HBOX.out.blk) sizeSl rfl rfl rfl ?_; intro W3 g3 q3; have HG3 := hidK g3; have HQ3 := hidK q3; clear g3 q3))
  have hs1 := HS1.out
  have HX3 := hidK (HBOX.out.newD HB2.out HO2.out (by omega) HG3.out HQ3.out)
  have HB3 : Hid (Below (w.heap.size + 2) w1 W3) := by
    have h2 := HB2.out.mono (show w.heap.size + 2 ≤ w1.heap.size by omega)
    exact h2.trans (HQ3.out.below (by omega) (by have := HB2.out.size; omega))
  clear x0 x1 x2 HBOX HO2 HG3 HQ3 HB2 HC1
  have hx3 : W3.heap[w.heap.size]? = some (.cells #[vd, vw, .slice ap lp cp] 26 (0, 0)) := (HB3.out.block _ (by omega)).trans HX0.out
  obtain ⟨x0, x1, x2⟩ := lk_cells hx3
  have hbw3 : Below w.heap.size w W3 := HB1.out.trans (HB3.out.mono (by omega))
  have HC2 := hidK (rcopied_c vw s.w W3 (HW.out.on hbw3) n2)
  have HBW3 := hidK hbw3
  clear hx3 hbw3
  go_upto_region 4 with (first
    | (go_at_call 57; refine HC2.out.mono ?_; rintro e w4 ⟨u, rfl, q1, q2⟩; obtain ⟨a1, c1, e1, _⟩ := q1.form; obtain ⟨l1, hl1⟩ : ∃ l, l = s.w.length := ⟨_, rfl⟩; rw [← hl1] at e1; clear hl1; subst e1; have HO4 := hidK q1; have HB4 := hidK q2; clear q1 q2)
    | (refine wpList_store_kz rfl rfl 23 _ _ rfl (w.heap.size + 1 + 1) 1 (.slice a1 l1 c1) rfl rfl 26 #[.slice a0 l0 c0, .slice none 0 0, .slice none 0 0] #[.slice a0 l0 c0, .slice a1 l1 c1, .slice none 0 0] (hkeepK HB4.out HX3.out.blk) sizeSl rfl rfl rfl ?_; intro W5 g5 q5; have HG5 := hidK g5; have HQ5 := hidK q5; clear g5 q5))
  have HX5 := hidK (HX3.out.newW HB4.out HO4.out HBW3.out.size HG5.out HQ5.out)
  have HB5 : Hid (Below (w.heap.size + 2) w1 W5) := by
    have h0 := HB3.out.size
    have h2 := HB3.out.trans (HB4.out.mono (show w.heap.size + 2 ≤ W3.heap.size by omega))
    exact h2.trans (HQ5.out.below (by omega) (by have := HB4.out.size; omega))
  clear x0 x1 x2 HX3 HO4 HG5 HQ5 HB4 HC2 HB3 HBW3
  have HBW : Hid (∀ W, Below (w.heap.size + 2) w1 W → Below w.heap.size w W ∧ W.heap[w.heap.size]? = some (.cells #[vd, vw, .slice ap lp cp] 26 (0, 0)) ∧ W.heap[w.heap.size + 1]? = some (.cells #[.slice none 0 0, .slice none 0 0, .slice none 0 0] 26 (0, 0))) := fun W hb => by
    have := HS1.out
    exact ⟨HB1.out.trans (hb.mono (by omega)), (hb.block _ (by omega)).trans HX0.out, (hb.block _ (by omega)).trans HY0.out⟩
  go_wp2
  go_loopw [4] (fun i wx => ∃ k : Nat, i = .int .i64 k ∧ k ≤ lp ∧ (∃ v2, LkBox w.heap.size (w.heap.size + 1 + 1) wx (.slice a0 l0 c0) (.slice a1 l1 c1) v2 ⟨s.d, s.w, s.p.take k⟩) ∧ Below (w.heap.size + 2) w1 wx) (fun i _ => lp - (intOf i).toNat)
  case atStart => exact ⟨0, rfl, Nat.zero_le _, ⟨_, HX5.out⟩, HB5.out⟩
  case round =>
    obtain ⟨k, rfl, hkn, ⟨v2, ho⟩, hB⟩ := hrel
    obtain ⟨a2, c2, e2, _⟩ := ho.own.p.form
    have hsw := ho.glt
    obtain ⟨l2, hl2⟩ : ∃ l, l = (s.p.take k).length := ⟨_, rfl⟩
    rw [← hl2] at e2
    subst e2
    have HL2 := hidK hl2
    clear hl2 HX5 HB5
    have HO := hidK ho
    have HB := hidK hB
    obtain ⟨hbw, hx, hy⟩ := HBW.out _ hB
    obtain ⟨x0, x1, x2⟩ := lk_cells hx
    obtain ⟨y0, y1, y2⟩ := ho.cells
    have HBWR := hidK hbw
    have HYR := hidK hy
    have HXR := hidK hx
    clear hx hy
    by_cases hk : k < lp
    · have kI : (k : Int) < (lp : Int) := by omega
      have k0 : (0 : Int) ≤ (k : Int) := by omega
      have kw : IntKind.i64.wrap ((k : Int) + 1) = (k : Int) + 1 := by rw [IntKind.wrap_i64]; omega
      obtain ⟨⟨p, q⟩, hpq⟩ : ∃ x, s.p[k]? = some x := ⟨_, List.getElem?_eq_getElem (by have := HLP.out; omega)⟩
      obtain ⟨b1, o1, p1, e1, d0, d1⟩ := (HPR.out.on hbw).pa hpq
      have HY := hidK hpq
      injection e1 with e1 e1b e1c
      subst e1
      simp only at d0 d1
      obtain ⟨X, hX⟩ : ∃ X, X = Obj.cells #[.int .i64 p, .int .i64 q] 30 := ⟨_, rfl⟩
      have hbC : Below wr.heap.size wr (wr.alloc X) := (Below.refl _ _).alloc (Nat.le_refl _) X
      have h3 := ho.on hbC
      have HX3 := hidK h3
      have HO2 : Hid (OwnF (fun b => w.heap.size ≤ b) paL 2 30 (wr.alloc X) (.slice a2 l2 c2) (s.p.take k)) := h3.own.p
      have HR2 : Hid (RowG paL (wr.alloc X) (.slice (some ⟨wr.heap.size, 0, none⟩) 1 1) [(p, q)]) := by
        have := rowG_new elP wr (p, q) #[.int .i64 p, .int .i64 q] rfl
        rw [← hX] at this
        exact this
      have HG2 : Hid (∀ w4, Kp (fun k => (Value.slice a2 l2 c2).ownBlock = some k) (wr.alloc X) w4 → w4.heap[w.heap.size + 1 + 1]? = some (.cells #[.slice a0 l0 c0, .slice a1 l1 c1, .slice a2 l2 c2] 26 (0, 0))) := fun w4 k4 => (k4.block _ h3.glt (fun e => (h3.np _ e).1 rfl)).trans h3.blk
      have HF2 : Hid (∀ b, (wr.alloc X).heap.size ≤ b → w.heap.size ≤ b) := fun b hb => by simp at hb; omega
      have hl2k : l2 = k := by rw [HL2.out]; exact lenTake (by have := HLP.out; omega)
      have HLK : Hid ((s.p.take k).length = k) := by rw [← HL2.out]; exact hl2k
      obtain ⟨z0, z1, z2⟩ := h3.cells
      have u0 := cell_onG x0 hbC
      have u2 := cell_onG x2 hbC
      have v0 := cell_onG d0 hbC
      have v1 := cell_onG d1 hbC
      have HBC := hidK hbC
      clear hpq e1b e1c h3 hbC ho hB hbw hl2k
      subst hX
      go_wp2
      go_region_law (refine stepG_all (F := fun b => w.heap.size ≤ b) elP rfl (.tmp 21) (.tmp 27) rfl (.slice a2 l2 c2) (s.p.take k) (p, q) wr.heap.size 1 (by simp [Act.eval]) (by simp [Act.eval]) (by exact HO2.out) (by exact HR2.out) (paL_one _) (by have := HLK.out; omega) (by exact HF2.out) ?_; intro v4 w4 o4 k4 l4; obtain ⟨a4, p4, e4, _⟩ := o4.form; obtain ⟨m4, hm4⟩ : ∃ m, m = (s.p.take k ++ [(p, q)]).length := ⟨_, rfl⟩; rw [← hm4] at e4; clear hm4; subst e4; have hb2 := HG2.out _ (Kp.undrew k4); have d2 : w4.cell? ⟨w.heap.size + 1 + 1, 2, none⟩ = some (.slice a2 l2 c2) := cell_rowK hb2 2 _ rfl; have f2 := Lib.frozen_of_heap hb2 2)
      all_goals
        have HK5 : Hid (∀ W, W = w4.setCell ⟨w.heap.size + 1 + 1, 2, none⟩ (.slice a4 m4 p4) → LkBox w.heap.size (w.heap.size + 1 + 1) W (.slice a0 l0 c0) (.slice a1 l1 c1) (.slice a4 m4 p4) ⟨s.d, s.w, s.p.take k ++ [(p, q)]⟩ ∧ Below (w.heap.size + 2) w1 W) := by
          rintro W rfl
          have k5 := Kp.undrew k4
          have q5 := kq_set w4 (w.heap.size + 1 + 1) 2 (.slice a4 m4 p4)
          refine ⟨HX3.out.putP k5 o4 (blk_set hb2 _) q5, ?_⟩
          have hs1 := HS1.out
          have h0 := HB.out.size
          have h1 := HB.out.trans (HBC.out.mono (show w.heap.size + 2 ≤ wr.heap.size by omega))
          have h2 : Below (w.heap.size + 2) w1 w4 := h1.trans (k5.below (B := w.heap.size + 2) (fun b hb => by
            have hb1 := HX3.out.own.p.2 b hb
            obtain ⟨cc, hc⟩ := HX3.out.own.p.typed hb
            have hxa := hupK HXR.out (.cells #[.int .i64 p, .int .i64 q] 30)
            have hya := hupK HYR.out (.cells #[.int .i64 p, .int .i64 q] 30)
            have n1 := cells_typ hc hxa (by decide)
            have n2 := cells_typ hc hya (by decide)
            have hb1' : w.heap.size ≤ b := hb1
            omega) (by have := h1.size; omega))
          exact h2.trans (q5.below (by omega) (by have := h2.size; omega))
        obtain ⟨X5, K5⟩ := HK5.out _ rfl
        generalize w4.setCell ⟨w.heap.size + 1 + 1, 2, none⟩ (.slice a4 m4 p4) = W5 at X5 K5 ⊢
        have HX6 := hidK X5
        have HK6 := hidK K5
        clear X5 K5 HK5 o4 k4 l4 hb2 d2 f2 z0 z1 z2 u0 u2 v0 v1 d0 d1 x0 x1 x2 y0 y1 y2
        go_wp2
        go_roundw
        case rel => exact ⟨k + 1, by go_num, by omega, ⟨_, by rw [takeSucc HY.out]; exact HX6.out⟩, HK6.out⟩
        case measure => simp [intOf]; omega
    · obtain rfl : k = lp := by omega
      have HE : Hid (LkOwn w.heap.size wr (.slice a0 l0 c0) (.slice a1 l1 c1) (.slice a2 l2 c2) s) := by
        have := ho.own
        rw [HLP.out, List.take_length] at this
        exact this
      clear ho hB hbw
      go_wp2_with (refine wpList_store_kz rfl rfl 26 _ _ rfl (w.heap.size + 1) 0 (.agg #[.slice a0 l0 c0, .slice a1 l1 c1, .slice a2 l2 c2]) rfl rfl 26 #[.slice none 0 0, .slice none 0 0, .slice none 0 0] #[.slice a0 l0 c0, .slice a1 l1 c1, .slice a2 l2 c2] HYR.out sizeLink rfl rfl rfl ?_; intro W6 g6 q6; have HG6 := hidK g6; have HQ6 := hidK q6; clear g6 q6)
      refine bodyPost_ret (results_cell_row rfl _ _ (w.heap.size + 1) _ _ _ _ rfl HG6.out Try.underlying26 rfl sizeLink) rfl ?_
      exact ⟨_, _, _, _, _, _, _, _, _, rfl, HE.out.store HYR.out HQ6.out, HBWR.out.trans (HQ6.out.below (by omega) HBWR.out.size)⟩
end Go.Proofs.Ytebgannhecmnmaa
