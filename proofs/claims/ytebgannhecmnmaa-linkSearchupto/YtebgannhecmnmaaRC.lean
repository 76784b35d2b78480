
-- The document's pulled.
import Derived.Test.YtebgannhecmnmaaRB
import Derived.Deep.CutRange
import Derived.Shelf.Abstract
namespace Go.Proofs.Ytebgannhecmnmaa
open Go.ChangeShapes Go.WideShapes Go.ChangeAt Go.RowKit Go.MapKept
set_option linter.unusedVariables false
set_option maxRecDepth 100000
theorem kp_frame {F : Nat → Prop} {g : Nat} {w0 w w4 W5 : World} {v : Value} (hK : Kp F w0 w) (hk : Kp (fun k => v.ownBlock = some k) w w4) (hF : ∀ k, v.ownBlock = some k → F k) (hq : Kq g w4 W5) (hg : F g) : Kp F w0 W5 :=
  (hK.trans (hk.weak hF)).trans (Kp.kq hq hg)
theorem step_call2 {ops : Array Oper} {o : Oper} {a : Act} {w : World} {K : Act → World → Prop} {Q : Exit → Act → World → Prop} {E : Prop}
    (hg : o.guard = none) (f : FuncId) (x y : Operand) (t1 t2 : TypeId) (hop : o.op = Op.call { callee := Callee.value (Operand.func f), args := #[x, y], argTypes := #[t1, t2] })
    (v v2 : Value) (hx : a.eval x = v) (hy : a.eval y = v2) (eg : ∀ args w, (callFunc f args).run Try.prog w = .ok (.enter f args) w) {R : Ending → World → Prop} (hc : Calls Try.prog f #[v, v2] w R) (hK : ∀ e w', R e w' → ∃ u, e = .returned u ∧ K (a.put o.dst u) w') :
    if Region.wanted o (yielded ops a.tmps) = true then Oper.wp Try.prog o a w K Q else E := by
  rw [if_pos (by simp [Region.wanted, hg])]
  unfold Oper.wp
  subst hx
  subst hy
  have hr : (execOp a.eval o).run Try.prog w = .ok (.enter f #[a.eval x, a.eval y]) w := by
    simp [execOp, hop, resolve, invoke, eg, go_sem]
  rw [hr, Oper.upon_enter]
  refine hc.mono ?_
  intro e w' h
  obtain ⟨u, rfl, hk⟩ := hK e w' h
  exact hk
set_option maxHeartbeats 16000000 in
theorem rpulled_c (B : Nat) (ve va vn vf vg : Value) (L : Lb) (num : Int) (i : Nat) (a : Int) (hi : L.a[i]? = some a) (vd vw vp : Value) (s : Lk) (w : World) (hB : B ≤ w.heap.size) (hV : LibAt (fun b => B ≤ b) w ve va vn vf vg L) (hO : LkOwn B w vd vw vp s)
    (b1 : s.d.length + (L.df.getD i []).length ≤ 4398046511104) (b2 : s.w.length + (L.nd.getD i []).length ≤ 4398046511104) (b3 : s.p.length ≤ 4398046511104) :
    Calls Try.prog 46 #[.agg #[ve, va, vn, vf, vg], .int .i64 num, .int .i64 (i : Int), .agg #[vd, vw, vp]] w fun e w' => ∃ a0 l0 c0 a1 l1 c1 a2 l2 c2, e = .returned (.agg #[.slice a0 l0 c0, .slice a1 l1 c1, .slice a2 l2 c2]) ∧ LkOwn B w' (.slice a0 l0 c0) (.slice a1 l1 c1) (.slice a2 l2 c2) (pullN s (num, a) (L.df.getD i []) (L.nd.getD i [])) ∧ Below B w w' := by
  obtain ⟨s0, t0, z0, s1, t1, z1, s2, t2, z2, s3, t3, z3, s4, t4, z4, e0, e1, e2, e3, e4⟩ := hV.slices
  subst e0 e1 e2 e3 e4
  obtain ⟨X, hX⟩ : ∃ X, X = Obj.cells #[.slice s0 t0 z0, .slice s1 t1 z1, .slice s2 t2 z2, .slice s3 t3 z3, .slice s4 t4 z4] 37 := ⟨_, rfl⟩
  obtain ⟨S, hS⟩ : ∃ S, S = Obj.cells #[vd, vw, vp] 26 := ⟨_, rfl⟩
  obtain ⟨Z, hZ⟩ : ∃ Z, Z = Obj.cells #[.slice none 0 0, .slice none 0 0, .slice none 0 0] 26 := ⟨_, rfl⟩
  obtain ⟨w1, hw1⟩ : ∃ w1, w1 = ((w.alloc X).alloc S).alloc Z := ⟨_, rfl⟩
  have hb1 : Below w.heap.size w w1 := by rw [hw1]; exact (((Below.refl _ w).alloc (Nat.le_refl _) X).alloc (by simp) S).alloc (by simp; omega) Z
  have hs1 : w1.heap.size = w.heap.size + 3 := by rw [hw1]; simp
  have hx0 : w1.heap[w.heap.size]? = some (.cells #[.slice s0 t0 z0, .slice s1 t1 z1, .slice s2 t2 z2, .slice s3 t3 z3, .slice s4 t4 z4] 37 (0, 0)) := by rw [hw1]; exact hupK (hupK (by rw [heap_alloc_new, hX]) S) Z
  have hq0 : w1.heap[w.heap.size + 1]? = some (.cells #[vd, vw, vp] 26 (0, 0)) := by rw [hw1]; exact hupK (by rw [heap_new2K, hS]) Z
  have hz0 : w1.heap[w.heap.size + 1 + 1]? = some (.cells #[.slice none 0 0, .slice none 0 0, .slice none 0 0] 26 (0, 0)) := by rw [hw1, heap_new3K, hZ]
  obtain ⟨F, hFd⟩ : ∃ F : Nat → Prop, F = fun b => B ≤ b ∧ b ≠ w.heap.size ∧ b ≠ w.heap.size + 1 + 1 := ⟨_, rfl⟩
  have hFB : ∀ b, F b → B ≤ b := fun b h => by rw [hFd] at h; exact h.1
  have hbox : LkBox B (w.heap.size + 1) w1 vd vw vp s := ⟨hq0, hO.on hb1⟩
  have hFg : F (w.heap.size + 1) := by rw [hFd]; exact ⟨by omega, by omega, by omega⟩
  have hFn : ∀ b, w1.heap.size ≤ b → F b := fun b h => by rw [hFd]; exact ⟨by omega, by omega, by omega⟩
  have hVF : LibAt F w1 (.slice s0 t0 z0) (.slice s1 t1 z1) (.slice s2 t2 z2) (.slice s3 t3 z3) (.slice s4 t4 z4) L := (hV.kp (Kp.of_below hb1)).weak (fun b _ h => hFB b h)
  -- what turns is in F
  have HTY : Hid (∀ (W : World) (v : Value) (k : Nat) (t : TypeId) (cs : Array Value), Kp F w1 W → W.heap[k]? = some (.cells cs t (0, 0)) → t ≠ 37 → t ≠ 26 → B ≤ k → F k) := fun W v k t cs hk hc h1 h2 h3 => by
    have hx : W.heap[w.heap.size]? = _ := (hk.block _ (by omega) (by rw [hFd]; intro q; exact q.2.1 rfl)).trans hx0
    have hz : W.heap[w.heap.size + 1 + 1]? = _ := (hk.block _ (by omega) (by rw [hFd]; intro q; exact q.2.2 rfl)).trans hz0
    rw [hFd]
    exact ⟨h3, cells_typ hc hx h1, cells_typ hc hz h2⟩
  have HCX : Hid (∀ W, Kp F w1 W → W.heap[w.heap.size]? = some (.cells #[.slice s0 t0 z0, .slice s1 t1 z1, .slice s2 t2 z2, .slice s3 t3 z3, .slice s4 t4 z4] 37 (0, 0)) ∧ W.heap[w.heap.size + 1 + 1]? = some (.cells #[.slice none 0 0, .slice none 0 0, .slice none 0 0] 26 (0, 0))) := fun W hk => ⟨(hk.block _ (by omega) (by rw [hFd]; intro q; exact q.2.1 rfl)).trans hx0, (hk.block _ (by omega) (by rw [hFd]; intro q; exact q.2.2 rfl)).trans hz0⟩
  have HFO : Hid (∀ W a0 a1 a2 t, Kp F w1 W → LkBox B (w.heap.size + 1) W a0 a1 a2 t → (∀ k, a0.ownBlock = some k → F k) ∧ (∀ k, a1.ownBlock = some k → F k) ∧ ∀ k, a2.ownBlock = some k → F k) := fun W a0 a1 a2 t hk hb => by
    refine ⟨fun k h => ?_, fun k h => ?_, fun k h => ?_⟩
    · obtain ⟨cs, hc⟩ := hb.own.d.typed h
      exact HTY.out W a0 k _ cs hk hc (by decide) (by decide) (hb.own.d.2 k h)
    · obtain ⟨cs, hc⟩ := hb.own.wt.typed h
      exact HTY.out W a1 k _ cs hk hc (by decide) (by decide) (hb.own.wt.2 k h)
    · obtain ⟨cs, hc⟩ := hb.own.p.typed h
      exact HTY.out W a2 k _ cs hk hc (by decide) (by decide) (hb.own.p.2 k h)
  have HBOX := hidK hbox
  have HFG := hidK hFg
  have HFB := hidK hFB
  have HFN := hidK hFn
  have HVF := hidK hVF
  have HB1 := hidK hb1
  have HS1 := hidK hs1
  have HBN := hidK hB
  obtain ⟨ap, cp, ep, _⟩ := hO.p.form
  obtain ⟨lp, hlp⟩ : ∃ l, l = s.p.length := ⟨_, rfl⟩
  have HLP := hidK hlp
  rw [← hlp] at ep b3
  subst ep
  obtain ⟨c0', c1', c2'⟩ := lk_cells hq0
  obtain ⟨x0, x1, x2, x3, x4⟩ := lib_cells hx0
  obtain ⟨ba, oa, pa, ea, da⟩ := (hV.a.row.on hb1).nm hi
  injection ea with ea eab eac
  subst ea
  have hil : i < t1 := by rw [eab]; exact (List.getElem?_eq_some_iff.1 hi).1
  have ht1 : t1 ≤ 9223372036854775807 := by
    obtain ⟨a, c, e, h1, h2⟩ := hV.a.row.form
    injection e with q1 q2 q3
    unfold maxLen at h2; omega
  have iI : (i : Int) < (t1 : Int) := by omega
  have i0 : (0 : Int) ≤ (i : Int) := by omega
  obtain ⟨ds, hds⟩ : ∃ l, l = L.df.getD i [] := ⟨_, rfl⟩
  obtain ⟨ns, hns⟩ : ∃ l, l = L.nd.getD i [] := ⟨_, rfl⟩
  rw [← hds] at b1 ⊢
  rw [← hns] at b2 ⊢
  have HB : Hid (s.d.length + ds.length ≤ 4398046511104 ∧ s.w.length + ns.length ≤ 4398046511104) := ⟨b1, b2⟩
  -- the first statement: the place is put behind the others
  obtain ⟨P, hP⟩ : ∃ P, P = Obj.cells #[.int .i64 num, .int .i64 a] 30 := ⟨_, rfl⟩
  have hbC : Below w1.heap.size w1 (w1.alloc P) := (Below.refl _ _).alloc (Nat.le_refl _) P
  have h3 := hbox.on hbC
  have HX3 := hidK h3
  have HO2 : Hid (OwnF (fun b => B ≤ b) paL 2 30 (w1.alloc P) (.slice ap lp cp) s.p) := h3.own.p
  have HR2 : Hid (RowG paL (w1.alloc P) (.slice (some ⟨w1.heap.size, 0, none⟩) 1 1) [(num, a)]) := by
    have := rowG_new elP w1 (num, a) #[.int .i64 num, .int .i64 a] rfl
    rw [← hP] at this
    exact this
  have HG2 : Hid (∀ w4, Kp (fun k => (Value.slice ap lp cp).ownBlock = some k) (w1.alloc P) w4 → w4.heap[w.heap.size + 1]? = some (.cells #[vd, vw, .slice ap lp cp] 26 (0, 0))) := fun w4 k4 => (k4.block _ h3.glt (fun e => (h3.np _ e).1 rfl)).trans h3.blk
  have HF2 : Hid (∀ b, (w1.alloc P).heap.size ≤ b → B ≤ b) := fun b hb => by simp at hb; omega
  have HBC := hidK hbC
  obtain ⟨g0, g1, g2⟩ := h3.cells
  have u1 := cell_onG x1 hbC
  have u2 := cell_onG da hbC
  clear hV hO hb1 hs1 hx0 hq0 hz0 hFB hbox hFg hFn hVF hlp eab eac hil hi hbC h3 b1 b2
  subst hX hS hZ hP
  go_enter Try.func46, Try.ntmps46
  go_upto_region 1 with fail
  rw [← hw1]
  clear hw1
  go_cut [] from 16 to 27 (fun wx => ∃ vp', LkBox B (w.heap.size + 1) wx vd vw vp' ⟨s.d, s.w, s.p ++ [(num, a)]⟩ ∧ Kp F w1 wx)
  case first =>
    go_region_law (refine stepG_all (F := fun b => B ≤ b) elP rfl (.tmp 17) (.tmp 25) rfl (.slice ap lp cp) s.p (num, a) w1.heap.size 1 (by simp [Act.eval]) (by simp [Act.eval]) (by exact HO2.out) (by exact HR2.out) (paL_one _) (by have := HLP.out; omega) (by exact HF2.out) ?_; intro v4 w4 o4 k4 l4; obtain ⟨a4, p4, e4, _⟩ := o4.form; obtain ⟨m4, hm4⟩ : ∃ m, m = (s.p ++ [(num, a)]).length := ⟨_, rfl⟩; rw [← hm4] at e4; clear hm4; subst e4; have hb2 := HG2.out _ (Kp.undrew k4); have d2 : w4.cell? ⟨w.heap.size + 1, 2, none⟩ = some (.slice ap lp cp) := cell_rowK hb2 2 _ rfl; have f2 := Lib.frozen_of_heap hb2 2)
    all_goals
      have HK5 : Hid (∀ W, W = w4.setCell ⟨w.heap.size + 1, 2, none⟩ (.slice a4 m4 p4) → LkBox B (w.heap.size + 1) W vd vw (.slice a4 m4 p4) ⟨s.d, s.w, s.p ++ [(num, a)]⟩ ∧ Kp F w1 W) := by
        rintro W rfl
        have k5 := Kp.undrew k4
        have q5 := kq_set w4 (w.heap.size + 1) 2 (.slice a4 m4 p4)
        have hka : Kp F w1 (w1.alloc (.cells #[.int .i64 num, .int .i64 a] 30)) := Kp.of_below HBC.out
        exact ⟨HX3.out.putP k5 o4 (blk_set hb2 _) q5, kp_frame hka k5 (HFO.out _ _ _ _ _ hka HX3.out).2.2 q5 HFG.out⟩
      obtain ⟨X5, K5⟩ := HK5.out _ rfl
      generalize w4.setCell ⟨w.heap.size + 1, 2, none⟩ (.slice a4 m4 p4) = W5 at X5 K5 ⊢
      clear HK5 o4 k4 l4 hb2 d2 f2
      go_wp2
      go_meet
      case rel => exact ⟨_, X5, K5⟩
  case rest =>
    obtain ⟨vp', hX5, hK5⟩ := hcut
    obtain ⟨wA, hwA⟩ : ∃ x, x = wc := ⟨_, rfl⟩
    subst hwA
    clear HO2 HR2 HG2 HF2 HBC g0 g1 g2 u1 u2 c0' c1' c2' x0 x1 x2 x3 x4 da HX3 HBOX HLP b3
    obtain ⟨hcx, _⟩ := HCX.out _ hK5
    obtain ⟨x0, x1, x2, x3, x4⟩ := lib_cells hcx
    have HEL := hidK (relement_c F (.slice s3 t3 z3) L.df i wA (HVF.out.kp hK5).f)
    have HX5 := hidK hX5
    have HK5 := hidK hK5
    clear hX5 hK5 hcx
    go_upto_region 3 with (go_at_call 61; refine HEL.out.mono ?_; rintro e w6 ⟨u, rfl, q1, q2⟩; rw [q2]; clear q2; have HU := hidK q1; clear q1)
    rw [← hds] at HU
    clear hds
    obtain ⟨ad, cd, ed, _, _⟩ := HU.out.row.form
    obtain ⟨ld, hld⟩ : ∃ l, l = ds.length := ⟨_, rfl⟩
    rw [← hld] at ed
    subst ed
    have HLD := hidK hld
    have hldn : ld ≤ 4398046511104 := by have := HB.out.1; omega
    clear hld HEL x0 x1 x2 x3 x4
    have HUK : Hid (∀ W, Kp F w1 W → Kp F wA W → RowT W (.slice ad ld cd) ds) := fun W _ h => (HU.out.kp h).row
    go_wp2
    go_loopw [10] (fun i wx => ∃ k : Nat, i = .int .i64 k ∧ k ≤ ld ∧ (∃ v0 v1 v2, LkBox B (w.heap.size + 1) wx v0 v1 v2 ((ds.take k).foldl defN ⟨s.d, s.w, s.p ++ [(num, a)]⟩)) ∧ Kp F wA wx) (fun i _ => ld - (intOf i).toNat)
    case atStart => exact ⟨0, rfl, Nat.zero_le _, ⟨_, _, _, HX5.out⟩, Kp.refl _ _⟩
    case round =>
      obtain ⟨k, rfl, hkn, ⟨v0, v1, v2, ho⟩, hB⟩ := hrel
      clear HX5
      have hK1 : Kp F w1 wr := HK5.out.trans hB
      by_cases hk : k < ld
      · have kI : (k : Int) < (ld : Int) := by omega
        have k0 : (0 : Int) ≤ (k : Int) := by omega
        have kw : IntKind.i64.wrap ((k : Int) + 1) = (k : Int) + 1 := by rw [IntKind.wrap_i64]; omega
        obtain ⟨y, hy⟩ : ∃ x, ds[k]? = some x := ⟨_, List.getElem?_eq_getElem (by have := HLD.out; omega)⟩
        obtain ⟨b2, o2, p2, e1, d0⟩ := (HU.out.kp hB).row.tx hy
        injection e1 with e1 e1b e1c
        subst e1
        clear e1b e1c
        obtain ⟨t, ht⟩ : ∃ t, t = (ds.take k).foldl defN ⟨s.d, s.w, s.p ++ [(num, a)]⟩ := ⟨_, rfl⟩
        have htd : t.d.length + 1 ≤ 4398046511104 := by
          have h1 := foldD_len (ds.take k) ⟨s.d, s.w, s.p ++ [(num, a)]⟩
          rw [← ht] at h1
          have h2 : (ds.take k).length = k := lenTake (by have := HLD.out; omega)
          have h3 := HB.out.1
          have h4 := HLD.out
          simp only at h1
          omega
        have htw : t.w.length ≤ 4398046511104 := by
          have h1 := foldD_w (ds.take k) ⟨s.d, s.w, s.p ++ [(num, a)]⟩
          rw [← ht] at h1
          have h3 := HB.out.2
          simp only at h1
          omega
        have HST : Hid ((ds.take (k + 1)).foldl defN ⟨s.d, s.w, s.p ++ [(num, a)]⟩ = defN t y) := by rw [takeSucc hy, List.foldl_append, ← ht]; exact rfl
        rw [← ht] at ho
        obtain ⟨aa, ca, ea, _⟩ := ho.own.d.form
        obtain ⟨la, hla⟩ : ∃ l, l = t.d.length := ⟨_, rfl⟩
        rw [← hla] at ea
        subst ea
        obtain ⟨aw, cw, ew, _⟩ := ho.own.wt.form
        obtain ⟨lw, hlw⟩ : ∃ l, l = t.w.length := ⟨_, rfl⟩
        rw [← hlw] at ew
        subst ew
        have HO := hidK ho
        have HK1 := hidK hK1
        have HKC := hidK hB
        have HD0 := hidK d0
        have hv0 : ∀ W, Below wr.heap.size wr W → W.cell? ⟨w.heap.size + 1, 0, none⟩ = some (.slice aa la ca) := fun W hb => (HO.out.on hb).cells.1
        have hv1 : ∀ W, Below wr.heap.size wr W → W.cell? ⟨b2, o2 + k, none⟩ = some (.string y) := fun W hb => cell_onG HD0.out hb
        have HHAS : Hid (∀ W, Below wr.heap.size wr W → Calls Try.prog 58 #[.slice aa la ca, .string y] W fun e w' => e = .returned (.bool (isIn t.d y)) ∧ Below wr.heap.size wr w') := fun W hb => (rhas_c _ t.d y W (OwnF.row elT (HO.out.on hb).own.d) (by omega)).mono (by
          rintro e w' ⟨q1, q2⟩
          rw [q2]
          exact ⟨q1, hb⟩)
        have hb0 : Below wr.heap.size wr wr := Below.refl _ _
        have HY := hidK hy
        clear hy ht hla hlw ho hK1 hB d0
        go_upto_region 6 with fail
        go_region_held3 (fun w' => Below wr.heap.size wr w') (first | assumption | exact hb0.drew | exact hSw.drew) (first
          | (go_at_call 58; refine (HHAS.out _ (by assumption)).mono ?_; rintro e w6 ⟨rfl, hS6⟩))
        clear hv0 hv1 HHAS hb0
        have HO6 := hidK (HO.out.on hS6)
        have HK6 := hidK (HK1.out.trans (Kp.of_below hS6))
        have HKC6 := hidK (HKC.out.trans (Kp.of_below hS6))
        have HD6 := hidK (cell_onG HD0.out hS6)
        clear hS6 HO HK1 HKC HD0
        go_upto_if 46 with fail
        go_cut [11] from 36 to 63 (fun s11 wx => ∃ a0 l0 c0, LkBox B (w.heap.size + 1) wx (.slice a0 l0 c0) (.slice aw lw cw) v2 ⟨if isIn t.d y then t.d else t.d ++ [y], t.w, t.p⟩ ∧ Kp F w1 wx ∧ Kp F wA wx)
        case first =>
          cases hin : isIn t.d y with
          | true =>
            have HIN : Hid ((if isIn t.d y = true then t.d else t.d ++ [y]) = t.d) := by rw [hin]; rfl
            clear hin
            go_wp2
            go_meet
            case rel => exact ⟨aa, la, ca, by rw [HIN.out]; exact HO6.out, HK6.out, HKC6.out⟩
          | false =>
            obtain ⟨P, hP⟩ : ∃ P, P = Obj.cells #[.string y] 9 := ⟨_, rfl⟩
            have hbC : Below w6.heap.size w6 (w6.alloc P) := (Below.refl _ _).alloc (Nat.le_refl _) P
            have h3 := HO6.out.on hbC
            have HX3 := hidK h3
            have HO2 : Hid (OwnF (fun b => B ≤ b) txL 1 9 (w6.alloc P) (.slice aa la ca) t.d) := h3.own.d
            have HR2 : Hid (RowG txL (w6.alloc P) (.slice (some ⟨w6.heap.size, 0, none⟩) 1 1) [y]) := by
              have := rowG_new elT w6 y #[.string y] rfl
              rw [← hP] at this
              exact this
            have HG2 : Hid (∀ w4, Kp (fun k => (Value.slice aa la ca).ownBlock = some k) (w6.alloc P) w4 → w4.heap[w.heap.size + 1]? = some (.cells #[.slice aa la ca, .slice aw lw cw, v2] 26 (0, 0))) := fun w4 k4 => (k4.block _ h3.glt (fun e => (h3.nd _ e).1 rfl)).trans h3.blk
            have HF2 : Hid (∀ b, (w6.alloc P).heap.size ≤ b → B ≤ b) := fun b hb => by
              have h1 := HK6.out.size
              have h2 := HB1.out.size
              have h4 := HBN.out
              simp at hb; omega
            have HBC := hidK hbC
            obtain ⟨g0, g1, g2⟩ := HO6.out.cells
            obtain ⟨g3, g4, g5⟩ := h3.cells
            have d0 := HD6.out
            have d1 := cell_onG HD6.out hbC
            have HIN : Hid ((if isIn t.d y = true then t.d else t.d ++ [y]) = t.d ++ [y]) := by rw [hin]; rfl
            clear hin h3 hbC
            subst hP
            go_wp2
            go_region_law (refine stepG_all (F := fun b => B ≤ b) elT rfl (.tmp 48) (.tmp 53) rfl (.slice aa la ca) t.d y w6.heap.size 1 (by simp [Act.eval]) (by simp [Act.eval]) (by exact HO2.out) (by exact HR2.out) (txL_one _) (by omega) (by exact HF2.out) ?_; intro v4 w4 o4 k4 l4; obtain ⟨a4, p4, e4, _⟩ := o4.form; obtain ⟨m4, hm4⟩ : ∃ m, m = (t.d ++ [y]).length := ⟨_, rfl⟩; rw [← hm4] at e4; clear hm4; subst e4; have hb2 := HG2.out _ (Kp.undrew k4); have d2 : w4.cell? ⟨w.heap.size + 1, 0, none⟩ = some (.slice aa la ca) := cell_rowK hb2 0 _ rfl; have f2 := Lib.frozen_of_heap hb2 0)
            all_goals
              have HK7 : Hid (∀ W, W = w4.setCell ⟨w.heap.size + 1, 0, none⟩ (.slice a4 m4 p4) → LkBox B (w.heap.size + 1) W (.slice a4 m4 p4) (.slice aw lw cw) v2 ⟨t.d ++ [y], t.w, t.p⟩ ∧ Kp F w6 W) := by
                rintro W rfl
                have k5 := Kp.undrew k4
                have q5 := kq_set w4 (w.heap.size + 1) 0 (.slice a4 m4 p4)
                have hka : Kp F w6 (w6.alloc (.cells #[.string y] 9)) := Kp.of_below HBC.out
                exact ⟨HX3.out.putD k5 o4 l4 (blk_set hb2 _) q5, kp_frame hka k5 (HFO.out _ _ _ _ _ (HK6.out.trans hka) HX3.out).1 q5 HFG.out⟩
              obtain ⟨X7, K7⟩ := HK7.out _ rfl
              generalize w4.setCell ⟨w.heap.size + 1, 0, none⟩ (.slice a4 m4 p4) = W7 at X7 K7 ⊢
              clear HK7 o4 k4 l4 hb2 d2 f2
              go_wp2
              go_meet
              case rel => exact ⟨_, _, _, by rw [HIN.out]; exact X7, HK6.out.trans K7, HKC6.out.trans K7⟩
        case rest =>
          obtain ⟨a0, l0, c0, hbx, hk1, hkc⟩ := hcut
          clear HO6 HK6 HKC6 HD6
          have HO8 := hidK hbx
          have HK8 := hidK hk1
          have HKC8 := hidK hkc
          obtain ⟨g0, g1, g2⟩ := hbx.cells
          obtain ⟨b3, o3, p3, e1, d0⟩ := (HU.out.kp hkc).row.tx (k := k) (x := y) HY.out
          injection e1 with e1 e1b e1c
          injection e1 with e1
          injection e1 with q1 q2 q3
          subst q1 q2
          clear e1b e1c q3
          have HWO : Hid (∀ W, Below wc.heap.size wc W → Calls Try.prog 62 #[.slice aw lw cw, .string y] W fun e w' => ∃ a l c, e = .returned (.slice a l c) ∧ OwnF (fun b => wc.heap.size ≤ b) txL 1 9 w' (.slice a l c) (woN t.w y) ∧ Below wc.heap.size wc w' ∧ w'.heap[w.heap.size + 1]? = some (.cells #[.slice a0 l0 c0, .slice aw lw cw, v2] 26 (0, 0))) := fun W hb => (rwithout_c _ t.w y W (OwnF.row elT (HO8.out.on hb).own.wt) htw).mono (by
            rintro e w' ⟨a, l, c, q1, q2, q3⟩
            have hb' := bel3K hb q3
            exact ⟨a, l, c, q1, q2.weak (fun b hh => Nat.le_trans hb.size hh), hb', hkeepK hb' HO8.out.blk⟩)
          clear hbx hk1 hkc
          go_wp2
          go_region_law (refine step_call2 rfl 62 (.tmp 57) (.tmp 61) 23 9 rfl (.slice aw lw cw) (.string y) (by simp [Act.eval]) (by simp [Act.eval]) (enters_of Try.func62 (by kernel_rfl) rfl) (HWO.out _ (by first | exact Below.refl _ _ | exact (Below.refl _ _).drew | exact (Below.refl _ _).drew.drew)) ?_; rintro e w9 ⟨a9, l9, c9, rfl, q1, q2, q3⟩; refine ⟨_, rfl, ?_⟩; have d9 : w9.cell? ⟨w.heap.size + 1, 1, none⟩ = some (.slice aw lw cw) := cell_rowK q3 1 _ rfl; have f9 := Lib.frozen_of_heap q3 1; have HO9 := hidK q1; have HB9 := hidK q2; have HG9 := hidK q3; clear q1 q2 q3)
          all_goals
            have HK7 : Hid (∀ W, W = w9.setCell ⟨w.heap.size + 1, 1, none⟩ (.slice a9 l9 c9) → LkBox B (w.heap.size + 1) W (.slice a0 l0 c0) (.slice a9 l9 c9) v2 (defN t y) ∧ Kp F wA W) := by
              rintro W rfl
              have q5 := kq_set w9 (w.heap.size + 1) 1 (.slice a9 l9 c9)
              have hsz : B ≤ wc.heap.size := by
                have h1 := HK8.out.size
                have h2 := HB1.out.size
                have h3 := HBN.out
                omega
              exact ⟨HO8.out.newW HB9.out HO9.out hsz (blk_set HG9.out _) q5, (HKC8.out.trans (Kp.of_below HB9.out)).trans (Kp.kq q5 HFG.out)⟩
            obtain ⟨X7, K7⟩ := HK7.out _ rfl
            generalize w9.setCell ⟨w.heap.size + 1, 1, none⟩ (.slice a9 l9 c9) = W7 at X7 K7 ⊢
            have HX7 := hidK X7
            have HKK7 := hidK K7
            clear HK7 d9 f9 X7 K7 g0 g1 g2 d0
            go_wp2
            go_roundw
            case rel => exact ⟨k + 1, by go_num, by omega, ⟨_, _, _, by rw [HST.out]; exact HX7.out⟩, HKK7.out⟩
            case measure => simp [intOf]; omega
      · obtain rfl : k = ld := by omega
        have HX7 : Hid (LkBox B (w.heap.size + 1) wr v0 v1 v2 (ds.foldl defN ⟨s.d, s.w, s.p ++ [(num, a)]⟩)) := by
          have := ho
          rw [HLD.out, List.take_length] at this
          exact this
        have HK1 := hidK hK1
        have HEL := hidK (relement_c F (.slice s4 t4 z4) L.nd i wr (HVF.out.kp hK1).g)
        obtain ⟨hcx, _⟩ := HCX.out _ hK1
        obtain ⟨x0, x1, x2, x3, x4⟩ := lib_cells hcx
        clear ho hB hcx hK1 HUK HU
        go_upto_region 11 with (go_at_call 61; refine HEL.out.mono ?_; rintro e w6 ⟨u, rfl, q1, q2⟩; rw [q2]; clear q2; have HU := hidK q1; clear q1)
        rw [← hns] at HU
        clear hns
        obtain ⟨an, cn, en, _, _⟩ := HU.out.row.form
        obtain ⟨ln, hln⟩ : ∃ l, l = ns.length := ⟨_, rfl⟩
        rw [← hln] at en
        subst en
        have HLN := hidK hln
        have hlnn : ln ≤ 4398046511104 := by have := HB.out.2; omega
        obtain ⟨wB, hwB⟩ : ∃ x, x = wr := ⟨_, rfl⟩
        subst hwB
        obtain ⟨tt, htt⟩ : ∃ t, t = ds.foldl defN ⟨s.d, s.w, s.p ++ [(num, a)]⟩ := ⟨_, rfl⟩
        have HTD : Hid (tt.d.length ≤ 4398046511104 ∧ tt.w.length + ns.length ≤ 4398046511104) := by
          have h1 := foldD_len ds ⟨s.d, s.w, s.p ++ [(num, a)]⟩
          have h2 := foldD_w ds ⟨s.d, s.w, s.p ++ [(num, a)]⟩
          rw [← htt] at h1 h2
          have h3 := HB.out
          simp only at h1 h2
          show _ ∧ _
          omega
        rw [← htt] at HX7
        have HTT : Hid (pullN s (num, a) ds ns = ns.foldl wantN tt) := by rw [htt]; exact rfl
        clear hln HEL x0 x1 x2 x3 x4 htt
        go_wp2
        go_loopw [13] (fun i wx => ∃ k : Nat, i = .int .i64 k ∧ k ≤ ln ∧ (∃ v0 v1 v2, LkBox B (w.heap.size + 1) wx v0 v1 v2 ((ns.take k).foldl wantN tt)) ∧ Kp F wB wx) (fun i _ => ln - (intOf i).toNat)
        case atStart => exact ⟨0, rfl, Nat.zero_le _, ⟨_, _, _, HX7.out⟩, Kp.refl _ _⟩
        case round =>
          obtain ⟨k, rfl, hkn, ⟨v0, v1, v2, ho⟩, hB⟩ := hrel
          clear HX7
          have hK1 : Kp F w1 wr := HK1.out.trans hB
          by_cases hk : k < ln
          · have kI : (k : Int) < (ln : Int) := by omega
            have k0 : (0 : Int) ≤ (k : Int) := by omega
            have kw : IntKind.i64.wrap ((k : Int) + 1) = (k : Int) + 1 := by rw [IntKind.wrap_i64]; omega
            obtain ⟨y, hy⟩ : ∃ x, ns[k]? = some x := ⟨_, List.getElem?_eq_getElem (by have := HLN.out; omega)⟩
            obtain ⟨b2, o2, p2, e1, d0⟩ := (HU.out.kp hB).row.tx hy
            injection e1 with e1 e1b e1c
            subst e1
            clear e1b e1c
            obtain ⟨t, ht⟩ : ∃ t, t = (ns.take k).foldl wantN tt := ⟨_, rfl⟩
            have htd : t.d.length ≤ 4398046511104 := by
              have h1 := foldW_d (ns.take k) tt
              rw [← ht] at h1
              rw [h1]
              exact HTD.out.1
            have htw : t.w.length + 1 ≤ 4398046511104 := by
              have h1 := foldW_w (ns.take k) tt
              rw [← ht] at h1
              have h2 : (ns.take k).length = k := lenTake (by have := HLN.out; omega)
              have h3 := HTD.out.2
              have h4 := HLN.out
              omega
            have HST : Hid ((ns.take (k + 1)).foldl wantN tt = wantN t y) := by rw [takeSucc hy, List.foldl_append, ← ht]; exact rfl
            rw [← ht] at ho
            obtain ⟨aa, ca, ea, _⟩ := ho.own.d.form
            obtain ⟨la, hla⟩ : ∃ l, l = t.d.length := ⟨_, rfl⟩
            rw [← hla] at ea
            subst ea
            obtain ⟨aw, cw, ew, _⟩ := ho.own.wt.form
            obtain ⟨lw, hlw⟩ : ∃ l, l = t.w.length := ⟨_, rfl⟩
            rw [← hlw] at ew
            subst ew
            have HO := hidK ho
            have HKC := hidK hB
            have HD0 := hidK d0
            have hv0 : ∀ W, Below wr.heap.size wr W → W.cell? ⟨w.heap.size + 1, 0, none⟩ = some (.slice aa la ca) := fun W hb => (HO.out.on hb).cells.1
            have hv2 : ∀ W, Below wr.heap.size wr W → W.cell? ⟨w.heap.size + 1, 1, none⟩ = some (.slice aw lw cw) := fun W hb => (HO.out.on hb).cells.2.1
            have hv1 : ∀ W, Below wr.heap.size wr W → W.cell? ⟨b2, o2 + k, none⟩ = some (.string y) := fun W hb => cell_onG HD0.out hb
            have HHAS : Hid (∀ W, Below wr.heap.size wr W → Calls Try.prog 58 #[.slice aa la ca, .string y] W fun e w' => e = .returned (.bool (isIn t.d y)) ∧ Below wr.heap.size wr w') := fun W hb => (rhas_c _ t.d y W (OwnF.row elT (HO.out.on hb).own.d) (by omega)).mono (by
              rintro e w' ⟨q1, q2⟩
              rw [q2]
              exact ⟨q1, hb⟩)
            have HHAW : Hid (∀ W, Below wr.heap.size wr W → Calls Try.prog 58 #[.slice aw lw cw, .string y] W fun e w' => e = .returned (.bool (isIn t.w y)) ∧ Below wr.heap.size wr w') := fun W hb => (rhas_c _ t.w y W (OwnF.row elT (HO.out.on hb).own.wt) (by omega)).mono (by
              rintro e w' ⟨q1, q2⟩
              rw [q2]
              exact ⟨q1, hb⟩)
            have hb0 : Below wr.heap.size wr wr := Below.refl _ _
            clear hy ht hla hlw ho hB d0 hK1
            go_upto_region 14 with fail
            go_region_held3 (fun w' => Below wr.heap.size wr w') (first | assumption | exact hb0.drew | exact hSw.drew) (first
              | (go_at_call 58; refine (HHAS.out _ (by assumption)).mono ?_; rintro e w6 ⟨rfl, hS6⟩))
            go_upto_region 15 with fail
            go_region_held3 (fun w' => Below wr.heap.size wr w') (first | assumption | exact hS6.drew | exact hSw.drew) (first
              | (go_at_call 58; refine (HHAW.out _ (by assumption)).mono ?_; rintro e w7 ⟨rfl, hS7⟩))
            clear hv0 hv1 hv2 HHAS HHAW hb0 hS6
            have HO6 := hidK (HO.out.on hS7)
            have HKC6 := hidK (HKC.out.trans (Kp.of_below hS7))
            have HD6 := hidK (cell_onG HD0.out hS7)
            clear hS7 HO HKC HD0
            obtain ⟨p1, hp1⟩ : ∃ b, b = isIn t.d y := ⟨_, rfl⟩
            obtain ⟨p3, hp3⟩ : ∃ b, b = isIn t.w y := ⟨_, rfl⟩
            have HWN : Hid (wantN t y = if (p1 || p3) = true then t else ⟨t.d, t.w ++ [y], t.p⟩) := by rw [hp1, hp3]; exact rfl
            rw [← hp1, ← hp3]
            clear hp1 hp3
            cases p1 with
            | true =>
              go_wp2
              go_roundw
              case rel => exact ⟨k + 1, by go_num, by omega, ⟨_, _, _, by rw [HST.out, HWN.out]; exact HO6.out⟩, HKC6.out⟩
              case measure => simp [intOf]; omega
            | false =>
              cases p3 with
              | true =>
                go_wp2
                go_roundw
                case rel => exact ⟨k + 1, by go_num, by omega, ⟨_, _, _, by rw [HST.out, HWN.out]; exact HO6.out⟩, HKC6.out⟩
                case measure => simp [intOf]; omega
              | false =>
                obtain ⟨P, hP⟩ : ∃ P, P = Obj.cells #[.string y] 9 := ⟨_, rfl⟩
                have hbC : Below w7.heap.size w7 (w7.alloc P) := (Below.refl _ _).alloc (Nat.le_refl _) P
                have h3 := HO6.out.on hbC
                have HX3 := hidK h3
                have HO2 : Hid (OwnF (fun b => B ≤ b) txL 1 9 (w7.alloc P) (.slice aw lw cw) t.w) := h3.own.wt
                have HR2 : Hid (RowG txL (w7.alloc P) (.slice (some ⟨w7.heap.size, 0, none⟩) 1 1) [y]) := by
                  have := rowG_new elT w7 y #[.string y] rfl
                  rw [← hP] at this
                  exact this
                have HG2 : Hid (∀ w4, Kp (fun k => (Value.slice aw lw cw).ownBlock = some k) (w7.alloc P) w4 → w4.heap[w.heap.size + 1]? = some (.cells #[.slice aa la ca, .slice aw lw cw, v2] 26 (0, 0))) := fun w4 k4 => (k4.block _ h3.glt (fun e => (h3.nw _ e).1 rfl)).trans h3.blk
                have HF2 : Hid (∀ b, (w7.alloc P).heap.size ≤ b → B ≤ b) := fun b hb => by
                  have h0 := HK1.out.size
                  have h1 := HKC6.out.size
                  have h2 := HB1.out.size
                  have h4 := HBN.out
                  simp at hb; omega
                have HBC := hidK hbC
                obtain ⟨g0, g1, g2⟩ := HO6.out.cells
                obtain ⟨g3, g4, g5⟩ := h3.cells
                have d0 := HD6.out
                have d1 := cell_onG HD6.out hbC
                clear h3 hbC
                subst hP
                go_wp2
                go_region_law (refine stepG_all (F := fun b => B ≤ b) elT rfl (.tmp 95) (.tmp 100) rfl (.slice aw lw cw) t.w y w7.heap.size 1 (by simp [Act.eval]) (by simp [Act.eval]) (by exact HO2.out) (by exact HR2.out) (txL_one _) (by omega) (by exact HF2.out) ?_; intro v4 w4 o4 k4 l4; obtain ⟨a4, p4, e4, _⟩ := o4.form; obtain ⟨m4, hm4⟩ : ∃ m, m = (t.w ++ [y]).length := ⟨_, rfl⟩; rw [← hm4] at e4; clear hm4; subst e4; have hb2 := HG2.out _ (Kp.undrew k4); have d2 : w4.cell? ⟨w.heap.size + 1, 1, none⟩ = some (.slice aw lw cw) := cell_rowK hb2 1 _ rfl; have f2 := Lib.frozen_of_heap hb2 1)
                all_goals
                  have HK7 : Hid (∀ W, W = w4.setCell ⟨w.heap.size + 1, 1, none⟩ (.slice a4 m4 p4) → LkBox B (w.heap.size + 1) W (.slice aa la ca) (.slice a4 m4 p4) v2 ⟨t.d, t.w ++ [y], t.p⟩ ∧ Kp F w7 W) := by
                    rintro W rfl
                    have k5 := Kp.undrew k4
                    have q5 := kq_set w4 (w.heap.size + 1) 1 (.slice a4 m4 p4)
                    have hka : Kp F w7 (w7.alloc (.cells #[.string y] 9)) := Kp.of_below HBC.out
                    exact ⟨HX3.out.putW k5 o4 l4 (blk_set hb2 _) q5, kp_frame hka k5 (HFO.out _ _ _ _ _ ((HK1.out.trans HKC6.out).trans hka) HX3.out).2.1 q5 HFG.out⟩
                  obtain ⟨X7, K7⟩ := HK7.out _ rfl
                  generalize w4.setCell ⟨w.heap.size + 1, 1, none⟩ (.slice a4 m4 p4) = W7 at X7 K7 ⊢
                  have HX8 := hidK X7
                  have HK8 := hidK K7
                  clear HK7 o4 k4 l4 hb2 d2 f2 X7 K7 g0 g1 g2 g3 g4 g5 d0 d1
                  go_wp2
                  go_roundw
                  case rel => exact ⟨k + 1, by go_num, by omega, ⟨_, _, _, by rw [HST.out, HWN.out]; exact HX8.out⟩, HKC6.out.trans HK8.out⟩
                  case measure => simp [intOf]; omega
          · obtain rfl : k = ln := by omega
            have hE : LkOwn B wr v0 v1 v2 (pullN s (num, a) ds ns) := by
              have := ho.own
              rw [HLN.out, List.take_length, ← HTT.out] at this
              exact this
            obtain ⟨a0, c0, e0, _⟩ := hE.d.form
            obtain ⟨a1, c1, e1, _⟩ := hE.wt.form
            obtain ⟨a2, c2, e2, _⟩ := hE.p.form
            obtain ⟨l0, hl0⟩ : ∃ l, l = (pullN s (num, a) ds ns).d.length := ⟨_, rfl⟩
            obtain ⟨l1, hl1⟩ : ∃ l, l = (pullN s (num, a) ds ns).w.length := ⟨_, rfl⟩
            obtain ⟨l2, hl2⟩ : ∃ l, l = (pullN s (num, a) ds ns).p.length := ⟨_, rfl⟩
            rw [← hl0] at e0
            rw [← hl1] at e1
            rw [← hl2] at e2
            subst e0 e1 e2
            have HE := hidK hE
            obtain ⟨g0, g1, g2⟩ := ho.cells
            have HZ := hidK (HCX.out _ hK1).2
            have HKF := hidK hK1
            clear hl0 hl1 hl2 hE ho hB hK1
            go_wp2_with (refine wpList_store_kz rfl rfl 26 _ _ rfl (w.heap.size + 1 + 1) 0 (.agg #[.slice a0 l0 c0, .slice a1 l1 c1, .slice a2 l2 c2]) rfl rfl 26 #[.slice none 0 0, .slice none 0 0, .slice none 0 0] #[.slice a0 l0 c0, .slice a1 l1 c1, .slice a2 l2 c2] HZ.out sizeLink rfl rfl rfl ?_; intro W6 g6 q6; have HG6 := hidK g6; have HQ6 := hidK q6; clear g6 q6)
            refine bodyPost_ret (results_cell_row rfl _ _ (w.heap.size + 1 + 1) _ _ _ _ rfl HG6.out Try.underlying26 rfl sizeLink) rfl ?_
            have hbn := HBN.out
            have hb2 : Below B w wr := (HB1.out.mono hbn).trans (HKF.out.below HFB.out (Nat.le_trans hbn HB1.out.size))
            exact ⟨_, _, _, _, _, _, _, _, _, rfl, HE.out.store HZ.out HQ6.out, hb2.trans (HQ6.out.below (by omega) (Nat.le_trans hbn hb2.size))⟩
end Go.Proofs.Ytebgannhecmnmaa
