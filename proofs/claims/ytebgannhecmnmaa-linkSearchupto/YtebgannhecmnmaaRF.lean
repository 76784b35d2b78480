
-- The document's Group.
import Derived.Test.YtebgannhecmnmaaRE
namespace Go.Proofs.Ytebgannhecmnmaa
open Go.ChangeShapes Go.WideShapes Go.ChangeAt Go.RowKit Go.MapKept
set_option linter.unusedVariables false
set_option maxRecDepth 100000
theorem step_call3 {ops : Array Oper} {o : Oper} {a : Act} {w : World} {K : Act → World → Prop} {Q : Exit → Act → World → Prop} {E : Prop}
    (hg : o.guard = none) (f : FuncId) (x y z : Operand) (t1 t2 t3 : TypeId) (hop : o.op = Op.call { callee := Callee.value (Operand.func f), args := #[x, y, z], argTypes := #[t1, t2, t3] })
    (v v2 v3 : Value) (hx : a.eval x = v) (hy : a.eval y = v2) (hz : a.eval z = v3) (eg : ∀ args w, (callFunc f args).run Try.prog w = .ok (.enter f args) w) {R : Ending → World → Prop} (hc : Calls Try.prog f #[v, v2, v3] w R) (hK : ∀ e w', R e w' → ∃ u, e = .returned u ∧ K (a.put o.dst u) w') :
    if Region.wanted o (yielded ops a.tmps) = true then Oper.wp Try.prog o a w K Q else E := by
  rw [if_pos (by simp [Region.wanted, hg])]
  unfold Oper.wp
  subst hx
  subst hy
  subst hz
  have hr : (execOp a.eval o).run Try.prog w = .ok (.enter f #[a.eval x, a.eval y, a.eval z]) w := by
    simp [execOp, hop, resolve, invoke, eg, go_sem]
  rw [hr, Oper.upon_enter]
  refine hc.mono ?_
  intro e w' h
  obtain ⟨u, rfl, hk⟩ := hK e w' h
  exact hk
theorem sizesN_app (a b : List (Int × Lb)) : sizesN (a ++ b) = sizesN a + sizesN b := by unfold sizesN; rw [List.map_append, List.sum_append]
theorem numL_take {Ls : List Lb} {k : Nat} {L : Lb} (h : Ls[k]? = some L) : (numL Ls).take (k + 1) = (numL Ls).take k ++ [((k : Int), L)] := takeSucc (by rw [numL_get, h]; rfl)
theorem sizesN_take (Ls : List (Int × Lb)) (k : Nat) : sizesN (Ls.take k) ≤ sizesN Ls := by
  conv => rhs; rw [← List.take_append_drop k Ls, sizesN_app]
  omega
theorem mu_mem {Ls : List (Int × Lb)} {x : Int × Lb} (h : x ∈ Ls) (s : Lk) : muN [x] s ≤ muN Ls s := by
  unfold muN
  induction Ls with
  | nil => simp at h
  | cons y r ih =>
    rcases List.mem_cons.1 h with rfl | h
    · simp
    · have := ih h
      simp at this ⊢
      omega
theorem Lim.sub {K M Pm : Nat} {Ls : List (Int × Lb)} (h : Lim K M Pm Ls) {x : Int × Lb} (hx : x ∈ Ls) : Lim K M Pm [x] :=
  ⟨fun y hy => by rw [List.mem_singleton.1 hy]; exact h.m x hx, fun y hy => by rw [List.mem_singleton.1 hy]; exact h.e x hx, h.p, h.l⟩
theorem srch_siz {L : Lb} {num : Int} {K M : Nat} (h : (∀ l ∈ L.df, l.length ≤ M) ∧ ∀ l ∈ L.nd, l.length ≤ M) {s : Lk} (hs : Siz K M s) : Siz K M (srchN L num s) := iter_siz (fun u hu => foldO_siz h.1 h.2 _ u hu) _ s hs
theorem roundF_siz {Ls : List (Int × Lb)} {K M : Nat} (hm : ∀ x ∈ Ls, (∀ l ∈ x.2.df, l.length ≤ M) ∧ ∀ l ∈ x.2.nd, l.length ≤ M) (l : List (Int × Lb)) : (∀ x ∈ l, x ∈ Ls) → ∀ s, Siz K M s → Siz K M (l.foldl (fun s x => srchN x.2 x.1 s) s) := by
  induction l with
  | nil => intro _ s h; exact h
  | cons x r ih => intro hl s h; rw [List.foldl_cons]; exact ih (fun y hy => hl y (.tail _ hy)) _ (srch_siz (hm x (hl x (.head _))) h)
set_option maxHeartbeats 16000000 in
theorem rgroup_c (v : Value) (lvs : List Lv) (Ls : List Lb) (vd vw vp : Value) (s : Lk) (w : World) (K M Pm : Nat) (hV : LibsAt (fun b => w.heap.size ≤ b) w v lvs Ls) (hd : RowT w vd s.d) (hw : RowT w vw s.w) (hp : RowP w vp s.p)
    (hsz : Siz K M s) (hn : Ls.length ≤ 67108864) (hA : ∀ L ∈ Ls, L.a.length < 4611686018427387904) (hlim : Lim K M Pm (numL Ls)) (hPm : sizesN (numL Ls) + s.p.length ≤ Pm) :
    Calls Try.prog 31 #[v, .agg #[vd, vw, vp]] w fun e w' => ∃ a0 l0 c0 a1 l1 c1 a2 l2 c2, e = .returned (.agg #[.slice a0 l0 c0, .slice a1 l1 c1, .slice a2 l2 c2]) ∧ LkOwn w.heap.size w' (.slice a0 l0 c0) (.slice a1 l1 c1) (.slice a2 l2 c2) (groupN (numL Ls) s) ∧ Below w.heap.size w w' := by
  obtain ⟨S, hS⟩ : ∃ S, S = Obj.cells #[vd, vw, vp] 26 := ⟨_, rfl⟩
  obtain ⟨Z, hZ⟩ : ∃ Z, Z = Obj.cells #[.slice none 0 0, .slice none 0 0, .slice none 0 0] 26 := ⟨_, rfl⟩
  obtain ⟨w1, hw1⟩ : ∃ w1, w1 = (w.alloc S).alloc Z := ⟨_, rfl⟩
  have hb1 : Below w.heap.size w w1 := by rw [hw1]; exact ((Below.refl _ w).alloc (Nat.le_refl _) S).alloc (by simp) Z
  have hs1 : w1.heap.size = w.heap.size + 2 := by rw [hw1]; simp
  have hq0 : w1.heap[w.heap.size]? = some (.cells #[vd, vw, vp] 26 (0, 0)) := by rw [hw1]; exact hupK (by rw [heap_alloc_new, hS]) Z
  have hz0 : w1.heap[w.heap.size + 1]? = some (.cells #[.slice none 0 0, .slice none 0 0, .slice none 0 0] 26 (0, 0)) := by rw [hw1, heap_new2K, hZ]
  obtain ⟨F, hFd⟩ : ∃ F : Nat → Prop, F = fun b => b = w.heap.size ∨ w1.heap.size ≤ b := ⟨_, rfl⟩
  have HF1 : Hid (F w.heap.size) := by rw [hFd]; exact .inl rfl
  have HFN : Hid (∀ b, w1.heap.size ≤ b → F b) := fun b hb => by rw [hFd]; exact .inr hb
  have HFB : Hid (∀ b, F b → w.heap.size ≤ b) := fun b hb => by rw [hFd] at hb; rcases hb with q | q <;> omega
  have HCX : Hid (∀ W, Kp F w1 W → W.heap[w.heap.size + 1]? = some (.cells #[.slice none 0 0, .slice none 0 0, .slice none 0 0] 26 (0, 0))) := fun W hk => (hk.block _ (by omega) (by rw [hFd]; intro q; rcases q with q | q <;> omega)).trans hz0
  have HBW : Hid (∀ W, Kp F w1 W → Below w.heap.size w W) := fun W hk => hb1.trans (hk.below HFB.out hb1.size)
  have HVW : Hid (∀ W, Kp F w1 W → LibsAt (fun b => W.heap.size ≤ b) W v lvs Ls) := fun W hk => (hV.kp (Kp.of_below (HBW.out W hk))).weak (fun b _ hh => Nat.le_trans (HBW.out W hk).size hh)
  have hJ : muN (numL Ls) s + s.p.length ≤ Pm := by have := mu_le (numL Ls) s; omega
  have hsa := siz_at hsz (show s.p.length ≤ Pm by omega) hlim.p
  have HFR := hidK (rfresh_c vd vw vp s w1 (hd.on hb1) (hw.on hb1) (hp.on hb1) (by omega) (by omega) (by have := hlim.l; omega))
  have HQ0 := hidK hq0
  obtain ⟨y0, y1, y2⟩ := lk_cells hq0
  have hlen := hV.len
  obtain ⟨av, cv, ev, _, _⟩ := hV.row.row.form
  obtain ⟨nl, hnl⟩ : ∃ n, n = lvs.length := ⟨_, rfl⟩
  have HNL := hidK hnl
  have HLEN := hidK hlen
  have hnl2 : nl ≤ 67108864 := by rw [hnl, hlen]; exact hn
  rw [← hnl] at ev
  subst ev
  obtain ⟨sz, hszd⟩ : ∃ z, z = sizesN (numL Ls) := ⟨_, rfl⟩
  have HSZD := hidK hszd
  have hsz2 : sz ≤ 4398046511104 := by have := hlim.l; omega
  have HLIM := hidK hlim
  have HAO := hidK hA
  have HJ := hidK hJ
  have HSZ := hidK hsz
  have HS1 := hidK hs1
  have HGO : Hid (∀ (t : Lk) (k : Nat), Goes (numL Ls) t (((numL Ls).take k).foldl (fun s x => srchN x.2 x.1 s) t)) := fun t k => roundF_goes _ (fun x hx => List.mem_of_mem_take hx) t
  have HSF : Hid (∀ (t : Lk) (k : Nat), Siz K M t → Siz K M (((numL Ls).take k).foldl (fun s x => srchN x.2 x.1 s) t)) := fun t k h => roundF_siz hlim.m _ (fun x hx => List.mem_of_mem_take hx) t h
  have HIT : Hid (groupN (numL Ls) s = iterN (roundN (numL Ls)) (sz + 1) s) := by rw [hszd]; exact rfl
  have HNN : Hid ((numL Ls).length = nl) := by show _ = _; rw [numL_len, hnl, hlen]
  clear hV hd hw hp hb1 hs1 hq0 hz0 hFd hlim hn hA hPm hsz hJ hsa hlen hnl hszd
  subst hS hZ
  go_enter Try.func31, Try.ntmps31
  go_upto_region 1 with fail
  rw [← hw1]
  clear hw1
  go_upto_region 2 with (first
    | (go_at_call 44; refine HFR.out.mono ?_; rintro e w2 ⟨a0, l0, c0, a1, l1, c1, a2, l2, c2, rfl, q1, q2⟩; have HO2 := hidK q1; have HB2 := hidK q2; clear q1 q2)
    | (refine wpList_store_kz rfl rfl 26 _ _ rfl w.heap.size 0 (.agg #[.slice a0 l0 c0, .slice a1 l1 c1, .slice a2 l2 c2]) rfl rfl 26 #[vd, vw, vp] #[.slice a0 l0 c0, .slice a1 l1 c1, .slice a2 l2 c2] (hkeepK HB2.out HQ0.out) sizeLink rfl rfl rfl ?_; intro W3 g3 q3; have HG3 := hidK g3; have HQ3 := hidK q3; clear g3 q3))
  have HX3 : Hid (LkBox w1.heap.size w.heap.size W3 (.slice a0 l0 c0) (.slice a1 l1 c1) (.slice a2 l2 c2) s) := ⟨HG3.out, HO2.out.store (hkeepK HB2.out HQ0.out) HQ3.out⟩
  have HK3 : Hid (Kp F w1 W3) := (Kp.of_below HB2.out).trans (Kp.kq HQ3.out HF1.out)
  clear y0 y1 y2 HG3 HO2 HQ3 HB2 HFR HQ0
  go_wp2
  go_loopw [5, 6] (fun m i wx => ∃ k : Nat, i = .int .i64 k ∧ k ≤ nl ∧ m = .int .i64 ((sizesN ((numL Ls).take k) : Nat) : Int) ∧ wx = W3) (fun _ i _ => nl - (intOf i).toNat)
  case atStart => exact ⟨0, rfl, Nat.zero_le _, rfl, rfl⟩
  case round =>
    obtain ⟨k, rfl, hkn, rfl, hB⟩ := hrel
    subst wr
    by_cases hk : k < nl
    · have kI : (k : Int) < (nl : Int) := by omega
      have k0 : (0 : Int) ≤ (k : Int) := by omega
      have kw : IntKind.i64.wrap ((k : Int) + 1) = (k : Int) + 1 := by rw [IntKind.wrap_i64]; omega
      obtain ⟨⟨xe, xa, xn, xf, xg⟩, hx⟩ : ∃ x, lvs[k]? = some x := ⟨_, List.getElem?_eq_getElem (by have := HNL.out; omega)⟩
      obtain ⟨L, hL⟩ : ∃ L, Ls[k]? = some L := ⟨_, List.getElem?_eq_getElem (by have := HLEN.out; have := HNL.out; omega)⟩
      have hlibs := HVW.out W3 HK3.out
      have hlib := hlibs.ea k _ L hx hL
      obtain ⟨a1', c1', e1', _⟩ := hlib.a.row.form
      simp only at e1'
      obtain ⟨b1, o1, p1, ev, d0, d1, d2, d3, d4⟩ := hlibs.row.row.lv hx
      simp only at d1
      injection ev with ev evb evc
      subst ev
      rw [e1'] at d1
      obtain ⟨la, hla⟩ : ∃ l, l = L.a.length := ⟨_, rfl⟩
      rw [← hla] at d1
      have hst : sizesN ((numL Ls).take (k + 1)) = sizesN ((numL Ls).take k) + la := by rw [numL_take hL, sizesN_app, hla]; simp [sizesN]
      have hle := sizesN_take (numL Ls) (k + 1)
      rw [← HSZD.out, hst] at hle
      have HST := hidK hst
      obtain ⟨q, hq⟩ : ∃ q, q = sizesN ((numL Ls).take k) := ⟨_, rfl⟩
      rw [← hq] at hle HST ⊢
      have qw : IntKind.i64.wrap ((q : Int) + (la : Int)) = (q : Int) + (la : Int) := by rw [IntKind.wrap_i64]; omega
      clear hx hL hlibs hlib e1' evb evc d0 d2 d3 d4 hla hst hq
      go_wp2
      go_roundw
      case rel => exact ⟨k + 1, by go_num, by omega, by rw [HST.out]; go_num, by first | rfl | trivial⟩
      case measure => simp [intOf]; omega
    · obtain rfl : k = nl := by omega
      have hsq : sizesN ((numL Ls).take k) = sz := by rw [HSZD.out, List.take_of_length_le (by have := HNN.out; omega)]
      rw [hsq]
      clear hsq
      go_wp2
      go_loopw [7] (fun i wx => ∃ r t, i = .int .i64 ((r : Nat) : Int) ∧ r ≤ sz + 1 ∧ (∃ v0 v1 v2, LkBox w1.heap.size w.heap.size wx v0 v1 v2 t) ∧ Kp F w1 wx ∧ iterN (roundN (numL Ls)) (sz + 1 - r) t = groupN (numL Ls) s ∧ muN (numL Ls) t + t.p.length ≤ Pm ∧ Siz K M t) (fun i _ => sz + 1 - (intOf i).toNat)
      case atStart => exact ⟨0, s, rfl, Nat.zero_le _, ⟨_, _, _, HX3.out⟩, HK3.out, by rw [HIT.out]; exact rfl, HJ.out, HSZ.out⟩
      case round =>
        obtain ⟨r, t, rfl, hrn, ⟨v0, v1, v2, ho⟩, hK, hit, hmu, hsz⟩ := hrel
        clear HX3 HK3
        obtain ⟨a2', c2', e2', _⟩ := ho.own.p.form
        obtain ⟨lt, hlt⟩ : ∃ l, l = t.p.length := ⟨_, rfl⟩
        rw [← hlt] at e2'
        subst e2'
        have HLT := hidK hlt
        obtain ⟨g0, g1, g2⟩ := ho.cells
        have HO := hidK ho
        have HK := hidK hK
        have HIT2 := hidK hit
        have HMU := hidK hmu
        have HSZ2 := hidK hsz
        clear hlt ho hK hit hmu hsz
        by_cases hr : r ≤ sz
        · have rI : (r : Int) ≤ (sz : Int) := by omega
          have rw' : IntKind.i64.wrap ((r : Int) + 1) = (r : Int) + 1 := by rw [IntKind.wrap_i64]; omega
          obtain ⟨w4, hw4⟩ : ∃ x, x = wr := ⟨_, rfl⟩
          subst hw4
          go_wp2
          go_loopw [9] (fun i wx => ∃ j : Nat, i = .int .i64 j ∧ j ≤ k ∧ (∃ v0 v1 v2, LkBox w1.heap.size w.heap.size wx v0 v1 v2 (((numL Ls).take j).foldl (fun s x => srchN x.2 x.1 s) t)) ∧ Kp F w1 wx) (fun i _ => k - (intOf i).toNat)
          case atStart => exact ⟨0, rfl, Nat.zero_le _, ⟨_, _, _, HO.out⟩, HK.out⟩
          case round =>
            obtain ⟨j, rfl, hjn, ⟨v0', v1', v2', ho⟩, hK⟩ := hrel
            clear g0 g1 g2
            by_cases hj : j < k
            · have jI : (j : Int) < (k : Int) := by omega
              have j0 : (0 : Int) ≤ (j : Int) := by omega
              have jw : IntKind.i64.wrap ((j : Int) + 1) = (j : Int) + 1 := by rw [IntKind.wrap_i64]; omega
              obtain ⟨⟨xe, xa, xn, xf, xg⟩, hx⟩ : ∃ x, lvs[j]? = some x := ⟨_, List.getElem?_eq_getElem (by have := HNL.out; omega)⟩
              obtain ⟨L, hL⟩ : ∃ L, Ls[j]? = some L := ⟨_, List.getElem?_eq_getElem (by have := HLEN.out; have := HNL.out; omega)⟩
              have hlibs := HVW.out wr hK
              have hlib := hlibs.ea j _ L hx hL
              obtain ⟨s0, t0, z0, s1, t1, z1, s2, t2, z2, s3, t3, z3, s4, t4, z4, e0, e1, e2, e3, e4⟩ := hlib.slices
              simp only at e0 e1 e2 e3 e4
              subst e0 e1 e2 e3 e4
              obtain ⟨b1, o1, p1, ev, d0, d1, d2, d3, d4⟩ := hlibs.row.row.lv hx
              simp only at d0 d1 d2 d3 d4
              injection ev with ev evb evc
              subst ev
              obtain ⟨q, hq⟩ : ∃ q, q = ((numL Ls).take j).foldl (fun s x => srchN x.2 x.1 s) t := ⟨_, rfl⟩
              have HST : Hid (((numL Ls).take (j + 1)).foldl (fun s x => srchN x.2 x.1 s) t = srchN L (j : Int) q) := by rw [numL_take hL, List.foldl_append, ← hq]; exact rfl
              have hrs : Siz K M q := by rw [hq]; exact HSF.out t j HSZ2.out
              have hrm : muN (numL Ls) q + q.p.length ≤ Pm := by have := (HGO.out t j).mu; rw [← hq] at this; have := HMU.out; omega
              have hmem : ((j : Int), L) ∈ numL Ls := List.mem_of_getElem? (i := j) (by rw [numL_get, hL]; rfl)
              rw [← hq] at ho
              obtain ⟨ad, cd, ed, _⟩ := ho.own.d.form
              obtain ⟨ld, hld⟩ : ∃ l, l = q.d.length := ⟨_, rfl⟩
              rw [← hld] at ed
              subst ed
              obtain ⟨aw, cw, ew, _⟩ := ho.own.wt.form
              obtain ⟨lw, hlw⟩ : ∃ l, l = q.w.length := ⟨_, rfl⟩
              rw [← hlw] at ew
              subst ew
              obtain ⟨ap, cp, ep, _⟩ := ho.own.p.form
              obtain ⟨lp, hlp⟩ : ∃ l, l = q.p.length := ⟨_, rfl⟩
              rw [← hlp] at ep
              subst ep
              have HR := hidK ho
              have HKR := hidK hK
              obtain ⟨g0, g1, g2⟩ := ho.cells
              have HSE : Hid (∀ W, Below wr.heap.size wr W → Calls Try.prog 24 #[.agg #[.slice s0 t0 z0, .slice s1 t1 z1, .slice s2 t2 z2, .slice s3 t3 z3, .slice s4 t4 z4], .int .i64 (j : Int), .agg #[.slice ad ld cd, .slice aw lw cw, .slice ap lp cp]] W fun e w' => ∃ a0 l0 c0 a1 l1 c1 a2 l2 c2, e = .returned (.agg #[.slice a0 l0 c0, .slice a1 l1 c1, .slice a2 l2 c2]) ∧ LkOwn wr.heap.size w' (.slice a0 l0 c0) (.slice a1 l1 c1) (.slice a2 l2 c2) (srchN L (j : Int) q) ∧ Below wr.heap.size wr w' ∧ w'.heap[w.heap.size]? = some (.cells #[.slice ad ld cd, .slice aw lw cw, .slice ap lp cp] 26 (0, 0))) := fun W hb => (rsearch_c _ _ _ _ _ L j _ _ _ q W M Pm K ((HVW.out W (HKR.out.trans (Kp.of_below hb))).ea j _ L hx hL) (OwnF.row elT (HR.out.on hb).own.d) (OwnF.row elT (HR.out.on hb).own.wt) (OwnF.row elP (HR.out.on hb).own.p) hrs (HAO.out L (List.mem_of_getElem? hL)) (HLIM.out.sub hmem) (by have := mu_mem hmem q; omega)).mono (by
                rintro e w' ⟨a0, l0, c0, a1, l1, c1, a2, l2, c2, q1, q2, q3⟩
                have hb' := bel3K hb q3
                exact ⟨a0, l0, c0, a1, l1, c1, a2, l2, c2, q1, lk_up q2 hb.size, hb', hkeepK hb' HR.out.blk⟩)
              clear hlibs hlib hx hL hq evb evc hrs hrm hmem hld hlw hlp ho hK
              go_wp2
              go_region_law (refine step_call3 rfl 24 (.tmp 43) (.tmp 44) (.tmp 45) 37 3 26 rfl (.agg #[.slice s0 t0 z0, .slice s1 t1 z1, .slice s2 t2 z2, .slice s3 t3 z3, .slice s4 t4 z4]) (.int .i64 (j : Int)) (.agg #[.slice ad ld cd, .slice aw lw cw, .slice ap lp cp]) (by simp [Act.eval]) (by simp [Act.eval]) (by simp [Act.eval]) (enters_of Try.func24 (by kernel_rfl) rfl) (HSE.out _ (by first | exact Below.refl _ _ | exact (Below.refl _ _).drew | exact (Below.refl _ _).drew.drew)) ?_; rintro e w9 ⟨a0', l0', c0', a1', l1', c1', a2'', l2', c2'', rfl, q1, q2, q3⟩; refine ⟨_, rfl, ?_⟩; obtain ⟨m0, m1, m2⟩ := lk_cells q3; have f0 := Lib.frozen_of_heap q3 0; have f1 := Lib.frozen_of_heap q3 1; have f2 := Lib.frozen_of_heap q3 2; have HO9 := hidK q1; have HB9 := hidK q2; have HG9 := hidK q3; clear q1 q2 q3)
              all_goals
                obtain ⟨g7, k7⟩ := three_set (w := w9) HG9.out (.slice a0' l0' c0') (.slice a1' l1' c1') (.slice a2'' l2' c2'')
                generalize ((w9.setCell ⟨w.heap.size, 0, none⟩ (.slice a0' l0' c0')).setCell ⟨w.heap.size, 1, none⟩ (.slice a1' l1' c1')).setCell ⟨w.heap.size, 2, none⟩ (.slice a2'' l2' c2'') = W7 at g7 k7 ⊢
                have HX7 : Hid (LkBox w1.heap.size w.heap.size W7 (.slice a0' l0' c0') (.slice a1' l1' c1') (.slice a2'' l2' c2'') (srchN L (j : Int) q) ∧ Kp F w1 W7) := ⟨⟨g7, lk_up (HO9.out.store HG9.out k7) HKR.out.size⟩, (HKR.out.trans (Kp.of_below HB9.out)).trans (Kp.kq k7 HF1.out)⟩
                clear g7 k7 m0 m1 m2 f0 f1 f2 g0 g1 g2 d0 d1 d2 d3 d4
                go_wp2
                go_roundw
                case rel => exact ⟨j + 1, by go_num, by omega, ⟨_, _, _, by rw [HST.out]; exact HX7.out.1⟩, HX7.out.2⟩
                case measure => simp [intOf]; omega
            · obtain rfl : j = k := by omega
              have hbx : LkBox w1.heap.size w.heap.size wr v0' v1' v2' (roundN (numL Ls) t) := by
                have := ho
                rw [List.take_of_length_le (by have := HNN.out; omega)] at this
                exact this
              obtain ⟨q, hq⟩ : ∃ r, r = roundN (numL Ls) t := ⟨_, rfl⟩
              have HRE := hidK hq
              rw [← hq] at hbx
              obtain ⟨ad, cd, ed, _⟩ := hbx.own.d.form
              obtain ⟨ld, hld⟩ : ∃ l, l = q.d.length := ⟨_, rfl⟩
              rw [← hld] at ed
              subst ed
              obtain ⟨aw, cw, ew, _⟩ := hbx.own.wt.form
              obtain ⟨lw, hlw⟩ : ∃ l, l = q.w.length := ⟨_, rfl⟩
              rw [← hlw] at ew
              subst ew
              obtain ⟨ap, cp, ep, _⟩ := hbx.own.p.form
              obtain ⟨lp, hlp⟩ : ∃ l, l = q.p.length := ⟨_, rfl⟩
              rw [← hlp] at ep
              subst ep
              have HLP := hidK hlp
              obtain ⟨g0, g1, g2⟩ := hbx.cells
              have HBX := hidK hbx
              have HKR := hidK hK
              have HZ := hidK (HCX.out _ hK)
              clear hq hld hlw hlp hbx ho hK
              by_cases hpe : lp = lt
              · have HE : Hid (groupN (numL Ls) s = q) := by
                  have h1 := HIT2.out
                  rw [show sz + 1 - r = (sz - r) + 1 by omega, iter_stop (by rw [← HRE.out, ← HLP.out, ← HLT.out, hpe]), ← HRE.out] at h1
                  exact h1.symm
                subst hpe
                go_wp2_with (refine wpList_store_kz rfl rfl 26 _ _ rfl (w.heap.size + 1) 0 (.agg #[.slice ad ld cd, .slice aw lw cw, .slice ap lp cp]) rfl rfl 26 #[.slice none 0 0, .slice none 0 0, .slice none 0 0] #[.slice ad ld cd, .slice aw lw cw, .slice ap lp cp] HZ.out sizeLink rfl rfl rfl ?_; intro W6 g6 q6; have HG6 := hidK g6; have HQ6 := hidK q6; clear g6 q6)
                refine bodyPost_ret (results_cell_row rfl _ _ (w.heap.size + 1) _ _ _ _ rfl HG6.out Try.underlying26 rfl sizeLink) rfl ?_
                have hb2 := HBW.out _ HKR.out
                rw [HE.out]
                exact ⟨_, _, _, _, _, _, _, _, _, rfl, lk_up (HBX.out.own.store HZ.out HQ6.out) (by have := HS1.out; omega), hb2.trans (HQ6.out.below (by omega) hb2.size)⟩
              · have hne : ((lp : Int) == (lt : Int)) = false := by simp; omega
                have hne2 : ¬ ((lp : Int) = (lt : Int)) := by omega
                have HNP := hidK hpe
                clear hpe
                go_wp2
                go_roundw
                case rel =>
                  refine ⟨r + 1, q, by go_num, by omega, ⟨_, _, _, HBX.out⟩, HKR.out, ?_, ?_, ?_⟩
                  · have h1 := HIT2.out
                    have h2 := HNP.out
                    rw [show sz + 1 - r = (sz + 1 - (r + 1)) + 1 by omega] at h1
                    unfold iterN at h1
                    rw [if_neg (by rw [← HRE.out, ← HLP.out, ← HLT.out]; exact h2), ← HRE.out] at h1
                    exact h1
                  · have h1 := (HGO.out t j).mu
                    have h2 := HMU.out
                    have h3 : ((numL Ls).take j).foldl (fun s x => srchN x.2 x.1 s) t = q := by rw [List.take_of_length_le (by have := HNN.out; omega)]; exact HRE.out.symm
                    rw [h3] at h1
                    omega
                  · have h1 := HSF.out t j HSZ2.out
                    have h3 : ((numL Ls).take j).foldl (fun s x => srchN x.2 x.1 s) t = q := by rw [List.take_of_length_le (by have := HNN.out; omega)]; exact HRE.out.symm
                    rw [h3] at h1
                    exact h1
                case measure => simp [intOf]; omega
        · obtain rfl : r = sz + 1 := by omega
          have HE : Hid (groupN (numL Ls) s = t) := by
            have h1 := HIT2.out
            rw [Nat.sub_self] at h1
            exact h1.symm
          have hbx := HO.out
          obtain ⟨ad, cd, ed, _⟩ := hbx.own.d.form
          obtain ⟨ld, hld⟩ : ∃ l, l = t.d.length := ⟨_, rfl⟩
          rw [← hld] at ed
          subst ed
          obtain ⟨aw, cw, ew, _⟩ := hbx.own.wt.form
          obtain ⟨lw, hlw⟩ : ∃ l, l = t.w.length := ⟨_, rfl⟩
          rw [← hlw] at ew
          subst ew
          have HZ := hidK (HCX.out _ HK.out)
          have kI : ¬ (((sz + 1 : Nat) : Int) ≤ (sz : Int)) := by omega
          clear hbx hld hlw
          go_wp2_with (refine wpList_store_kz rfl rfl 26 _ _ rfl (w.heap.size + 1) 0 (.agg #[.slice ad ld cd, .slice aw lw cw, .slice a2' lt c2']) rfl rfl 26 #[.slice none 0 0, .slice none 0 0, .slice none 0 0] #[.slice ad ld cd, .slice aw lw cw, .slice a2' lt c2'] HZ.out sizeLink rfl rfl rfl ?_; intro W6 g6 q6; have HG6 := hidK g6; have HQ6 := hidK q6; clear g6 q6)
          refine bodyPost_ret (results_cell_row rfl _ _ (w.heap.size + 1) _ _ _ _ rfl HG6.out Try.underlying26 rfl sizeLink) rfl ?_
          have hb2 := HBW.out _ HK.out
          rw [HE.out]
          exact ⟨_, _, _, _, _, _, _, _, _, rfl, lk_up (HO.out.own.store HZ.out HQ6.out) (by have := HS1.out; omega), hb2.trans (HQ6.out.below (by omega) hb2.size)⟩
end Go.Proofs.Ytebgannhecmnmaa
