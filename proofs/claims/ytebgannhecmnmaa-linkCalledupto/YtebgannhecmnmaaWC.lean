
-- LinkCalled: the walk.
import Derived.Test.YtebgannhecmnmaaPR
import Derived.Test.YtebgannhecmnmaaCA
import Derived.Test.YtebgannhecmnmaaCP
import Derived.Test.YtebgannhecmnmaaWF
namespace Go.Proofs.Ytebgannhecmnmaa
open Go.ChangeShapes Go.WideShapes Go.ChangeAt Go.RowKit Go.MapKept
set_option linter.unusedVariables false
set_option maxRecDepth 100000
theorem mem_numI {Ls : List Lb} {x : Int} {L : Lb} (h : (x, L) ∈ numL Ls) : ∃ i : Nat, x = (i : Int) ∧ Ls[i]? = some L := by
  obtain ⟨i, hi⟩ := List.getElem?_of_mem h
  rw [numL_get] at hi
  cases e : Ls[i]? with
  | none => rw [e] at hi; simp at hi
  | some L' =>
    rw [e] at hi
    simp at hi
    obtain ⟨h1, h2⟩ := hi
    subst h1 h2
    exact ⟨i, rfl, e⟩
theorem ndF_ok (Ls : List Lb) : ∀ x ∈ numL Ls, ∀ a i, idx x.2.a a = some i → ndF Ls (x.1, a) = x.2.nd.getD i [] := by
  rintro ⟨x, L⟩ hx a i hi
  obtain ⟨j, rfl, hj⟩ := mem_numI hx
  unfold ndF
  simp only [Int.toNat_natCast, hj]
  simp only at hi
  rw [hi]
theorem ndF_at {Ls : List Lb} {j : Nat} {L : Lb} {a : Int} {i : Nat} (hj : Ls[j]? = some L) (hi : idx L.a a = some i) : ndF Ls ((j : Int), a) = L.nd.getD i [] := by
  unfold ndF
  simp only [Int.toNat_natCast, hj, hi]
theorem idxI_at {A : List Int} {x : Int} {i : Nat} (h : idx A x = some i) : idxI A x = (i : Int) := by unfold idxI; rw [h]
theorem flat_le {q : List (Int × Int)} {nd : Int × Int → List ByteArray} (h : ∀ x ∈ q, (nd x).length ≤ 1048576) (k : Nat) : ((q.take k).flatMap nd).length ≤ 1048576 * q.length := by
  induction q generalizing k with
  | nil => simp
  | cons x r ih =>
    cases k with
    | zero => simp
    | succ k =>
      rw [List.take_succ_cons, List.flatMap_cons, List.length_append, List.length_cons, Nat.mul_add, Nat.mul_one]
      have := ih (fun y hy => h y (.tail _ hy)) k
      have := h x (.head _)
      omega
theorem ndF_len {Ls : List Lb} {s : Lk} (hB : Bulk Ls s) (x : Int × Int) : (ndF Ls x).length ≤ 1048576 := by
  unfold ndF
  split
  · simp
  · rename_i L hL
    split
    · simp
    · exact getD_len (hB.g L (List.mem_of_getElem? hL)) _
theorem LibAt.needs {F : Nat → Prop} {w : World} {ve va vn vf vg : Value} {L : Lb} (h : LibAt F w ve va vn vf vg L) : ∃ vs : List Value, RowG vaL w vg vs ∧ vs.length = L.nd.length ∧ ∀ (i : Nat) (u : Value), vs[i]? = some u → RowT w u (L.nd.getD i []) := by
  obtain ⟨vs, h1, h2, h3⟩ := h.g
  refine ⟨vs, h1.row, h2, fun i u hu => ?_⟩
  have hl : i < L.nd.length := by have := (List.getElem?_eq_some_iff.1 hu).1; omega
  have := (h3 i u _ hu (List.getElem?_eq_getElem hl)).row
  rwa [List.getD_eq_getElem?_getD, List.getElem?_eq_getElem hl]
set_option maxHeartbeats 16000000 in
theorem called_w (v : Value) (lvs : List Lv) (Ls : List Lb) (vd vw vp : Value) (s : Lk) (w : World) (hB : Bulk Ls s) (hV : LibsAt (fun b => w.heap.size ≤ b) w v lvs Ls) (hd : RowT w vd s.d) (hw : RowT w vw s.w) (hp : RowP w vp s.p) :
    Calls Try.prog 3 #[v, .agg #[vd, vw, vp]] w fun e w' => e = .returned (.bool true) ∧ Below w.heap.size w w' := by
  obtain ⟨S, hS⟩ : ∃ S, S = Obj.cells #[vd, vw, vp] 26 := ⟨_, rfl⟩
  obtain ⟨w1, hw1⟩ : ∃ w1, w1 = w.alloc S := ⟨_, rfl⟩
  have hb1 : Below w.heap.size w w1 := by rw [hw1]; exact (Below.refl _ w).alloc (Nat.le_refl _) S
  have hs1 : w1.heap.size = w.heap.size + 1 := by rw [hw1]; simp
  have hx0 : w1.heap[w.heap.size]? = some (.cells #[vd, vw, vp] 26 (0, 0)) := by rw [hw1, heap_alloc_new, hS]
  have hup : ∀ W, Below w1.heap.size w1 W → LibsAt (fun b => W.heap.size ≤ b) W v lvs Ls := fun W hb => (hV.kp (Kp.of_below (hb1.trans (hb.mono hb1.size)))).weak (fun b _ hh => Nat.le_trans (Nat.le_trans hb1.size hb.size) hh)
  have HG1 : Hid (∀ W, Below w1.heap.size w1 W → Calls Try.prog 9 #[v, .agg #[vd, vw, vp]] W fun e w' => ∃ a0 l0 c0 a1 l1 c1 a2 l2 c2, e = .returned (.agg #[.slice a0 l0 c0, .slice a1 l1 c1, .slice a2 l2 c2]) ∧ LkOwn W.heap.size w' (.slice a0 l0 c0) (.slice a1 l1 c1) (.slice a2 l2 c2) (groupN (numL Ls) s) ∧ Below W.heap.size W w') := fun W hb => group1 hB (hup W hb) ((hd.on hb1).on hb) ((hw.on hb1).on hb) ((hp.on hb1).on hb)
  have HUP := hidK hup
  have HX0 := hidK hx0
  have HB1 := hidK hb1
  have HBK := hidK hB
  have HD : Hid (∀ W, Below w1.heap.size w1 W → RowT W vw s.w) := fun W hb => (hw.on hb1).on hb
  have hlen := hV.len
  have HLEN := hidK hlen
  obtain ⟨av, cv, ev, _, _⟩ := hV.row.row.form
  obtain ⟨nl, hnl⟩ : ∃ n, n = lvs.length := ⟨_, rfl⟩
  have HNL := hidK hnl
  have hnl2 : nl ≤ 1048576 := by rw [hnl, hlen]; exact hB.l
  rw [← hnl] at ev
  subst ev
  obtain ⟨x, hx⟩ : ∃ x, x = groupN (numL Ls) s := ⟨_, rfl⟩
  rw [← hx] at HG1
  have hsz := hB.siz
  rw [← hx] at hsz
  have HSZ := hidK hsz
  obtain ⟨q, hcl⟩ := cld_group (s := s) (ndF_ok Ls)
  rw [← hx] at hcl
  have HCL := hidK hcl
  obtain ⟨ap, cp, ep, _, _⟩ := hp.form
  obtain ⟨lp, hlp⟩ : ∃ l, l = s.p.length := ⟨_, rfl⟩
  rw [← hlp] at ep
  have HLP := hidK hlp
  subst ep
  obtain ⟨aw, cw, ew, _, _⟩ := hw.form
  obtain ⟨lw, hlw⟩ : ∃ l, l = s.w.length := ⟨_, rfl⟩
  rw [← hlw] at ew
  have HLW := hidK hlw
  subst ew
  obtain ⟨m, hm⟩ : ∃ m, m = q.length := ⟨_, rfl⟩
  have HM := hidK hm
  have hxl : lp + m = x.p.length := by rw [hcl.p, List.length_append, ← hlp, ← hm]
  have HXL := hidK hxl
  have hlpm : lp + m ≤ 1048576 := by rw [hxl]; exact hsz.1
  have HAL : Hid (∀ k, (s.w ++ (q.take k).flatMap (ndF Ls)).length ≤ 1099512676352) := fun k => by
    have h1 := flat_le (q := q) (nd := ndF Ls) (fun y _ => ndF_len hB y) k
    have h2 := hB.w
    have h3 : 1048576 * q.length ≤ 1048576 * 1048576 := Nat.mul_le_mul_left _ (by omega)
    rw [List.length_append]; omega
  clear hB hV hd hw hp hb1 hx0 hup hlen hx hsz hcl hs1 hnl hlp hlw hm hxl
  subst hS
  go_enter Try.func3, Try.ntmps3
  go_upto_region 1 with fail
  rw [← hw1]
  clear hw1
  go_upto_region 4 with (go_at_call 8; refine (probe_c w1).mono ?_; rintro e w2 ⟨rfl, q1⟩; have HB2 := hidK q1; clear q1)
  have HX2 := hidK (hkeepK HB2.out HX0.out)
  obtain ⟨y0, y1, y2⟩ := lk_cells HX2.out
  go_upto_region 5 with (go_at_call 9; refine (HG1.out _ HB2.out).mono ?_; rintro e w3 ⟨a0, l0, c0, a1, l1, c1, a2, l2, c2, rfl, q1, q2⟩; have HO3 := hidK q1; have HB3 := hidK q2; clear q1 q2)
  clear y0 y1 y2
  obtain ⟨w4, hw4⟩ : ∃ w4, w4 = w3.alloc (.cells #[.slice a0 l0 c0, .slice a1 l1 c1, .slice a2 l2 c2] 26) := ⟨_, rfl⟩
  have hb34 : Below w3.heap.size w3 w4 := by rw [hw4]; exact (Below.refl _ _).alloc (Nat.le_refl _) _
  have hz4 : w4.heap[w3.heap.size]? = some (.cells #[.slice a0 l0 c0, .slice a1 l1 c1, .slice a2 l2 c2] 26 (0, 0)) := by rw [hw4]; exact heap_alloc_new _ _
  have HO4 := hidK (HO3.out.on hb34)
  have HB4 : Hid (Below w1.heap.size w1 w4) := by
    have h3 := HB2.out.trans (HB3.out.mono HB2.out.size)
    exact h3.trans (hb34.mono h3.size)
  have HZ4 := hidK hz4
  have HX4 := hidK (hkeepK HB4.out HX0.out)
  have hl2 : l2 = lp + m := by
    obtain ⟨a, c, e, _⟩ := HO4.out.p.form
    injection e with _ e _
    rw [e, HXL.out]
  subst hl2
  have hc2 : lp + m ≤ c2 := by
    obtain ⟨a, c, e, hh⟩ := HO4.out.p.form
    injection e with e1 e2 e3
    omega
  rw [← hw4]
  obtain ⟨y0, y1, y2⟩ := lk_cells HX4.out
  obtain ⟨z0, z1, z2⟩ := lk_cells HZ4.out
  clear hw4 hz4 hb34 HO3 HB2 HB3 HG1
  have HRW := hidK (HD.out w4 HB4.out)
  have hlmn : ¬ ((lp + m : Nat) : Int) < (lp : Int) := by omega
  have hll : lw ≤ 1048576 := by rw [HLW.out]; exact HBK.out.w
  go_upto_region 9 with fail
  go_upto_region 10 with (refine wpG_all (F := fun b => w4.heap.size ≤ b) elT rfl (.tmp 28) (.tmp 30) rfl (.slice none 0 0) (.slice aw lw cw) [] s.w rfl rfl OwnF.nil HRW.out (fun m _ => txL_one m) (by have := HLW.out; simp; omega) (fun b hb => hb) ?_; intro v5 w5 o5 k5 l5; have HO5 := hidK o5; have HK5 := hidK k5; clear o5 k5 l5)
  have HB5 : Hid (Below w4.heap.size w4 w5) := HK5.out.below (fun k hk => by simp [Value.ownBlock] at hk) (Nat.le_refl _)
  clear y0 y1 y2 z0 z1 z2 HK5 HRW
  go_wp2
  have HBW : Hid (∀ W, Below w4.heap.size w4 W → Below w1.heap.size w1 W) := fun W hb => HB4.out.trans (hb.mono HB4.out.size)
  go_loopw [8, 9] (fun o i wx => ∃ k : Nat, i = .int .i64 k ∧ lp ≤ k ∧ k ≤ lp + m ∧ OwnF (fun b => w4.heap.size ≤ b) txL 1 9 wx o (s.w ++ (q.take (k - lp)).flatMap (ndF Ls)) ∧ Below w4.heap.size w4 wx) (fun _ i _ => lp + m - (intOf i).toNat)
  case atStart => exact ⟨lp, rfl, Nat.le_refl _, by omega, by simpa using HO5.out, HB5.out⟩
  case round =>
    obtain ⟨k, rfl, hk0, hkn, ho, hB⟩ := hrel
    clear HO5 HB5
    have HO := hidK ho
    clear ho
    obtain ⟨z0, z1, z2⟩ := lk_cells (hkeepK hB HZ4.out)
    by_cases hk : k < lp + m
    · have kI : (k : Int) < ((lp + m : Nat) : Int) := by omega
      have k0 : (0 : Int) ≤ (k : Int) := by omega
      have kw : IntKind.i64.wrap ((k : Int) + 1) = (k : Int) + 1 := by rw [IntKind.wrap_i64]; omega
      obtain ⟨⟨li, at_⟩, hy⟩ : ∃ y, q[k - lp]? = some y := ⟨_, List.getElem?_eq_getElem (by have := HM.out; omega)⟩
      obtain ⟨hnot, L, ix, nm, hLm, hix, hme, hask⟩ := HCL.out.e _ _ hy
      simp only at hLm hix hme
      obtain ⟨j, hlj, hLj⟩ := mem_numI hLm
      subst hlj
      have hxk : x.p[k]? = some ((j : Int), at_) := by
        rw [HCL.out.p, List.getElem?_append_right (by have := HLP.out; omega), ← HLP.out]; exact hy
      have htk : s.p ++ q.take (k - lp) = x.p.take k := by
        rw [HCL.out.p, List.take_append, List.take_of_length_le (l := s.p) (by have := HLP.out; omega), ← HLP.out]
      rw [htk] at hnot
      obtain ⟨b2, o2, p2, ev, g0, g1⟩ := (OwnF.row elP (HO4.out.on hB).p).pa hxk
      injection ev with ev evb evc
      subst ev
      simp only at g0 g1
      have hjl : j < nl := by rw [HNL.out, HLEN.out]; exact (List.getElem?_eq_some_iff.1 hLj).1
      obtain ⟨⟨xe, xa, xn, xf, xg⟩, hx⟩ : ∃ x, lvs[j]? = some x := ⟨_, List.getElem?_eq_getElem (by have := HNL.out; omega)⟩
      have hlibs := HUP.out wr (HBW.out wr hB)
      have hlib := hlibs.ea j _ L hx hLj
      obtain ⟨s0, t0, r0, s1, t1, r1, s2, t2, r2, s3, t3, r3, s4, t4, r4, e0, e1, e2, e3, e4⟩ := hlib.slices
      simp only at e0 e1 e2 e3 e4
      subst e0 e1 e2 e3 e4
      obtain ⟨b1, o1, p1, ev, _⟩ := hlibs.row.row.lv hx
      injection ev with ev evb' evc'
      subst ev
      have hmemL : L ∈ Ls := List.mem_of_getElem? hLj
      obtain ⟨E, hE⟩ : ∃ E, E = Obj.cells #[.int .i64 (j : Int), .int .i64 at_] 30 := ⟨_, rfl⟩
      obtain ⟨W6, hW6⟩ : ∃ W6, W6 = wr.alloc E := ⟨_, rfl⟩
      have b6 : Below wr.heap.size wr W6 := by rw [hW6]; exact (Below.refl _ _).alloc (Nat.le_refl _) E
      have e6 : W6.heap[wr.heap.size]? = some (.cells #[.int .i64 (j : Int), .int .i64 at_] 30 (0, 0)) := by rw [hW6, heap_alloc_new, hE]
      have hall : ∀ W, Below W6.heap.size W6 W → Below wr.heap.size wr W ∧ Below w4.heap.size w4 W := fun W hb => by
        have h1 := b6.trans (hb.mono b6.size)
        exact ⟨h1, hB.trans (h1.mono hB.size)⟩
      have HALL := hidK hall
      have hcl : ∀ W, Below W6.heap.size W6 W → W.cell? ⟨b1, o1 + j * 5, none⟩ = some (.slice s0 t0 r0) ∧ W.cell? ⟨b1, o1 + j * 5 + 1, none⟩ = some (.slice s1 t1 r1) ∧ W.cell? ⟨b1, o1 + j * 5 + 2, none⟩ = some (.slice s2 t2 r2) ∧ W.cell? ⟨b1, o1 + j * 5 + 3, none⟩ = some (.slice s3 t3 r3) ∧ W.cell? ⟨b1, o1 + j * 5 + 4, none⟩ = some (.slice s4 t4 r4) := fun W hb => by
        obtain ⟨b1', o1', p1', ev', d0, d1, d2, d3, d4⟩ := (HUP.out W (HBW.out W (hall W hb).2)).row.row.lv hx
        injection ev' with ev' _ _
        injection ev' with ev'
        injection ev' with q1 q2 _
        subst q1 q2
        exact ⟨d0, d1, d2, d3, d4⟩
      have HCC := hidK hcl
      have HLA : Hid (∀ W, Below W6.heap.size W6 W → LibAt (fun b => W.heap.size ≤ b) W (.slice s0 t0 r0) (.slice s1 t1 r1) (.slice s2 t2 r2) (.slice s3 t3 r3) (.slice s4 t4 r4) L) := fun W hb => (HUP.out W (HBW.out W (hall W hb).2)).ea j _ L hx hLj
      have HAM : Hid (∀ W, Below W6.heap.size W6 W → Calls Try.prog 10 #[.slice (some ⟨b2, o2, none⟩) k c2, .agg #[.int .i64 (j : Int), .int .i64 at_]] W fun e w' => e = .returned (.bool false) ∧ Below W6.heap.size W6 w') := fun W hb => by
        have hr : RowP W (.slice (some ⟨b2, o2, none⟩) (lp + m) c2) x.p := OwnF.row elP (HO4.out.on (hall W hb).2).p
        have hr2 : RowP W (.slice (some ⟨b2, o2, none⟩) (lp + m) c2) (x.p.take k ++ x.p.drop k) := by rw [List.take_append_drop]; exact hr
        have hr3 := rowG_front hr2
        have hkl : (x.p.take k).length = k := lenTake (by have := HXL.out; omega)
        rw [hkl] at hr3
        refine (among_c _ (x.p.take k) j at_ W hr3 (by rw [hkl]; omega)).mono ?_
        rintro e w' ⟨q1, q2⟩
        rw [isIn_no.2 hnot] at q1
        exact ⟨q1, bel3K hb q2⟩
      have HMB : Hid (∀ W, Below W6.heap.size W6 W → Calls Try.prog 11 #[.agg #[.slice s0 t0 r0, .slice s1 t1 r1, .slice s2 t2 r2, .slice s3 t3 r3, .slice s4 t4 r4], .int .i64 at_] W fun e w' => e = .returned (.int .i64 (ix : Int)) ∧ Below W6.heap.size W6 w') := fun W hb => (member_c _ _ _ _ _ L.a at_ W (HLA.out W hb).a.row (HBK.out.aok L hmemL)).mono (by
        rintro e w' ⟨q1, q2⟩
        rw [idxI_at hix] at q1
        exact ⟨q1, bel3K hb q2⟩)
      have HCD : Hid (∀ W, Below W6.heap.size W6 W → Calls Try.prog 12 #[.agg #[.slice s0 t0 r0, .slice s1 t1 r1, .slice s2 t2 r2, .slice s3 t3 r3, .slice s4 t4 r4], .int .i64 at_, u8] W fun e w' => e = .returned (.bool true) ∧ Below W6.heap.size W6 w') := fun W hb => (called_c _ _ _ _ _ L.e at_ u8 _ W (HLA.out W hb).e.row (OwnF.row elT (HO.out.on (hall W hb).1)) (by have := HBK.out.e L hmemL; omega) (by have := HAL.out (k - lp); omega)).mono (by
        rintro e w' ⟨q1, q2⟩
        rw [cldB_yes hme hask] at q1
        exact ⟨q1, bel3K hb q2⟩)
      have HBX : Hid (∀ W, Below W6.heap.size W6 W → W.cell? ⟨wr.heap.size, 0, none⟩ = some (.int .i64 (j : Int)) ∧ W.cell? ⟨wr.heap.size, 1, none⟩ = some (.int .i64 at_)) := fun W hb => ⟨cell_rowK (hkeepK hb e6) 0 _ rfl, cell_rowK (hkeepK hb e6) 1 _ rfl⟩
      have HY := hidK hy
      have HTA : Hid (s.w ++ (q.take (k + 1 - lp)).flatMap (ndF Ls) = (s.w ++ (q.take (k - lp)).flatMap (ndF Ls)) ++ L.nd.getD ix []) := by
        rw [show k + 1 - lp = (k - lp) + 1 by omega, takeSucc hy, List.flatMap_append, List.flatMap_singleton, ndF_at hLj hix, List.append_assoc]
        exact rfl
      have HW6 : Hid (∀ W, Below W6.heap.size W6 W → OwnF (fun b => w4.heap.size ≤ b) txL 1 9 W u8 (s.w ++ (q.take (k - lp)).flatMap (ndF Ls))) := fun W hb => HO.out.on (hall W hb).1
      obtain ⟨hsl, hgl⟩ : wr.heap.size < W6.heap.size ∧ (L.nd.getD ix []).length ≤ 1048576 := ⟨(Array.getElem?_eq_some_iff.1 e6).1, getD_len (HBK.out.g L hmemL) _⟩
      have HGL := hidK hgl
      clear hlibs hlib hx hy hnot hLm hix hme hask hLj hxk htk evb evc evb' evc' hmemL e6 b6 hall hcl hsl hgl
      subst hE
      go_upto_region 14 with fail
      rw [← hW6]
      clear hW6 g0 g1 z0 z1 z2
      have hb6 : Below W6.heap.size W6 W6 := Below.refl _ _
      have hv0 : ∀ W, Below W6.heap.size W6 W → W.cell? ⟨w3.heap.size, 2, none⟩ = some (.slice (some ⟨b2, o2, none⟩) (lp + m) c2) := fun W hb => (lk_cells (hkeepK (HALL.out W hb).2 HZ4.out)).2.2
      have hv1 : ∀ W, Below W6.heap.size W6 W → W.cell? ⟨wr.heap.size, 0, none⟩ = some (.int .i64 (j : Int)) := fun W hb => (HBX.out W hb).1
      have hv2 : ∀ W, Below W6.heap.size W6 W → W.cell? ⟨wr.heap.size, 1, none⟩ = some (.int .i64 at_) := fun W hb => (HBX.out W hb).2
      have kc : (k : Int) ≤ (c2 : Int) := by omega
      go_region_held3 (fun w' => Below W6.heap.size W6 w') (first | assumption | exact hb6.drew | exact hSw.drew) (first
        | (go_at_call 10; refine (HAM.out _ (by assumption)).mono ?_; rintro e w7 ⟨rfl, hS7⟩))
      clear hv0 hv1 hv2
      obtain ⟨x0, x1⟩ := HBX.out _ hS7
      have jl : ¬ ((nl : Int) ≤ (j : Int)) := by omega
      have j0 : ¬ ((j : Int) < 0) := by omega
      have j1 : (j : Int) < (nl : Int) := by omega
      have j2 : (0 : Int) ≤ (j : Int) := by omega
      go_upto_region 17 with fail
      clear x0 x1
      have hv1 : ∀ W, Below W6.heap.size W6 W → W.cell? ⟨wr.heap.size, 0, none⟩ = some (.int .i64 (j : Int)) := fun W hb => (HBX.out W hb).1
      have hv2 : ∀ W, Below W6.heap.size W6 W → W.cell? ⟨wr.heap.size, 1, none⟩ = some (.int .i64 at_) := fun W hb => (HBX.out W hb).2
      have hc0 : ∀ W, Below W6.heap.size W6 W → W.cell? ⟨b1, o1 + j * 5, none⟩ = some (.slice s0 t0 r0) := fun W hb => (HCC.out W hb).1
      have hc1 : ∀ W, Below W6.heap.size W6 W → W.cell? ⟨b1, o1 + j * 5 + 1, none⟩ = some (.slice s1 t1 r1) := fun W hb => (HCC.out W hb).2.1
      have hc2 : ∀ W, Below W6.heap.size W6 W → W.cell? ⟨b1, o1 + j * 5 + 2, none⟩ = some (.slice s2 t2 r2) := fun W hb => (HCC.out W hb).2.2.1
      have hc3 : ∀ W, Below W6.heap.size W6 W → W.cell? ⟨b1, o1 + j * 5 + 3, none⟩ = some (.slice s3 t3 r3) := fun W hb => (HCC.out W hb).2.2.2.1
      have hc4 : ∀ W, Below W6.heap.size W6 W → W.cell? ⟨b1, o1 + j * 5 + 4, none⟩ = some (.slice s4 t4 r4) := fun W hb => (HCC.out W hb).2.2.2.2
      go_region_held3 (fun w' => Below W6.heap.size W6 w') (first | assumption | exact hS7.drew | exact hSw.drew) (first
        | (go_at_call 11; refine (HMB.out _ (by assumption)).mono ?_; rintro e w8 ⟨rfl, hS8⟩))
      clear hS7
      go_upto_region 18 with fail
      go_region_held3 (fun w' => Below W6.heap.size W6 w') (first | assumption | exact hS8.drew | exact hSw.drew) (first
        | (go_at_call 12; refine (HCD.out _ (by assumption)).mono ?_; rintro e w9 ⟨rfl, hS9⟩))
      clear hv1 hv2 hc0 hc1 hc2 hc3 hc4 hS8
      have i0 : ¬ ((ix : Int) < 0) := by omega
      have i1 : (0 : Int) ≤ (ix : Int) := by omega
      obtain ⟨vs, hvs, hvl, hvr⟩ := (HLA.out w9 hS9).needs
      have ht4 : t4 = vs.length := by
        obtain ⟨a, c, e, _⟩ := hvs.form
        injection e
      obtain ⟨x0, x1⟩ := HBX.out _ hS9
      obtain ⟨y0, y1, y2, y3, y4⟩ := HCC.out _ hS9
      have HB9 : Hid (Below w4.heap.size w4 w9) := (HALL.out _ hS9).2
      have HO9 := hidK (HW6.out _ hS9)
      clear hS9 hb6 HAM HMB HCD
      by_cases hit : ix < t4
      · have iI : (ix : Int) < (t4 : Int) := by omega
        obtain ⟨u, hu⟩ : ∃ u, vs[ix]? = some u := ⟨_, List.getElem?_eq_getElem (by omega)⟩
        obtain ⟨b3, o3, p3, ev, d0⟩ := hvs.va hu
        injection ev with ev ev1 ev2
        subst ev
        have HU := hidK (hvr ix u hu)
        obtain ⟨au, cu, eu, _, _⟩ := HU.out.form
        obtain ⟨lu, hlu⟩ : ∃ l, l = (L.nd.getD ix []).length := ⟨_, rfl⟩
        rw [← hlu] at eu
        subst eu
        clear ev1 ev2 hu hvs hvl hvr ht4 hlu
        go_wp2_with (refine wpG_all (F := fun b => w4.heap.size ≤ b) elT rfl (.tmp 96) (.tmp 105) rfl _ (.slice au lu cu) (s.w ++ (q.take (k - lp)).flatMap (ndF Ls)) (L.nd.getD ix []) rfl rfl HO9.out HU.out (fun m _ => txL_one m) (by have := HGL.out; have := HAL.out (k - lp); omega) (fun b hb => Nat.le_trans HB9.out.size hb) ?_; intro v10 w10 o10 k10 l10; have HO10 := hidK o10; have HK10 := hidK k10; clear o10 k10 l10)
        go_roundw
        case rel => exact ⟨k + 1, by go_num, by omega, by omega, by rw [HTA.out]; exact HO10.out, HB9.out.trans (HK10.out.below (fun b hb => HO9.out.2 b hb) HB9.out.size)⟩
        case measure => simp [intOf]; omega
      · have iI : ¬ ((ix : Int) < (t4 : Int)) := by omega
        have hnd : L.nd.getD ix [] = [] := by rw [List.getD_eq_getElem?_getD, List.getElem?_eq_none (by omega)]; rfl
        have HND := hidK hnd
        clear hvs hvl hvr ht4 hnd
        go_wp2
        go_roundw
        case rel => exact ⟨k + 1, by go_num, by omega, by omega, by rw [HTA.out, HND.out, List.append_nil]; exact HO9.out, HB9.out⟩
        case measure => simp [intOf]; omega
    · obtain rfl : k = lp + m := by omega
      go_wp2
      go_ret
      have h1 := HBW.out wr hB
      exact ⟨rfl, HB1.out.trans (h1.mono HB1.out.size)⟩
end Go.Proofs.Ytebgannhecmnmaa
