
-- The document's Search.
import Derived.Test.YtebgannhecmnmaaRC
import Derived.Test.YtebgannhecmnmaaRP
import Derived.Test.YtebgannhecmnmaaSE
namespace Go.Proofs.Ytebgannhecmnmaa
open Go.ChangeShapes Go.WideShapes Go.ChangeAt Go.RowKit Go.MapKept
set_option linter.unusedVariables false
set_option maxRecDepth 100000
theorem siz_at {K M Pm : Nat} {t : Lk} (h : Siz K M t) (hp : t.p.length ≤ Pm) (hl : K + M * (Pm + 1) ≤ 4398046511104) : t.d.length + M ≤ 4398046511104 ∧ t.w.length + M ≤ 4398046511104 := by
  obtain ⟨h1, h2⟩ := h
  have h3 : M * t.p.length ≤ M * Pm := Nat.mul_le_mul_left M hp
  rw [Nat.mul_add, Nat.mul_one] at hl
  omega
theorem lk_up {B B' : Nat} {w : World} {a b c : Value} {x : Lk} (h : LkOwn B w a b c x) (hb : B' ≤ B) : LkOwn B' w a b c x :=
  ⟨h.d.weak fun k hk => Nat.le_trans hb hk, h.wt.weak fun k hk => Nat.le_trans hb hk, h.p.weak fun k hk => Nat.le_trans hb hk, h.n⟩
set_option maxHeartbeats 16000000 in
theorem rsearch_c (ve va vn vf vg : Value) (L : Lb) (num : Int) (vd vw vp : Value) (s : Lk) (w : World) (M Pm K : Nat) (hV : LibAt (fun b => w.heap.size ≤ b) w ve va vn vf vg L) (hd : RowT w vd s.d) (hw : RowT w vw s.w) (hp : RowP w vp s.p)
    (hsz : Siz K M s) (hA : L.a.length < 4611686018427387904) (hlim : Lim K M Pm [(num, L)]) (hJ : muN [(num, L)] s + s.p.length ≤ Pm) :
    Calls Try.prog 24 #[.agg #[ve, va, vn, vf, vg], .int .i64 num, .agg #[vd, vw, vp]] w fun e w' => ∃ a0 l0 c0 a1 l1 c1 a2 l2 c2, e = .returned (.agg #[.slice a0 l0 c0, .slice a1 l1 c1, .slice a2 l2 c2]) ∧ LkOwn w.heap.size w' (.slice a0 l0 c0) (.slice a1 l1 c1) (.slice a2 l2 c2) (srchN L num s) ∧ Below w.heap.size w w' := by
  obtain ⟨s0, t0, z0, s1, t1, z1, s2, t2, z2, s3, t3, z3, s4, t4, z4, e0, e1, e2, e3, e4⟩ := hV.slices
  subst e0 e1 e2 e3 e4
  obtain ⟨X, hX⟩ : ∃ X, X = Obj.cells #[.slice s0 t0 z0, .slice s1 t1 z1, .slice s2 t2 z2, .slice s3 t3 z3, .slice s4 t4 z4] 37 := ⟨_, rfl⟩
  obtain ⟨S, hS⟩ : ∃ S, S = Obj.cells #[vd, vw, vp] 26 := ⟨_, rfl⟩
  obtain ⟨Z, hZ⟩ : ∃ Z, Z = Obj.cells #[.slice none 0 0, .slice none 0 0, .slice none 0 0] 26 := ⟨_, rfl⟩
  obtain ⟨w1, hw1⟩ : ∃ w1, w1 = ((w.alloc X).alloc S).alloc Z := ⟨_, rfl⟩
  have hb1 : Below w.heap.size w w1 := by rw [hw1]; exact (((Below.refl _ w).alloc (Nat.le_refl _) X).alloc (by simp) S).alloc (by simp; omega) Z
  have hs1 : w1.heap.size = w.heap.size + 3 := by rw [hw1]; simp
  have hx0 : w1.heap[w.heap.size]? = some (.cells #[.slice s0 t0 z0, .slice s1 t1 z1, .slice s2 t2 z2, .slice s3 t3 z3, .slice s4 t4 z4] 37 (0, 0)) := by rw [hw1]; exact hupK (hupK (by rw [heap_alloc_new, hX]) S) Z
  have hq0 : w1.heap[w.heap.size + 1]? = some (.cells #[vd, vw, vp] 26 (0, 0)) := by rw [hw1]; exact hupK (by rw [heap_new2K, hS]) Z
  have hz0 : w1.heap[w.heap.size + 1 + 1]? = some (.cells #[.slice none 0 0, .slice none 0 0, .slice none 0 0] 26 (0, 0)) := by rw [hw1, heap_new3K, hZ]
  obtain ⟨F, hFd⟩ : ∃ F : Nat → Prop, F = fun b => b = w.heap.size + 1 ∨ w1.heap.size ≤ b := ⟨_, rfl⟩
  have HF1 : Hid (F (w.heap.size + 1)) := by rw [hFd]; exact .inl rfl
  have HFN : Hid (∀ b, w1.heap.size ≤ b → F b) := fun b hb => by rw [hFd]; exact .inr hb
  have HFB : Hid (∀ b, F b → w.heap.size ≤ b) := fun b hb => by rw [hFd] at hb; rcases hb with q | q <;> omega
  have HCX : Hid (∀ W, Kp F w1 W → W.heap[w.heap.size]? = some (.cells #[.slice s0 t0 z0, .slice s1 t1 z1, .slice s2 t2 z2, .slice s3 t3 z3, .slice s4 t4 z4] 37 (0, 0)) ∧ W.heap[w.heap.size + 1 + 1]? = some (.cells #[.slice none 0 0, .slice none 0 0, .slice none 0 0] 26 (0, 0))) := fun W hk => ⟨(hk.block _ (by omega) (by rw [hFd]; intro q; rcases q with q | q <;> omega)).trans hx0, (hk.block _ (by omega) (by rw [hFd]; intro q; rcases q with q | q <;> omega)).trans hz0⟩
  have HBW : Hid (∀ W, Kp F w1 W → Below w.heap.size w W) := fun W hk => hb1.trans (hk.below HFB.out hb1.size)
  have HVW : Hid (∀ W, Kp F w1 W → LibAt (fun b => w1.heap.size ≤ b) W (.slice s0 t0 z0) (.slice s1 t1 z1) (.slice s2 t2 z2) (.slice s3 t3 z3) (.slice s4 t4 z4) L) := fun W hk => (hV.kp (Kp.of_below (HBW.out W hk))).weak (fun b _ hh => by have hh' : w1.heap.size ≤ b := hh; show w.heap.size ≤ b; omega)
  have hsa := siz_at hsz (show s.p.length ≤ Pm by omega) hlim.p
  have HFR := hidK (rfresh_c vd vw vp s w1 (hd.on hb1) (hw.on hb1) (hp.on hb1) (by omega) (by omega) (by have := hlim.l; omega))
  have HQ0 := hidK hq0
  obtain ⟨y0, y1, y2⟩ := lk_cells hq0
  obtain ⟨n, hn⟩ : ∃ n, n = L.a.length := ⟨_, rfl⟩
  have ht1 : t1 = n := by
    obtain ⟨a, c, e, _⟩ := hV.a.row.form
    injection e with _ e _
    rw [e, hn]
  have ht0 : t0 = L.e.length := by
    obtain ⟨a, c, e, _⟩ := hV.e.row.form
    injection e
  have HT0 := hidK ht0
  have hle : t0 ≤ 4398046511104 := by rw [ht0]; exact hlim.e (num, L) (by simp)
  subst ht1
  have HLIM := hidK hlim
  have HN := hidK hn
  have hnA : t1 < 4611686018427387904 := by omega
  have HJ := hidK hJ
  have HSZ := hidK hsz
  have HIT : Hid (srchN L num s = iterN (passN L num) (t1 + 1) s) := by rw [hn]; exact rfl
  have HGO : Hid (∀ (t : Lk) (l : List (ByteArray × Int)), Goes [(num, L)] t (l.foldl (oneN L num) t)) := fun t l => fold_goes (L := L) (num := num) (by simp) l t
  have HSF : Hid (∀ (t : Lk) (l : List (ByteArray × Int)), Siz K M t → Siz K M (l.foldl (oneN L num) t)) := fun t l h => foldO_siz (hlim.m (num, L) (by simp)).1 (hlim.m (num, L) (by simp)).2 l t h
  have HDN : Hid ((∀ l ∈ L.df, l.length ≤ M) ∧ ∀ l ∈ L.nd, l.length ≤ M) := hlim.m (num, L) (by simp)
  have HS1 := hidK hs1
  clear hV hd hw hp hb1 hs1 hx0 hq0 hz0 hFd ht0 hlim hn hA hsa hsz hJ
  subst hX hS hZ
  go_enter Try.func24, Try.ntmps24
  go_upto_region 1 with fail
  rw [← hw1]
  clear hw1
  go_upto_region 2 with (first
    | (go_at_call 44; refine HFR.out.mono ?_; rintro e w2 ⟨a0, l0, c0, a1, l1, c1, a2, l2, c2, rfl, q1, q2⟩; have HO2 := hidK q1; have HB2 := hidK q2; clear q1 q2)
    | (refine wpList_store_kz rfl rfl 26 _ _ rfl (w.heap.size + 1) 0 (.agg #[.slice a0 l0 c0, .slice a1 l1 c1, .slice a2 l2 c2]) rfl rfl 26 #[vd, vw, vp] #[.slice a0 l0 c0, .slice a1 l1 c1, .slice a2 l2 c2] (hkeepK HB2.out HQ0.out) sizeLink rfl rfl rfl ?_; intro W3 g3 q3; have HG3 := hidK g3; have HQ3 := hidK q3; clear g3 q3))
  have HX3 : Hid (LkBox w1.heap.size (w.heap.size + 1) W3 (.slice a0 l0 c0) (.slice a1 l1 c1) (.slice a2 l2 c2) s) := ⟨HG3.out, HO2.out.store (hkeepK HB2.out HQ0.out) HQ3.out⟩
  have HK3 : Hid (Kp F w1 W3) := (Kp.of_below HB2.out).trans (Kp.kq HQ3.out HF1.out)
  clear y0 y1 y2 HG3 HO2 HQ3 HB2 HFR HQ0
  go_wp2
  go_loopw [7] (fun i wx => ∃ k t, i = .int .i64 ((k : Nat) : Int) ∧ k ≤ t1 + 1 ∧ (∃ v0 v1 v2, LkBox w1.heap.size (w.heap.size + 1) wx v0 v1 v2 t) ∧ Kp F w1 wx ∧ iterN (passN L num) (t1 + 1 - k) t = srchN L num s ∧ muN [(num, L)] t + t.p.length ≤ Pm ∧ Siz K M t) (fun i _ => t1 + 1 - (intOf i).toNat)
  case atStart => exact ⟨0, s, rfl, Nat.zero_le _, ⟨_, _, _, HX3.out⟩, HK3.out, by rw [HIT.out]; exact rfl, HJ.out, HSZ.out⟩
  case round =>
    obtain ⟨k, t, rfl, hkn, ⟨v0, v1, v2, ho⟩, hK, hit, hmu, hsz⟩ := hrel
    clear HX3 HK3
    obtain ⟨x0, x1, x2, x3, x4⟩ := lib_cells (HCX.out _ hK).1
    obtain ⟨a2', c2', e2', _⟩ := ho.own.p.form
    obtain ⟨lt, hlt⟩ : ∃ l, l = t.p.length := ⟨_, rfl⟩
    rw [← hlt] at e2'
    subst e2'
    have HLT := hidK hlt
    obtain ⟨g0, g1, g2⟩ := ho.cells
    have HO := hidK ho
    have HK := hidK hK
    have HIT2 := hidK hit
    have HMU := hidK hmu
    have HSZ2 := hidK hsz
    clear hlt ho hK hit hmu hsz
    by_cases hk : k ≤ t1
    · have kI : (k : Int) ≤ (t1 : Int) := by omega
      have kw : IntKind.i64.wrap ((k : Int) + 1) = (k : Int) + 1 := by rw [IntKind.wrap_i64]; omega
      obtain ⟨w4, hw4⟩ : ∃ x, x = wr := ⟨_, rfl⟩
      subst hw4
      go_wp2
      go_loopw [9] (fun i wx => ∃ j : Nat, i = .int .i64 j ∧ j ≤ t0 ∧ (∃ v0 v1 v2, LkBox w1.heap.size (w.heap.size + 1) wx v0 v1 v2 ((L.e.take j).foldl (oneN L num) t)) ∧ Kp F w1 wx) (fun i _ => t0 - (intOf i).toNat)
      case atStart => exact ⟨0, rfl, Nat.zero_le _, ⟨_, _, _, HO.out⟩, HK.out⟩
      case round =>
        obtain ⟨j, rfl, hjn, ⟨v0', v1', v2', ho⟩, hK⟩ := hrel
        clear g0 g1 g2 x0 x1 x2 x3 x4
        obtain ⟨x0, x1, x2, x3, x4⟩ := lib_cells (HCX.out _ hK).1
        by_cases hj : j < t0
        · have jI : (j : Int) < (t0 : Int) := by omega
          have j0 : (0 : Int) ≤ (j : Int) := by omega
          have jw : IntKind.i64.wrap ((j : Int) + 1) = (j : Int) + 1 := by rw [IntKind.wrap_i64]; omega
          obtain ⟨⟨nm, at_⟩, hy⟩ : ∃ x, L.e[j]? = some x := ⟨_, List.getElem?_eq_getElem (by have := HT0.out; omega)⟩
          have hlib := HVW.out wr hK
          obtain ⟨b2, o2, p2, ev, h0, h1⟩ := hlib.e.row.en hy
          injection ev with ev evb evc
          subst ev
          simp only at h0 h1
          obtain ⟨r, hr⟩ : ∃ r, r = (L.e.take j).foldl (oneN L num) t := ⟨_, rfl⟩
          have HST : Hid ((L.e.take (j + 1)).foldl (oneN L num) t = oneN L num r (nm, at_)) := by rw [takeSucc hy, List.foldl_append, ← hr]; exact rfl
          have hrs : Siz K M r := by rw [hr]; exact HSF.out t _ HSZ2.out
          have hrm : r.p.length ≤ Pm := by have := (HGO.out t (L.e.take j)).mu; rw [← hr] at this; have := HMU.out; omega
          obtain ⟨hrd, hrw⟩ := siz_at hrs hrm HLIM.out.p
          have hPl := HLIM.out.l
          rw [← hr] at ho
          obtain ⟨ad, cd, ed, _⟩ := ho.own.d.form
          obtain ⟨ld, hld⟩ : ∃ l, l = r.d.length := ⟨_, rfl⟩
          rw [← hld] at ed
          subst ed
          obtain ⟨aw, cw, ew, _⟩ := ho.own.wt.form
          obtain ⟨lw, hlw⟩ : ∃ l, l = r.w.length := ⟨_, rfl⟩
          rw [← hlw] at ew
          subst ew
          obtain ⟨ap, cp, ep, _⟩ := ho.own.p.form
          obtain ⟨lp, hlp⟩ : ∃ l, l = r.p.length := ⟨_, rfl⟩
          rw [← hlp] at ep
          subst ep
          have HR := hidK ho
          have HKR := hidK hK
          have hcl : ∀ W, Below wr.heap.size wr W → Kp F w1 W := fun W hb => HKR.out.trans (Kp.of_below hb)
          have HCL := hidK hcl
          have HPU : Hid (∀ W, Below wr.heap.size wr W → Calls Try.prog 45 #[.agg #[.slice (some ⟨b2, o2, none⟩) t0 z0, .slice s1 t1 z1, .slice s2 t2 z2, .slice s3 t3 z3, .slice s4 t4 z4], .int .i64 num, .agg #[.string nm, .int .i64 at_], .agg #[.slice ad ld cd, .slice aw lw cw, .slice ap lp cp]] W fun e w' => e = .returned (.int .i64 (pullsI L num r (nm, at_))) ∧ Below wr.heap.size wr w') := fun W hb => (rpulls_c _ _ _ _ _ L num nm at_ _ _ _ r W (HVW.out W (HCL.out W hb)).a.row (OwnF.row elT (HR.out.on hb).own.wt) (OwnF.row elP (HR.out.on hb).own.p) (by omega) (by have := HN.out; omega) (by omega)).mono (by
            rintro e w' ⟨q1, q2⟩
            exact ⟨q1, bel3K hb q2⟩)
          have hv0 : ∀ W, Below wr.heap.size wr W → W.cell? ⟨w.heap.size, 0, none⟩ = some (.slice (some ⟨b2, o2, none⟩) t0 z0) := fun W hb => (lib_cells (HCX.out _ (HCL.out W hb)).1).1
          have hv1 : ∀ W, Below wr.heap.size wr W → W.cell? ⟨w.heap.size, 1, none⟩ = some (.slice s1 t1 z1) := fun W hb => (lib_cells (HCX.out _ (HCL.out W hb)).1).2.1
          have hv2 : ∀ W, Below wr.heap.size wr W → W.cell? ⟨w.heap.size, 2, none⟩ = some (.slice s2 t2 z2) := fun W hb => (lib_cells (HCX.out _ (HCL.out W hb)).1).2.2.1
          have hv3 : ∀ W, Below wr.heap.size wr W → W.cell? ⟨w.heap.size, 3, none⟩ = some (.slice s3 t3 z3) := fun W hb => (lib_cells (HCX.out _ (HCL.out W hb)).1).2.2.2.1
          have hv4 : ∀ W, Below wr.heap.size wr W → W.cell? ⟨w.heap.size, 4, none⟩ = some (.slice s4 t4 z4) := fun W hb => (lib_cells (HCX.out _ (HCL.out W hb)).1).2.2.2.2
          have HH0 := hidK h0
          have HH1 := hidK h1
          have hv5 : ∀ W, Below wr.heap.size wr W → W.cell? ⟨b2, o2 + j * 2, none⟩ = some (.string nm) := fun W hb => cell_onG HH0.out hb
          have hv6 : ∀ W, Below wr.heap.size wr W → W.cell? ⟨b2, o2 + j * 2 + 1, none⟩ = some (.int .i64 at_) := fun W hb => cell_onG HH1.out hb
          have hv7 : ∀ W, Below wr.heap.size wr W → W.cell? ⟨w.heap.size + 1, 0, none⟩ = some (.slice ad ld cd) := fun W hb => (HR.out.on hb).cells.1
          have hv8 : ∀ W, Below wr.heap.size wr W → W.cell? ⟨w.heap.size + 1, 1, none⟩ = some (.slice aw lw cw) := fun W hb => (HR.out.on hb).cells.2.1
          have hv9 : ∀ W, Below wr.heap.size wr W → W.cell? ⟨w.heap.size + 1, 2, none⟩ = some (.slice ap lp cp) := fun W hb => (HR.out.on hb).cells.2.2
          have hb0 : Below wr.heap.size wr wr := Below.refl _ _
          clear hlib hy hr evb evc hrs hld hlw hlp ho hK hcl h0 h1
          go_upto_region 9 with fail
          clear x0 x1 x2 x3 x4
          go_region_held3 (fun w' => Below wr.heap.size wr w') (first | assumption | exact hb0.drew | exact hSw.drew) (first
            | (go_at_call 45; refine (HPU.out _ (by assumption)).mono ?_; rintro e w6 ⟨rfl, hS6⟩))
          clear hv0 hv1 hv2 hv3 hv4 hv5 hv6 hv7 hv8 hv9 HPU hb0
          have HR6 := hidK (HR.out.on hS6)
          have HK6 := hidK (HCL.out _ hS6)
          clear hS6 HR HKR HCL HH0 HH1
          rcases pullsI_or L num r (nm, at_) with hpi | ⟨ix, hpi⟩
          · have HON : Hid (oneN L num r (nm, at_) = r) := oneN_no (by rw [hpi]; decide)
            rw [hpi]
            clear hpi
            go_wp2
            go_roundw
            case rel => exact ⟨j + 1, by go_num, by omega, ⟨_, _, _, by rw [HST.out, HON.out]; exact HR6.out⟩, HK6.out⟩
            case measure => simp [intOf]; omega
          · obtain ⟨hax, hon⟩ := oneN_yes hpi
            have HON := hidK hon
            simp only at hax
            rw [hpi]
            have ix0 : (0 : Int) ≤ (ix : Int) := by omega
            obtain ⟨x0, x1, x2, x3, x4⟩ := lib_cells (HCX.out _ HK6.out).1
            obtain ⟨g0, g1, g2⟩ := HR6.out.cells
            have HPL := hidK (rpulled_c w1.heap.size _ _ _ _ _ L num ix at_ hax _ _ _ r w6 (HK6.out.size) (HVW.out _ HK6.out) HR6.out.own (by have := getD_len HDN.out.1 ix; omega) (by have := getD_len HDN.out.2 ix; omega) (by omega))
            clear hpi hax hon
            go_wp2_with (first
              | (go_at_call 46; refine HPL.out.mono ?_; rintro e w7 ⟨a3, l3, c3, a4, l4, c4, a5, l5, c5, rfl, q1, q2⟩; have HO7 := hidK q1; have HB7 := hidK q2; have HG7 := hidK ((q2.block _ (by have := HS1.out; omega)).trans HR6.out.blk); clear q1 q2)
              | (refine wpList_store_kz rfl rfl 26 _ _ rfl (w.heap.size + 1) 0 (.agg #[.slice a3 l3 c3, .slice a4 l4 c4, .slice a5 l5 c5]) rfl rfl 26 #[.slice ad ld cd, .slice aw lw cw, .slice ap lp cp] #[.slice a3 l3 c3, .slice a4 l4 c4, .slice a5 l5 c5] HG7.out sizeLink rfl rfl rfl ?_; intro W8 g8 q8; have HG8 := hidK g8; have HQ8 := hidK q8; clear g8 q8))
            go_roundw
            case rel => exact ⟨j + 1, by go_num, by omega, ⟨_, _, _, by rw [HST.out, HON.out]; exact ⟨HG8.out, HO7.out.store HG7.out HQ8.out⟩⟩, (HK6.out.trans ⟨HB7.out.os, HB7.out.tape, HB7.out.output, HB7.out.size, fun b hb hn => HB7.out.block b (Nat.lt_of_not_le (fun q => hn (HFN.out b q)))⟩).trans (Kp.kq HQ8.out HF1.out)⟩
            case measure => simp [intOf]; omega
        · obtain rfl : j = t0 := by omega
          have hbx : LkBox w1.heap.size (w.heap.size + 1) wr v0' v1' v2' (passN L num t) := by
            have := ho
            rw [HT0.out, List.take_length] at this
            exact this
          obtain ⟨r, hr⟩ : ∃ r, r = passN L num t := ⟨_, rfl⟩
          have HRE := hidK hr
          rw [← hr] at hbx
          obtain ⟨ad, cd, ed, _⟩ := hbx.own.d.form
          obtain ⟨ld, hld⟩ : ∃ l, l = r.d.length := ⟨_, rfl⟩
          rw [← hld] at ed
          subst ed
          obtain ⟨aw, cw, ew, _⟩ := hbx.own.wt.form
          obtain ⟨lw, hlw⟩ : ∃ l, l = r.w.length := ⟨_, rfl⟩
          rw [← hlw] at ew
          subst ew
          obtain ⟨ap, cp, ep, _⟩ := hbx.own.p.form
          obtain ⟨lp, hlp⟩ : ∃ l, l = r.p.length := ⟨_, rfl⟩
          rw [← hlp] at ep
          subst ep
          have HLP := hidK hlp
          obtain ⟨g0, g1, g2⟩ := hbx.cells
          have HBX := hidK hbx
          have HKR := hidK hK
          have HZ := hidK (HCX.out _ hK).2
          clear hr hld hlw hlp hbx ho hK
          by_cases hpe : lp = lt
          · have HE : Hid (srchN L num s = r) := by
              have h1 := HIT2.out
              rw [show t1 + 1 - k = (t1 - k) + 1 by omega, iter_stop (by rw [← HRE.out, ← HLP.out, ← HLT.out, hpe]), ← HRE.out] at h1
              exact h1.symm
            subst hpe
            go_wp2_with (refine wpList_store_kz rfl rfl 26 _ _ rfl (w.heap.size + 1 + 1) 0 (.agg #[.slice ad ld cd, .slice aw lw cw, .slice ap lp cp]) rfl rfl 26 #[.slice none 0 0, .slice none 0 0, .slice none 0 0] #[.slice ad ld cd, .slice aw lw cw, .slice ap lp cp] HZ.out sizeLink rfl rfl rfl ?_; intro W6 g6 q6; have HG6 := hidK g6; have HQ6 := hidK q6; clear g6 q6)
            refine bodyPost_ret (results_cell_row rfl _ _ (w.heap.size + 1 + 1) _ _ _ _ rfl HG6.out Try.underlying26 rfl sizeLink) rfl ?_
            have hb2 := HBW.out _ HKR.out
            rw [HE.out]
            exact ⟨_, _, _, _, _, _, _, _, _, rfl, lk_up (HBX.out.own.store HZ.out HQ6.out) (by have := HS1.out; omega), hb2.trans (HQ6.out.below (by omega) hb2.size)⟩
          · have hne : ((lp : Int) == (lt : Int)) = false := by simp; omega
            have hne2 : ¬ ((lp : Int) = (lt : Int)) := by omega
            have HNP := hidK hpe
            clear hpe
            go_wp2
            go_roundw
            case rel =>
              refine ⟨k + 1, r, by go_num, by omega, ⟨_, _, _, HBX.out⟩, HKR.out, ?_, ?_, ?_⟩
              · have h1 := HIT2.out
                have h2 := HNP.out
                rw [show t1 + 1 - k = (t1 + 1 - (k + 1)) + 1 by omega] at h1
                unfold iterN at h1
                rw [if_neg (by rw [← HRE.out, ← HLP.out, ← HLT.out]; exact h2), ← HRE.out] at h1
                exact h1
              · have h1 := (HGO.out t L.e).mu
                have h2 := HMU.out
                have h3 : L.e.foldl (oneN L num) t = r := HRE.out.symm
                rw [h3] at h1
                omega
              · have h1 := HSF.out t L.e HSZ2.out
                have h3 : L.e.foldl (oneN L num) t = r := HRE.out.symm
                rw [h3] at h1
                exact h1
            case measure => simp [intOf]; omega
    · obtain rfl : k = t1 + 1 := by omega
      have HE : Hid (srchN L num s = t) := by
        have h1 := HIT2.out
        rw [Nat.sub_self] at h1
        exact h1.symm
      have hbx := HO.out
      obtain ⟨ad, cd, ed, _⟩ := hbx.own.d.form
      obtain ⟨ld, hld⟩ : ∃ l, l = t.d.length := ⟨_, rfl⟩
      rw [← hld] at ed
      subst ed
      obtain ⟨aw, cw, ew, _⟩ := hbx.own.wt.form
      obtain ⟨lw, hlw⟩ : ∃ l, l = t.w.length := ⟨_, rfl⟩
      rw [← hlw] at ew
      subst ew
      have HZ := hidK (HCX.out _ HK.out).2
      have kI : ¬ (((t1 + 1 : Nat) : Int) ≤ (t1 : Int)) := by omega
      clear hbx hld hlw
      go_wp2_with (refine wpList_store_kz rfl rfl 26 _ _ rfl (w.heap.size + 1 + 1) 0 (.agg #[.slice ad ld cd, .slice aw lw cw, .slice a2' lt c2']) rfl rfl 26 #[.slice none 0 0, .slice none 0 0, .slice none 0 0] #[.slice ad ld cd, .slice aw lw cw, .slice a2' lt c2'] HZ.out sizeLink rfl rfl rfl ?_; intro W6 g6 q6; have HG6 := hidK g6; have HQ6 := hidK q6; clear g6 q6)
      refine bodyPost_ret (results_cell_row rfl _ _ (w.heap.size + 1 + 1) _ _ _ _ rfl HG6.out Try.underlying26 rfl sizeLink) rfl ?_
      have hb2 := HBW.out _ HK.out
      rw [HE.out]
      exact ⟨_, _, _, _, _, _, _, _, _, rfl, lk_up (HO.out.own.store HZ.out HQ6.out) (by have := HS1.out; omega), hb2.trans (HQ6.out.below (by omega) hb2.size)⟩
end Go.Proofs.Ytebgannhecmnmaa
