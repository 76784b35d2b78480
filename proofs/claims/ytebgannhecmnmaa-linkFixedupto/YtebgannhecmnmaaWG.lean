
-- LinkFixed: the walk.
import Derived.Test.YtebgannhecmnmaaWF
namespace Go.Proofs.Ytebgannhecmnmaa
open Go.ChangeShapes Go.WideShapes Go.ChangeAt Go.RowKit Go.MapKept
set_option linter.unusedVariables false
set_option maxRecDepth 100000
set_option maxHeartbeats 16000000 in
theorem fixed_w (v : Value) (lvs : List Lv) (Ls : List Lb) (vd vw vp : Value) (s : Lk) (w : World) (hB : Bulk Ls s) (hV : LibsAt (fun b => w.heap.size ≤ b) w v lvs Ls) (hd : RowT w vd s.d) (hw : RowT w vw s.w) (hp : RowP w vp s.p) :
    Calls Try.prog 4 #[v, .agg #[vd, vw, vp]] w fun e w' => e = .returned (.bool true) ∧ Below w.heap.size w w' := by
  obtain ⟨S, hS⟩ : ∃ S, S = Obj.cells #[vd, vw, vp] 26 := ⟨_, rfl⟩
  obtain ⟨w1, hw1⟩ : ∃ w1, w1 = w.alloc S := ⟨_, rfl⟩
  have hb1 : Below w.heap.size w w1 := by rw [hw1]; exact (Below.refl _ w).alloc (Nat.le_refl _) S
  have hs1 : w1.heap.size = w.heap.size + 1 := by rw [hw1]; simp
  have hx0 : w1.heap[w.heap.size]? = some (.cells #[vd, vw, vp] 26 (0, 0)) := by rw [hw1, heap_alloc_new, hS]
  obtain ⟨y0, y1, y2⟩ := lk_cells hx0
  have hup : ∀ W, Below w1.heap.size w1 W → LibsAt (fun b => W.heap.size ≤ b) W v lvs Ls := fun W hb => (hV.kp (Kp.of_below (hb1.trans (hb.mono hb1.size)))).weak (fun b _ hh => Nat.le_trans (Nat.le_trans hb1.size hb.size) hh)
  have HG1 := hidK (group1 hB (hup w1 (Below.refl _ _)) (hd.on hb1) (hw.on hb1) (hp.on hb1))
  have HG2 : Hid (∀ W a b c, Below w1.heap.size w1 W → RowT W a (groupN (numL Ls) s).d → RowT W b (groupN (numL Ls) s).w → RowP W c (groupN (numL Ls) s).p → Calls Try.prog 9 #[v, .agg #[a, b, c]] W fun e w' => ∃ a0 l0 c0 a1 l1 c1 a2 l2 c2, e = .returned (.agg #[.slice a0 l0 c0, .slice a1 l1 c1, .slice a2 l2 c2]) ∧ LkOwn W.heap.size w' (.slice a0 l0 c0) (.slice a1 l1 c1) (.slice a2 l2 c2) (groupN (numL Ls) s) ∧ Below W.heap.size W w') := fun W a b c hb h1 h2 h3 => group2 hB (hup W hb) h1 h2 h3
  have HUP := hidK hup
  have HX0 := hidK hx0
  have HB1 := hidK hb1
  have HBK := hidK hB
  have HD : Hid (∀ W, Below w1.heap.size w1 W → RowT W vd s.d ∧ RowP W vp s.p) := fun W hb => ⟨(hd.on hb1).on hb, (hp.on hb1).on hb⟩
  have hlen := hV.len
  have HLEN := hidK hlen
  obtain ⟨av, cv, ev, _, _⟩ := hV.row.row.form
  obtain ⟨nl, hnl⟩ : ∃ n, n = lvs.length := ⟨_, rfl⟩
  have HNL := hidK hnl
  have hnl2 : nl ≤ 1048576 := by rw [hnl, hlen]; exact hB.l
  rw [← hnl] at ev
  subst ev
  obtain ⟨x, hx⟩ : ∃ x, x = groupN (numL Ls) s := ⟨_, rfl⟩
  have HXD : Hid (x = groupN (numL Ls) s) := hx
  rw [← hx] at HG1 HG2
  have hsz := hB.siz
  rw [← hx] at hsz
  have HSZ := hidK hsz
  obtain ⟨qp, hqp⟩ := (group_goes (numL Ls) s).pre
  rw [← hx] at hqp
  have HQP := hidK hqp
  obtain ⟨qd, hqd⟩ := group_pre (numL Ls) s
  rw [← hx] at hqd
  have HQD := hidK hqd
  obtain ⟨ad, cd, ed, _, _⟩ := hd.form
  obtain ⟨ld, hld⟩ : ∃ l, l = s.d.length := ⟨_, rfl⟩
  rw [← hld] at ed
  have HLD := hidK hld
  have hldl : ld ≤ 1048576 := by rw [hld]; exact hB.d
  subst ed
  clear hB hV hd hw hp hb1 hx0 hup hlen hx hsz hqp hqd hld hs1 hnl
  subst hS
  go_enter Try.func4, Try.ntmps4
  go_upto_region 1 with fail
  rw [← hw1]
  clear hw1
  go_upto_region 2 with (go_at_call 9; refine HG1.out.mono ?_; rintro e w2 ⟨a0, l0, c0, a1, l1, c1, a2, l2, c2, rfl, q1, q2⟩; have HO2 := hidK q1; have HB2 := hidK q2; clear q1 q2)
  clear y0 y1 y2
  obtain ⟨w3, hw3⟩ : ∃ w3, w3 = w2.alloc (.cells #[.slice a0 l0 c0, .slice a1 l1 c1, .slice a2 l2 c2] 26) := ⟨_, rfl⟩
  have hb23 : Below w2.heap.size w2 w3 := by rw [hw3]; exact (Below.refl _ _).alloc (Nat.le_refl _) _
  have hz3 : w3.heap[w2.heap.size]? = some (.cells #[.slice a0 l0 c0, .slice a1 l1 c1, .slice a2 l2 c2] 26 (0, 0)) := by rw [hw3]; exact heap_alloc_new _ _
  have HO3 := hidK (HO2.out.on hb23)
  have HB3 : Hid (Below w1.heap.size w1 w3) := HB2.out.trans (hb23.mono HB2.out.size)
  have HZ3 := hidK hz3
  have HXB := hidK (hkeepK HB3.out HX0.out)
  rw [← hw3]
  clear hw3 hz3 hb23 HO2 HB2 HG1
  have hx12 := HSZ.out
  have HHAS : Hid (∀ W nm, Below w3.heap.size w3 W → Calls Try.prog 13 #[.slice a1 l1 c1, .string nm] W fun e w' => e = .returned (.bool (isIn x.w nm)) ∧ w' = W) := fun W nm hb => has_c _ x.w nm W (OwnF.row elT (HO3.out.on hb).wt) (by omega)
  have HAM : Hid (∀ W (k : Nat) (at_ : Int), Below w3.heap.size w3 W → Calls Try.prog 10 #[.slice a2 l2 c2, .agg #[.int .i64 k, .int .i64 at_]] W fun e w' => e = .returned (.bool (isIn x.p ((k : Int), at_))) ∧ Below W.heap.size W w') := fun W k at_ hb => among_c _ x.p k at_ W (OwnF.row elP (HO3.out.on hb).p) (by omega)
  have HBW : Hid (∀ W, Below w3.heap.size w3 W → Below w1.heap.size w1 W) := fun W hb => HB3.out.trans (hb.mono HB3.out.size)
  clear hx12
  go_wp2
  go_loopw [6] (fun i wx => ∃ k : Nat, i = .int .i64 k ∧ k ≤ nl ∧ Below w3.heap.size w3 wx) (fun i _ => nl - (intOf i).toNat)
  case atStart => exact ⟨0, rfl, Nat.zero_le _, Below.refl _ _⟩
  case round =>
    obtain ⟨k, rfl, hkn, hB⟩ := hrel
    by_cases hk : k < nl
    · have kI : (k : Int) < (nl : Int) := by omega
      have k0 : (0 : Int) ≤ (k : Int) := by omega
      have kw : IntKind.i64.wrap ((k : Int) + 1) = (k : Int) + 1 := by rw [IntKind.wrap_i64]; omega
      obtain ⟨⟨xe, xa, xn, xf, xg⟩, hx⟩ : ∃ x, lvs[k]? = some x := ⟨_, List.getElem?_eq_getElem (by have := HNL.out; omega)⟩
      obtain ⟨L, hL⟩ : ∃ L, Ls[k]? = some L := ⟨_, List.getElem?_eq_getElem (by have := HLEN.out; have := HNL.out; omega)⟩
      have hlibs := HUP.out wr (HBW.out wr hB)
      have hlib := hlibs.ea k _ L hx hL
      obtain ⟨s0, t0, z0, s1, t1, z1, s2, t2, z2, s3, t3, z3, s4, t4, z4, e0, e1, e2, e3, e4⟩ := hlib.slices
      simp only at e0 e1 e2 e3 e4
      subst e0 e1 e2 e3 e4
      obtain ⟨b1, o1, p1, ev, _⟩ := hlibs.row.row.lv hx
      injection ev with ev evb evc
      subst ev
      have HCL : Hid (∀ W, Below w3.heap.size w3 W → W.cell? ⟨b1, o1 + k * 5, none⟩ = some (.slice s0 t0 z0) ∧ W.cell? ⟨b1, o1 + k * 5 + 1, none⟩ = some (.slice s1 t1 z1) ∧ W.cell? ⟨b1, o1 + k * 5 + 2, none⟩ = some (.slice s2 t2 z2) ∧ W.cell? ⟨b1, o1 + k * 5 + 3, none⟩ = some (.slice s3 t3 z3) ∧ W.cell? ⟨b1, o1 + k * 5 + 4, none⟩ = some (.slice s4 t4 z4)) := fun W hb => by
        obtain ⟨b1', o1', p1', ev', d0, d1, d2, d3, d4⟩ := (HUP.out W (HBW.out W hb)).row.row.lv hx
        injection ev' with ev' _ _
        injection ev' with ev'
        injection ev' with q1 q2 _
        subst q1 q2
        exact ⟨d0, d1, d2, d3, d4⟩
      have hmemL : L ∈ Ls := List.mem_of_getElem? hL
      have HLE : Hid (∀ W, Below w3.heap.size w3 W → RowG enL W (.slice s0 t0 z0) L.e ∧ RowI W (.slice s1 t1 z1) L.a) := fun W hb => ⟨((HUP.out W (HBW.out W hb)).ea k _ L hx hL).e.row, ((HUP.out W (HBW.out W hb)).ea k _ L hx hL).a.row⟩
      have hte : t0 = L.e.length := by
        obtain ⟨a, c, e, _⟩ := hlib.e.row.form
        injection e
      have HTE := hidK hte
      have ht0 : t0 ≤ 1048576 := by rw [hte]; exact HBK.out.e L hmemL
      have HME : Hid (∀ W at_, Below w3.heap.size w3 W → Calls Try.prog 11 #[.agg #[.slice s0 t0 z0, .slice s1 t1 z1, .slice s2 t2 z2, .slice s3 t3 z3, .slice s4 t4 z4], .int .i64 at_] W fun e w' => e = .returned (.int .i64 (idxI L.a at_)) ∧ Below W.heap.size W w') := fun W at_ hb => member_c _ _ _ _ _ L.a at_ W (HLE.out W hb).2 (HBK.out.aok L hmemL)
      have hnk : ((k : Int), L) ∈ numL Ls := List.mem_of_getElem? (i := k) (by rw [numL_get, hL]; rfl)
      have HQU : Hid (∀ nm at_, (nm, at_) ∈ L.e → isIn x.w nm = true → 0 ≤ idxI L.a at_ → isIn x.p ((k : Int), at_) = true) := fun nm at_ he hw hi => by
        obtain ⟨i, hi⟩ := idxI_pos hi
        have := group_quiet (s := s) hnk he
        rw [← HXD.out] at this
        exact quiet_pulled this hw hi
      have HB0 := hidK hB
      have dd0 := (HCL.out wr hB).1
      clear hlibs hlib hx hL evb evc hte hmemL hnk hB
      go_wp2
      go_loopw [7] (fun i wx => ∃ j : Nat, i = .int .i64 j ∧ j ≤ t0 ∧ Below w3.heap.size w3 wx) (fun i _ => t0 - (intOf i).toNat)
      case atStart => exact ⟨0, rfl, Nat.zero_le _, HB0.out⟩
      case round =>
        obtain ⟨j, rfl, hjn, hB⟩ := hrel
        clear dd0
        obtain ⟨dd0, dd1, dd2, dd3, dd4⟩ := HCL.out wr hB
        by_cases hj : j < t0
        · have jI : (j : Int) < (t0 : Int) := by omega
          have j0 : (0 : Int) ≤ (j : Int) := by omega
          have jw : IntKind.i64.wrap ((j : Int) + 1) = (j : Int) + 1 := by rw [IntKind.wrap_i64]; omega
          obtain ⟨⟨nm, at_⟩, hy⟩ : ∃ x, L.e[j]? = some x := ⟨_, List.getElem?_eq_getElem (by have := HTE.out; omega)⟩
          obtain ⟨b2, o2, p2, ev, g0, g1⟩ := (HLE.out wr hB).1.en hy
          injection ev with ev evb evc
          subst ev
          simp only at g0 g1
          have hmem := List.mem_of_getElem? hy
          obtain ⟨E, hE⟩ : ∃ E, E = Obj.cells #[.string nm, .int .i64 at_] 41 := ⟨_, rfl⟩
          obtain ⟨W4, hW4⟩ : ∃ W4, W4 = wr.alloc E := ⟨_, rfl⟩
          have b4 : Below w3.heap.size w3 W4 := by rw [hW4]; exact bupK hB E
          have e4 : W4.heap[wr.heap.size]? = some (.cells #[.string nm, .int .i64 at_] 41 (0, 0)) := by rw [hW4, heap_alloc_new, hE]
          have HCE : Hid (∀ W, Below W4.heap.size W4 W → Below w3.heap.size w3 W ∧ W.cell? ⟨wr.heap.size, 0, none⟩ = some (.string nm) ∧ W.cell? ⟨wr.heap.size, 1, none⟩ = some (.int .i64 at_) ∧ W.cell? ⟨w2.heap.size, 1, none⟩ = some (.slice a1 l1 c1) ∧ W.cell? ⟨w2.heap.size, 2, none⟩ = some (.slice a2 l2 c2)) := fun W hb => by
            have hb3 := bel3K b4 hb
            obtain ⟨_, z1, z2⟩ := lk_cells (hkeepK hb3 HZ3.out)
            have q := hkeepK hb e4
            exact ⟨hb3, cell_rowK q 0 _ rfl, cell_rowK q 1 _ rfl, z1, z2⟩
          have HQ : Hid (isIn x.w nm = true → 0 ≤ idxI L.a at_ → isIn x.p ((k : Int), at_) = true) := fun h1 h2 => HQU.out nm at_ hmem h1 h2
          clear hy evb evc e4 b4 hmem
          subst hE
          go_upto_region 9 with fail
          rw [← hW4]
          clear hW4 g0 g1 dd0 dd1 dd2 dd3 dd4
          obtain ⟨_, h0, h1, h2, h3⟩ := HCE.out W4 (Below.refl _ _)
          have HH4 := hidK (HHAS.out W4 nm (HCE.out W4 (Below.refl _ _)).1)
          go_upto_region 10 with (go_at_call 13; refine HH4.out.mono ?_; rintro e w5 ⟨rfl, hw5⟩; subst w5)
          clear h0 h1 h2 h3 HH4
          have hv0 : ∀ W, Below W4.heap.size W4 W → W.cell? ⟨b1, o1 + k * 5, none⟩ = some (.slice (some ⟨b2, o2, none⟩) t0 z0) := fun W hb => (HCL.out W (HCE.out W hb).1).1
          have hv1 : ∀ W, Below W4.heap.size W4 W → W.cell? ⟨b1, o1 + k * 5 + 1, none⟩ = some (.slice s1 t1 z1) := fun W hb => (HCL.out W (HCE.out W hb).1).2.1
          have hv2 : ∀ W, Below W4.heap.size W4 W → W.cell? ⟨b1, o1 + k * 5 + 2, none⟩ = some (.slice s2 t2 z2) := fun W hb => (HCL.out W (HCE.out W hb).1).2.2.1
          have hv3 : ∀ W, Below W4.heap.size W4 W → W.cell? ⟨b1, o1 + k * 5 + 3, none⟩ = some (.slice s3 t3 z3) := fun W hb => (HCL.out W (HCE.out W hb).1).2.2.2.1
          have hv4 : ∀ W, Below W4.heap.size W4 W → W.cell? ⟨b1, o1 + k * 5 + 4, none⟩ = some (.slice s4 t4 z4) := fun W hb => (HCL.out W (HCE.out W hb).1).2.2.2.2
          have hv5 : ∀ W, Below W4.heap.size W4 W → W.cell? ⟨wr.heap.size, 1, none⟩ = some (.int .i64 at_) := fun W hb => (HCE.out W hb).2.2.1
          have HM4 : Hid (∀ W, Below W4.heap.size W4 W → Calls Try.prog 11 #[.agg #[.slice (some ⟨b2, o2, none⟩) t0 z0, .slice s1 t1 z1, .slice s2 t2 z2, .slice s3 t3 z3, .slice s4 t4 z4], .int .i64 at_] W fun e w' => e = .returned (.int .i64 (idxI L.a at_)) ∧ Below W4.heap.size W4 w') := fun W hb => (HME.out W at_ (HCE.out W hb).1).mono (by
            rintro e w' ⟨q1, q2⟩
            exact ⟨q1, bel3K hb q2⟩)
          have hb4 : Below W4.heap.size W4 W4 := Below.refl _ _
          go_region_held3 (fun w' => Below W4.heap.size W4 w') (first | assumption | exact hb4.drew | exact hSw.drew) (first
            | (go_at_call 11; refine (HM4.out _ (by assumption)).mono ?_; rintro e w6 ⟨rfl, hS6⟩))
          have HS6 := hidK hS6
          obtain ⟨hb6, i0, i1, i2, i3⟩ := HCE.out _ hS6
          have HA6 := hidK (HAM.out _ k at_ hb6)
          have HB6 := hidK hb6
          clear hv0 hv1 hv2 hv3 hv4 hv5 HM4 hb4 hS6 hb6
          go_upto_region 12 with (go_at_call 10; refine HA6.out.mono ?_; rintro e w7 ⟨rfl, q1⟩; have HB7 := hidK (bel3K HB6.out q1); clear q1)
          clear i0 i1 i2 i3
          obtain ⟨dx, hdx⟩ : ∃ d, d = idxI L.a at_ := ⟨_, rfl⟩
          obtain ⟨pb, hpb⟩ : ∃ b, b = isIn x.p ((k : Int), at_) := ⟨_, rfl⟩
          obtain ⟨wb, hwb⟩ : ∃ b, b = isIn x.w nm := ⟨_, rfl⟩
          have hq := HQ.out
          rw [← hdx, ← hpb, ← hwb] at hq
          rw [← hdx, ← hpb, ← hwb]
          clear hdx hpb hwb HQ
          have hcase : wb = false ∨ (wb = true ∧ dx < 0) ∨ (wb = true ∧ 0 ≤ dx ∧ pb = true) := by
            cases wb with
            | false => exact .inl rfl
            | true =>
              by_cases h : 0 ≤ dx
              · exact .inr (.inr ⟨rfl, h, hq rfl h⟩)
              · exact .inr (.inl ⟨rfl, by omega⟩)
          clear hq
          rcases hcase with rfl | ⟨rfl, hdn⟩ | ⟨rfl, hdn, rfl⟩
          · go_wp2
            go_roundw
            case rel => exact ⟨j + 1, by go_num, by omega, HB7.out⟩
            case measure => simp [intOf]; omega
          · have hnd : ¬ (0 ≤ dx) := by omega
            go_wp2
            go_roundw
            case rel => exact ⟨j + 1, by go_num, by omega, HB7.out⟩
            case measure => simp [intOf]; omega
          · go_wp2
            go_roundw
            case rel => exact ⟨j + 1, by go_num, by omega, HB7.out⟩
            case measure => simp [intOf]; omega
        · obtain rfl : j = t0 := by omega
          go_wp2
          go_roundw
          case rel => exact ⟨k + 1, by go_num, by omega, hB⟩
          case measure => simp [intOf]; omega
    · obtain rfl : k = nl := by omega
      clear HHAS HAM
      have hX0 := hkeepK hB HXB.out
      have hZ0 := hkeepK hB HZ3.out
      obtain ⟨y0, y1, y2⟩ := lk_cells hX0
      obtain ⟨z0, z1, z2⟩ := lk_cells hZ0
      have hl0 : l0 = x.d.length := by
        obtain ⟨a, c, e, _⟩ := HO3.out.d.form
        injection e
      have hbig : ld ≤ l0 := by rw [hl0, HQD.out, HLD.out]; simp
      have hl0s : l0 ≤ 1099512676352 := by rw [hl0]; exact HSZ.out.2.1
      have HST : Hid (Calls Try.prog 14 #[vp, .slice a2 l2 c2] wr fun e w' => e = .returned (.bool true) ∧ Below wr.heap.size wr w') := starts_c _ _ s.p qp wr (HD.out wr (HBW.out wr hB)).2 (by rw [← HQP.out]; exact OwnF.row elP (HO3.out.on hB).p) (by rw [← HQP.out]; have := HSZ.out.1; omega)
      have HBB := hidK hB
      clear hB hl0
      go_upto_region 16 with (go_at_call 14; refine HST.out.mono ?_; rintro e w8 ⟨rfl, q1⟩; have HB8 := hidK q1; clear q1)
      clear y0 y1 y2 z0 z1 z2 HST
      have HX8 := hidK (hkeepK HB8.out hX0)
      have HZ8 := hidK (hkeepK HB8.out hZ0)
      have HO8 := hidK ((HO3.out.on HBB.out).on HB8.out)
      have HW8 : Hid (Below w1.heap.size w1 w8) := (HBW.out wr HBB.out).trans (HB8.out.mono (HBW.out wr HBB.out).size)
      obtain ⟨z0, z1, z2⟩ := lk_cells HZ8.out
      obtain ⟨y0, y1, y2⟩ := lk_cells HX8.out
      have hnb : ¬ ((l0 : Int) < (ld : Int)) := by omega
      have hc0 : l0 ≤ c0 := by
        obtain ⟨a, c, e, hh⟩ := HO8.out.d.form
        injection e with e1 e2 e3
        omega
      clear hX0 hZ0
      go_upto_region 18 with fail
      have i1 : (ld : Int) ≤ (c0 : Int) := by omega
      have HR8 : Hid (∀ W, Below w8.heap.size w8 W → RowT W (.slice a0 ld c0) s.d ∧ RowT W (.slice ad ld cd) s.d) := fun W hb => by
        have h1 := OwnF.row elT (HO8.out.on hb).d
        rw [HQD.out] at h1
        have h2 := rowG_front h1
        rw [← HLD.out] at h2
        exact ⟨h2, (HD.out W (HW8.out.trans (hb.mono HW8.out.size))).1⟩
      have HST : Hid (∀ W, Below w8.heap.size w8 W → Calls Try.prog 15 #[.slice a0 ld c0, .slice ad ld cd] W fun e w' => e = .returned (.bool true) ∧ Below w8.heap.size w8 w') := fun W hb => (sameTexts_c _ _ s.d W (HR8.out W hb).1 (HR8.out W hb).2 (by have := HLD.out; omega)).mono (by
        rintro e w' ⟨q1, q2⟩
        exact ⟨q1, bel3K hb q2⟩)
      clear z0 z1 z2 y0 y1 y2
      have hv0 : ∀ W, Below w8.heap.size w8 W → W.cell? ⟨w2.heap.size, 0, none⟩ = some (.slice a0 l0 c0) := fun W hb => (lk_cells (hkeepK hb HZ8.out)).1
      have hv1 : ∀ W, Below w8.heap.size w8 W → W.cell? ⟨w.heap.size, 0, none⟩ = some (.slice ad ld cd) := fun W hb => (lk_cells (hkeepK hb HX8.out)).1
      have hb8 : Below w8.heap.size w8 w8 := Below.refl _ _
      go_region_held3 (fun w' => Below w8.heap.size w8 w') (first | assumption | exact hb8.drew | exact hSw.drew) (first
        | (go_at_call 15; refine (HST.out _ (by assumption)).mono ?_; rintro e w9 ⟨rfl, hS9⟩))
      have HS9 := hidK hS9
      have HZ9 := hidK (hkeepK hS9 HZ8.out)
      obtain ⟨z0, z1, z2⟩ := lk_cells HZ9.out
      have HW9 : Hid (Below w1.heap.size w1 w9) := HW8.out.trans (hS9.mono HW8.out.size)
      have HO9 := hidK (HO8.out.on hS9)
      have HG9 := hidK (HG2.out w9 _ _ _ HW9.out (OwnF.row elT HO9.out.d) (OwnF.row elT HO9.out.wt) (OwnF.row elP HO9.out.p))
      clear hv0 hv1 hb8 hS9 HST HR8
      go_upto_region 20 with (go_at_call 9; refine HG9.out.mono ?_; rintro e w10 ⟨g0, m0, d0, g1, m1, d1, g2, m2, d2, rfl, q1, q2⟩; have HO10 := hidK q1; have HB10 := hidK q2; clear q1 q2)
      clear z0 z1 z2
      obtain ⟨w11, hw11⟩ : ∃ w11, w11 = w10.alloc (.cells #[.slice g0 m0 d0, .slice g1 m1 d1, .slice g2 m2 d2] 26) := ⟨_, rfl⟩
      have hb11 : Below w10.heap.size w10 w11 := by rw [hw11]; exact (Below.refl _ _).alloc (Nat.le_refl _) _
      have hy11 : w11.heap[w10.heap.size]? = some (.cells #[.slice g0 m0 d0, .slice g1 m1 d1, .slice g2 m2 d2] 26 (0, 0)) := by rw [hw11]; exact heap_alloc_new _ _
      have hz11 := hkeepK hb11 (hkeepK HB10.out HZ9.out)
      obtain ⟨z0, z1, z2⟩ := lk_cells hz11
      obtain ⟨y0, y1, y2⟩ := lk_cells hy11
      have hO11 := HO10.out.on hb11
      have hX11 := (HO9.out.on HB10.out).on hb11
      have hz := HSZ.out
      have HSS := hidK (sameState_c _ _ _ _ _ _ x w11 (OwnF.row elT hO11.d) (OwnF.row elT hO11.wt) (OwnF.row elP hO11.p) (OwnF.row elT hX11.d) (OwnF.row elT hX11.wt) (OwnF.row elP hX11.p) (by omega) (by omega) (by omega))
      have HF : Hid (Below w.heap.size w w11) := by
        have h1 := HB1.out.trans (HW9.out.mono HB1.out.size)
        have h2 := h1.trans (HB10.out.mono h1.size)
        exact h2.trans (hb11.mono h2.size)
      rw [← hw11]
      clear hw11 hb11 hy11 hz11 hO11 hX11 hz
      go_wp2_with (go_at_call 16; refine HSS.out.mono ?_; rintro e w12 ⟨rfl, q1⟩; have HB12 := hidK q1; clear q1)
      go_ret
      exact ⟨rfl, HF.out.trans (HB12.out.mono HF.out.size)⟩
end Go.Proofs.Ytebgannhecmnmaa
