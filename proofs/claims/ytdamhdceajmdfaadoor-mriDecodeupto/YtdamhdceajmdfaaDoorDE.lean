
-- The document's Decode (6): its walk.
import Derived.Test.YtdamhdceajmdfaaDoorDD
namespace Go.Proofs.YtdamhdceajmdfaaDoor
open Go.ChangeShapes Go.WideShapes Go.ChangeAt Go.RowKit Go.MapKept
set_option linter.unusedVariables false
set_option maxRecDepth 100000
set_option linter.unusedSimpArgs false
theorem ne_typed {F G : Nat → Prop} {w : World} {v u : Value} {L : List (Mr × Value)} {T : List ByteArray} (hv : OwnF F mrL 3 28 w v L) (hu : OwnF G txL 1 9 w u T) : ∀ g, v.ownBlock = some g → u.ownBlock ≠ some g := by
  intro g h1 h2
  obtain ⟨c1, q1⟩ := hv.typed h1
  exact ne_ty hu q1 (by decide) h2
theorem own_blk {F : Nat → Prop} {w : World} {v : Value} {T : List ByteArray} {x : ByteArray} {r : List ByteArray} (hT : T = x :: r) (h : OwnF F txL 1 9 w v T) : ∃ g cap, v = .slice (some ⟨g, 0, none⟩) (r.length + 1) cap ∧ v.ownBlock = some g := by
  subst hT
  rcases h.1.2 with ⟨q, q'⟩ | ⟨g, cap, cur, q1, _⟩
  · simp at q'
  · exact ⟨g, cap, q1, by rw [q1]; rfl⟩
set_option maxHeartbeats 16000000 in
theorem rdecode_c (s : ByteArray) (w : World) (hW : WT w) (hs : s.size ≤ 16777216) :
    Calls Tryd.prog 15 #[.string s] w fun e w' => RdSays s w e w' := by
  have HLN : Hid (Calls Tryd.prog 27 #[.string s] w fun e w' => LnSays s w e w') := rlines_c s w hs
  have HW := hidK hW
  have HSZ : Hid ((byL s).length ≤ 16777216) := by show _ ≤ _; rw [byL_size]; exact hs
  clear hW hs
  go_enter Tryd.func15, Tryd.ntmps15
  go_upto_region 2 with (go_at_call 27; refine HLN.out.mono ?_; rintro e w1 ⟨v1, Ls, rfl, o1, e1, b1⟩; have HO1 := hidK o1; have HE1 := hidK e1; have HB1 := hidK b1; obtain ⟨va, vc, hv1, _⟩ := (OwnT.row o1).form; obtain ⟨n, hn⟩ : ∃ n, n = Ls.length := ⟨_, rfl⟩; rw [← hn] at hv1; subst hv1; have HN := hidK hn; clear o1 e1 b1 hn)
  clear HLN
  obtain ⟨TL, hTL⟩ : ∃ TL, TL = (linesL (byL s)).map tokL := ⟨_, rfl⟩
  have HTL := hidK hTL
  have htn : TL.length = n := by rw [hTL, List.length_map, ← HE1.out, List.length_map, HN.out]
  have HTN := hidK htn
  have hnl : n ≤ 16777217 := by
    have h4 : ∀ (l c : List UInt8), (lnG c l).length ≤ l.length + 1 := by
      intro l
      induction l with
      | nil => intro c; rw [lnG]; split <;> simp
      | cons b r ih =>
        intro c
        rw [lnG]
        split
        · have := ih []; simp only [List.length_cons]; omega
        · have := ih (c ++ [b]); simp only [List.length_cons]; omega
    have h5 := h4 (byL s) []
    have h6 : n = (linesL (byL s)).length := by rw [← HE1.out, List.length_map, HN.out]
    have := HSZ.out
    unfold linesL at h6
    omega
  have HLB : Hid (∀ X ∈ Ls, X.size ≤ 16777216) := fun X hX => by
    have h1 : byL X ∈ linesL (byL s) := by rw [← HE1.out]; exact List.mem_map.2 ⟨X, hX, rfl⟩
    have h2 := lnG_tot (byL s) []
    have h3 : (byL X).length ≤ ((linesL (byL s)).map List.length).sum := by
      have : ∀ (A : List (List UInt8)) (a : List UInt8), a ∈ A → a.length ≤ (A.map List.length).sum := by
        intro A
        induction A with
        | nil => intro a h; simp at h
        | cons b A ih => intro a h; rw [List.map_cons, List.sum_cons]; rcases List.mem_cons.1 h with rfl | h; omega; have := ih a h; omega
      exact this _ _ h1
    rw [← byL_size]
    unfold linesL at h3
    have := HSZ.out
    simp only [List.length_nil] at h2
    omega
  clear hTL htn
  go_wp2
  go_loopw [6, 7, 8, 9] (fun o t f i wx => DdRel w1 TL n o t f i wx) (fun _ _ _ i _ => n - (intOf i).toNat)
  case atStart => exact ⟨0, 1, w1.heap.size, [], [], [], false, rfl, rfl, Nat.zero_le _, Nat.le_refl _, Nat.le_refl _, OwnF.nil, Nat.le_refl _, by simp, OwnF.nil, dst_start TL, fun _ => rfl, Below.refl _ _⟩
  case round =>
    obtain ⟨k, q, N, P, T, G0, ct, rfl, rfl, hkn, hN1, hN2, hO, hPk, hNm, hT, hD, hct, hB⟩ := hrel
    have hBs := hB.size
    have HB := hidK hB
    have HO := hidK hO
    have HNM := hidK hNm
    have HT := hidK hT
    have HD := hidK hD
    have HCT := hidK hct
    obtain ⟨so, sc, hs3, _⟩ := hO.form
    obtain ⟨pl, hpl⟩ : ∃ m, m = P.length := ⟨_, rfl⟩
    have HPL := hidK hpl
    rw [← hpl] at hs3 hPk
    subst hs3
    obtain ⟨ta, tc, hs7, _⟩ := hT.form
    obtain ⟨tl, htl⟩ : ∃ m, m = T.length := ⟨_, rfl⟩
    have HTLn := hidK htl
    rw [← htl] at hs7
    subst hs7
    clear hO hNm hT hD hct hB hpl htl
    by_cases hk : k < n
    · have kI : (k : Int) < (n : Int) := by omega
      have k0 : (0 : Int) ≤ (k : Int) := by omega
      obtain ⟨X, hX⟩ : ∃ X, Ls[k]? = some X := ⟨_, List.getElem?_eq_getElem (by have := HN.out; omega)⟩
      obtain ⟨b1, o1, p1, e1, d0⟩ := ((OwnT.row HO1.out).on HB.out).tx hX
      have hXs := HLB.out X (List.mem_of_getElem? hX)
      obtain ⟨M, hM⟩ : ∃ M, M = tokL (byL X) := ⟨_, rfl⟩
      have hmk : TL[k]? = some M := by
        rw [HTL.out, ← HE1.out, List.map_map, List.getElem?_map, hX, hM]; rfl
      have HMK := hidK hmk
      have HTC : Hid (Calls Tryd.prog 28 #[.string X] wr fun e w' => ∃ v, e = .returned v ∧ OwnT wr.heap.size w' v M ∧ Below wr.heap.size wr w') := by
        have := rtokens_c X wr hXs
        rw [hM]; exact this
      have hbd := dst_bound (l := byL s) (by rw [← HTL.out]; exact HD.out) (by rw [← HTL.out]; exact hmk)
      have HBD : Hid ((T ++ cutP M).length ≤ 16777216 ∧ sumS (T ++ cutP M) ≤ 33554432) := by have := HSZ.out; exact ⟨by omega, by omega⟩
      have HMl : Hid (M.length ≤ 16777216) := by
        show _ ≤ _
        rw [hM]
        have := tokG_count (byL X) []
        unfold tokL
        simp only [if_true] at this
        rw [byL_size] at this
        omega
      injection e1 with e1 e1b e1c
      subst e1
      clear hX hmk hM hXs e1b e1c hbd
      go_upto_region 9 with (go_at_call 28; refine HTC.out.mono ?_; rintro e w2 ⟨v2, rfl, o2, b2⟩; have HO2 := hidK o2; have HB2 := hidK b2; obtain ⟨ma, mc, hv2, hmc, _⟩ := (OwnT.row o2).form; obtain ⟨ml, hml⟩ : ∃ m, m = M.length := ⟨_, rfl⟩; rw [← hml] at hv2 hmc; subst hv2; have HML := hidK hml; clear o2 b2 hml d0)
      clear HTC
      have hs2 := HB2.out.size
      obtain ⟨ip, hip⟩ : ∃ ip, ip = isPlus M := ⟨_, rfl⟩
      have HIP := hidK hip
      obtain ⟨cl, hcl⟩ : ∃ cl, cl = (cutP M).length := ⟨_, rfl⟩
      have HCL := hidK hcl
      have hml1 : ml ≤ 1099511627776 := by have := HMl.out; have := HML.out; omega
      have hP : (ip = false ∧ cl = ml) ∨ (ip = true ∧ ∃ j, ml = j + 1 ∧ cl = j) := by
        cases hi : ip with
        | false => exact .inl ⟨rfl, by rw [hcl, HML.out]; unfold cutP; rw [← hip, hi]; rfl⟩
        | true =>
          have hi2 : isPlus M = true := by rw [← hip]; exact hi
          have hpos := plus_pos hi2
          refine .inr ⟨rfl, ml - 1, by have := HML.out; omega, ?_⟩
          rw [hcl]; unfold cutP; rw [hi2, if_pos rfl, List.length_dropLast, HML.out]
      have HCPR : Hid (RowT w2 (.slice ma cl mc) (cutP M)) := by
        have hr := OwnT.row HO2.out
        rcases hP with ⟨hi, hc⟩ | ⟨hi, j, hj, hc⟩
        · have e : cutP M = M := by unfold cutP; rw [← hip, hi]; rfl
          rw [e, hc]; exact hr
        · have e : cutP M = M.take j := by unfold cutP; rw [← hip, hi, if_pos rfl, List.dropLast_eq_take]; congr 1; have := HML.out; omega
          rw [e, hc]
          exact rowT_take19 (by have := HML.out; omega) (by rw [← hj]; exact hr)
      go_upto_region 10 with fail
      go_cut [12] from 28 to 39 (fun s wx => s = .bool ip ∧ wx = w2)
      case first =>
        by_cases hm0 : ml = 0
        · have hi : ip = false := by rcases hP with ⟨h, _⟩ | ⟨_, j, h, _⟩; exact h; omega
          clear hip hcl hP
          subst hm0
          go_wp2
          go_meet
          case rel => exact ⟨by rw [hi], rfl⟩
        · obtain ⟨x, hx⟩ : ∃ x, M[ml - 1]? = some x := ⟨_, List.getElem?_eq_getElem (by have := HML.out; omega)⟩
          have hxp := isPlus_at HML.out hx
          obtain ⟨b3, o3, p3, e3, d3⟩ := (OwnT.row HO2.out).tx hx
          injection e3 with e3 e3b e3c
          subst e3
          obtain ⟨j, rfl⟩ : ∃ j, ml = j + 1 := ⟨ml - 1, by omega⟩
          have e9 : j + 1 - 1 = j := by omega
          rw [e9] at d3
          have hw1 : IntKind.i64.wrap ((j : Int) + 1 - 1) = (j : Int) := by rw [IntKind.wrap_i64]; omega
          have hw2 : IntKind.i64.wrap (j : Int) = (j : Int) := by rw [IntKind.wrap_i64]; omega
          have j0 : (0 : Int) ≤ (j : Int) := by omega
          have j1 : (j : Int) < (j : Int) + 1 := by omega
          have j2 : (0 : Int) < (j : Int) + 1 := by omega
          have HXP : Hid (ip = (x.toList == [43])) := hip.trans hxp
          clear hip hcl hP hx hxp e3b e3c hm0 e9
          cases hpx : (x.toList == [43])
          · have HR : Hid (ip = false) := HXP.out.trans hpx
            clear HXP
            go_wp2
            go_meet
            case rel => exact ⟨by rw [HR.out], rfl⟩
          · have HR : Hid (ip = true) := HXP.out.trans hpx
            clear HXP
            go_wp2
            go_meet
            case rel => exact ⟨by rw [HR.out], rfl⟩
      case rest =>
        obtain ⟨hs12, hwc⟩ := hcut
        rw [hwc]
        clear hwc
        subst hs12
        go_upto_if 40 with fail
        go_cut [10] from 40 to 44 (fun s wx => s = .slice ma cl mc ∧ wx = w2)
        case first =>
          rcases hP with ⟨hi, hc⟩ | ⟨hi, j, hj, hc⟩
          · clear hip hcl
            subst hi
            have HC := hidK hc
            clear hc
            go_wp2
            go_meet
            case rel => exact ⟨by rw [HC.out], rfl⟩
          · clear hip hcl
            subst hi
            have HC := hidK hc
            subst hj
            clear hc
            have hsh := sliceHead ma j mc hmc
            have hw1 : IntKind.i64.wrap ((j : Int) + 1 - 1) = (j : Int) := by rw [IntKind.wrap_i64]; omega
            have hw2 : IntKind.i64.wrap (j : Int) = (j : Int) := by rw [IntKind.wrap_i64]; omega
            go_wp2
            go_meet
            case rel => exact ⟨by rw [HC.out], rfl⟩
        case rest =>
          obtain ⟨hs10, hwc⟩ := hcut
          rw [hwc]
          clear hwc
          subst hs10
          have HT2 := hidK (HT.out.on HB2.out)
          have HLEN : Hid ((T.length + (cutP M).length) * (16 + 1) ≤ 140737488355328) := by show _ ≤ _; have := HBD.out.1; rw [List.length_append] at this; omega
          clear hip hcl hP hmc hml1
          go_upto_region 14 with (at_builtin; refine wpG_all (F := fun b => N ≤ b) elT rfl (.tmp 45) (.tmp 46) rfl (.slice ta tl tc) (.slice ma cl mc) T (cutP M) rfl rfl HT2.out HCPR.out (fun m _ => txL_one m) HLEN.out (fun b hb => Nat.le_trans hN2 (Nat.le_trans hs2 hb)) ?_; intro v3 w3 o3 k3 n3; have HO3 := hidK o3; have HK3 := hidK k3; clear o3 k3 n3)
          obtain ⟨T2, hT2⟩ : ∃ T2, T2 = T ++ cutP M := ⟨_, rfl⟩
          rw [← hT2] at HO3 HBD
          have HTT := hidK hT2
          have hk3s := HK3.out.size
          have HOW : Hid (OwnF (fun b => w1.heap.size ≤ b) mrL 3 28 w3 (.slice so pl sc) P) := (HO.out.on HB2.out).keep fun g hg => HK3.out.block g ((HO.out.on HB2.out).lt g hg) (ne_typed (HO.out.on HB2.out) HT2.out g hg)
          have HN3 : Hid (∀ p ∈ P, NmOk N w3 p.2 p.1.ns) := fun p hp => (((HNM.out p hp).keep (Nat.le_refl _) fun b hb _ => HB2.out.block b (Nat.lt_of_lt_of_le hb hN2)).keep (Nat.le_refl _) fun b hb _ => HK3.out.block b (Nat.lt_of_lt_of_le hb (Nat.le_trans hN2 hs2)) (fun e => by have := HT2.out.2 b e; simp only at this; omega))
          have HB3 : Hid (Below w1.heap.size w1 w3) := (HB.out.trans (HB2.out.mono hBs)).trans (HK3.out.below (fun g hg => Nat.le_trans hN1 (HT2.out.2 g hg)) (Nat.le_trans hBs hs2))
          have kw : IntKind.i64.wrap ((k : Int) + 1) = (k : Int) + 1 := by rw [IntKind.wrap_i64]; omega
          have kw2 : IntKind.i64.wrap ((k : Int) + 2) = (k : Int) + 2 := by rw [IntKind.wrap_i64]; omega
          obtain ⟨t3a, t3c, ht3, _⟩ := HO3.out.form
          obtain ⟨t3l, ht3l⟩ : ∃ m, m = T2.length := ⟨_, rfl⟩
          have HT3 := hidK ht3l
          rw [← ht3l] at ht3
          subst ht3
          clear ht3l hT2 HCPR HLEN HT2 HK3 HO2 HB2
          by_cases hcont : ip = true ∧ k + 1 < n
          · obtain ⟨hi, hkn1⟩ := hcont
            have kJ : (k : Int) + 1 < (n : Int) := by omega
            have HDM : Hid (Dst TL (k + 1) q G0 T2 true (P.map (·.1))) := by rw [HTT.out]; exact dst_more HD.out HMK.out (by rw [← HIP.out]; exact hi)
            subst hi
            go_wp2
            go_roundw
            case rel => exact ⟨k + 1, q, N, P, T2, G0, true, by go_num, rfl, by omega, hN1, by omega, HOW.out, by have := HPL.out; omega, HN3.out, HO3.out, HDM.out, fun h => by omega, HB3.out⟩
            case measure => simp [intOf]; omega
          · have hpn : isPlus M = false ∨ k + 1 = TL.length := by
              cases hi : ip with
              | false => exact .inl (by rw [← HIP.out]; exact hi)
              | true => exact .inr (by have := HTN.out; have : ¬ k + 1 < n := fun h => hcont ⟨hi, h⟩; omega)
            have HPN := hidK hpn
            have hcase : ip = false ∨ (ip = true ∧ ¬ ((k : Int) + 1 < (n : Int))) := by
              cases hi : ip with
              | false => exact .inl rfl
              | true => exact .inr ⟨rfl, fun h => hcont ⟨hi, by omega⟩⟩
            clear hcont hpn
            by_cases ht0 : t3l = 0
            · have HT0 : Hid (T2 = []) := List.eq_nil_of_length_eq_zero (by have := HT3.out; omega)
              have HDM : Hid (Dst TL (k + 1) (k + 2) (G0 ++ [(q, T ++ cutP M)]) [] false (P.map (·.1))) := dst_next HD.out HMK.out HPN.out (fun R => by rw [← HTT.out, HT0.out, decG, if_pos rfl])
              subst ht0
              rcases hcase with hi | ⟨hi, hk1⟩
              all_goals
                subst hi
                go_wp2
                go_roundw
                case rel => exact ⟨k + 1, k + 2, N, P, [], G0 ++ [(q, T ++ cutP M)], false, by go_num, by go_num, by omega, hN1, by omega, HOW.out, by have := HPL.out; omega, HN3.out, OwnF.nil, HDM.out, fun _ => rfl, HB3.out⟩
                case measure => simp [intOf]; omega
            · obtain ⟨x, r, hxr⟩ : ∃ x r, T2 = x :: r := by
                cases hT : T2 with
                | nil => exact absurd HT3.out (by rw [hT]; simpa using ht0)
                | cons x r => exact ⟨x, r, rfl⟩
              obtain ⟨g, gc, hvg, hog⟩ := own_blk hxr HO3.out
              obtain ⟨rl, hrl⟩ : ∃ rl, rl = r.length := ⟨_, rfl⟩
              rw [← hrl] at hvg
              injection hvg with hv1 hv2 hv3
              subst hv1
              subst hv2
              have hbd := HBD.out
              rw [hxr] at hbd
              simp only [List.length_cons] at hbd
              have hxs := sumS_mem (L := x :: r) (x := x) (by simp)
              have HCC : Hid (Calls Tryd.prog 29 #[.slice (some ⟨g, 0, none⟩) (rl + 1) t3c] w3 fun e w' => RcSays (cmdA T2) g w3 e w') := by
                have hr := HO3.out.row elT
                rw [hxr] at hr ⊢
                exact rcommand_c x r rl g 0 t3c w3 (HW.out.up (bel3K HB1.out HB3.out)) (by omega) hrl (by simpa [← hrl] using hr) (by omega)
              have HGT : Hid (g < w3.heap.size ∧ ∃ cur, w3.heap[g]? = some (.cells cur 9 (0, 0))) := ⟨HO3.out.lt g hog, HO3.out.typed hog⟩
              have HNE : Hid (T ++ cutP M ≠ []) := by show _ ≠ _; rw [← HTT.out, hxr]; simp
              have r1 : (0 : Int) < (rl : Int) + 1 := by omega
              clear hxr hrl hbd hxs hog ht0 hv3
              rcases hcase with hi | ⟨hi, hk1⟩
              all_goals
                subst hi
                go_upto_region 17 with first
                  | (go_at_call 29; refine HCC.out.mono ?_; rintro e w4 ⟨hb4, ⟨cv, cn, cs⟩, kk, u4, rfl, hu4, hblk, hor⟩; have HB4 := hidK hb4; have HU4 := hidK hu4; have HBL := hidK hblk; have HOR := hidK hor; obtain ⟨ca, cc, hus⟩ := hu4.slice; obtain ⟨cl4, hcl4⟩ : ∃ m, m = cs.length := ⟨_, rfl⟩; simp only [] at hus; rw [← hcl4] at hus; subst hus; clear hb4 hu4 hblk hor hcl4)
                  | (refine wpList_store_kz rfl rfl _ _ _ rfl w4.heap.size 0 (.agg #[.int .i64 cv, .string cn, .slice ca cl4 cc]) rfl rfl _ _ #[.int .i64 cv, .string cn, .slice ca cl4 cc] (heap_alloc_new _ _) info28 rfl rfl rfl ?_; intro W5 S5 q5)
                have HB5 : Hid (Below w4.heap.size w4 W5) := q5.belowN (bupK (Below.refl _ w4) _) (Nat.le_refl _) (Nat.le_refl _)
                have f1 := cell_rowK S5 0 _ rfl
                have f2 := cell_rowK S5 1 _ rfl
                have f3 := cell_rowK S5 2 _ rfl
                have HB35 : Hid (Below w3.heap.size w3 W5) := HB4.out.trans (HB5.out.mono HB4.out.size)
                have HBA : Hid (Below w1.heap.size w1 W5) := HB3.out.trans (HB35.out.mono HB3.out.size)
                have hs35 := HB35.out.size
                clear S5 q5
                by_cases hk0 : kk = 0
                · have HC : Hid (cmdA (T ++ cutP M) = .inr ⟨cv, cn, cs⟩) := by
                    show _ = _
                    rw [← HTT.out]
                    rcases HOR.out with ⟨_, h⟩ | ⟨h, _⟩
                    · exact h
                    · exact absurd hk0 h
                  have HDM : Hid (Dst TL (k + 1) (k + 2) (G0 ++ [(q, T ++ cutP M)]) [] false ((P ++ [((⟨cv, cn, cs⟩ : Mr), Value.slice ca cl4 cc)]).map (·.1))) := dst_next HD.out HMK.out HPN.out (fun R => by rw [decG, if_neg HNE.out, HC.out, List.map_append]; rfl)
                  have HO5 := hidK (HOW.out.on HB35.out)
                  subst hk0
                  go_upto_region 20 with (at_builtin; refine wpG_one (F := fun b => w1.heap.size ≤ b) elR rfl (.tmp 68) (.tmp 70) rfl (.slice so pl sc) P ((⟨cv, cn, cs⟩ : Mr), Value.slice ca cl4 cc) #[.int .i64 cv, .string cn, .slice ca cl4 cc] rfl rfl rfl HO5.out (by intro q hq; simp only [mrL, List.mem_cons, List.not_mem_nil, or_false] at hq; rcases hq with rfl | rfl | rfl <;> rfl) (by have := HPL.out; omega) (fun b hb => Nat.le_trans HBA.out.size hb) ?_; intro v8 w8 o8 k8 n8; have HO8 := hidK o8; have HK8 := hidK k8; clear o8 k8 n8)
                  have HN8 : Hid (∀ p ∈ P ++ [((⟨cv, cn, cs⟩ : Mr), Value.slice ca cl4 cc)], NmOk W5.heap.size w8 p.2 p.1.ns) := fun p hp => by
                    have key : ∀ {u : Value} {L : List ByteArray}, NmOk W5.heap.size W5 u L → NmOk W5.heap.size w8 u L := fun {u} {L} h => h.keep (Nat.le_refl _) fun b hb ⟨cur, hc⟩ => HK8.out.block b hb (fun e => by
                      obtain ⟨c2, q2⟩ := HO5.out.typed e
                      rw [hc] at q2
                      injection q2 with q2
                      injection q2 with _ q2 _
                      exact absurd q2 (by decide))
                    rcases List.mem_append.1 hp with hp | hp
                    · exact key ((HN3.out p hp).keep (by omega) fun b hb _ => HB35.out.block b (by omega))
                    · simp at hp
                      subst hp
                      refine key ⟨HU4.out.on HB5.out, fun b hb => ?_⟩
                      have := HBL.out b hb
                      subst this
                      obtain ⟨cur, hc⟩ := HGT.out.2
                      exact ⟨by have := HGT.out.1; omega, cur, (HB35.out.block _ HGT.out.1).trans hc⟩
                  have hk8s := HK8.out.size
                  have HB8 : Hid (Below w1.heap.size w1 w8) := HBA.out.trans (HK8.out.below (fun g hg => HO5.out.2 g hg) HBA.out.size)
                  have hsz8 := HBA.out.size
                  go_wp2
                  go_roundw
                  case rel => exact ⟨k + 1, k + 2, W5.heap.size, _, [], G0 ++ [(q, T ++ cutP M)], false, by go_num, by go_num, by omega, hsz8, hk8s, HO8.out, by rw [List.length_append, ← HPL.out]; simp only [List.length_cons, List.length_nil]; omega, HN8.out, OwnF.nil, HDM.out, fun _ => rfl, HB8.out⟩
                  case measure => simp [intOf]; omega
                · have HC : Hid (cmdA (T ++ cutP M) = .inl kk) := by
                    show _ = _
                    rw [← HTT.out]
                    rcases HOR.out with ⟨h, _⟩ | ⟨_, h⟩
                    · exact absurd h hk0
                    · exact h
                  have HDB : Hid (decT (byL s) = ([], q, kk)) := by
                    show _ = _
                    have := dst_bad HD.out HMK.out HPN.out HNE.out HC.out
                    unfold decT
                    rw [← HTL.out]; exact this
                  go_wp2
                  refine bodyPost_ret (results_tmp3 rfl _ _ _) rfl ?_
                  exact ⟨_, [], q, kk, rfl, (ownR_nil 0 _).toRow, HDB.out, bel3K HB1.out HBA.out⟩
    · obtain rfl : k = n := by omega
      have HF : Hid (decT (byL s) = (P.map (·.1), 0, 0)) := by
        show _ = _
        have h1 := HCT.out rfl
        have h2 := HD.out
        rw [h1] at h2
        have h3 := h2.nil rfl
        rw [h3.1, ← HTN.out] at h2
        have := dst_end h2
        unfold decT
        rw [← HTL.out]; exact this
      go_wp2
      refine bodyPost_ret (results_tmp3 rfl _ _ _) rfl ?_
      exact ⟨_, P, 0, 0, rfl, ⟨HO.out.row elR, fun p hp => (HNM.out p hp).1⟩, HF.out, bel3K HB1.out HB.out⟩
end Go.Proofs.YtdamhdceajmdfaaDoor
