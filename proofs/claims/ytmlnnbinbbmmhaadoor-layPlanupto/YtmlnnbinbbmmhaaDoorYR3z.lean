import Derived.Test.YtmlnnbinbbmmhaaDoorYR2z
import Derived.Test.YtmlnnbinbbmmhaaDoorM2

-- The document's Plan.
namespace Go.Proofs.YtmlnnbinbbmmhaaDoor
open Go.ChangeShapes Go.WideShapes Go.ChangeAt Go.RowKit
set_option linter.unusedVariables false
set_option maxRecDepth 100000
theorem ownF_own {α : Type} {c : α → List Value} {z e B : Nat} {F : Nat → Prop} {w : World} {v : Value} {L : List α} (h : OwnF F c z e w v L) (hB : ∀ b, F b → B ≤ b) : w.ownsRow B e z v L.length (L.flatMap c) := by
  refine ⟨h.1.1, ?_⟩
  rcases h.1.2 with q | ⟨g, cap, cur, q1, q2, q3⟩
  · exact .inl q
  · exact .inr ⟨g, cap, cur, q1, hB g (h.2 g (by rw [q1]; rfl)), q3⟩
/-- what the document's Plan has made -/
structure RSt (w : World) (gx : Nat) (gn : Nat) (ns : Array Value) (tb : Int) (L : List Int) (wx : World) : Prop where
  b : Below w.heap.size w wx
  r0 : wx.heap[w.heap.size]? = some (.cells lay0 27 (0, 0))
  n0 : wx.heap[gn]? = some (.cells ns 36 (0, 0))
  l : ∃ ao n c, wx.heap[gx]? = some (.cells #[.slice ao n c, .int .i64 tb, .int .i64 0] 27 (0, 0)) ∧ OwnF (fun b => gx + 1 ≤ b) nmL 1 3 wx (.slice ao n c) L
  g1 : w.heap.size < gn
  g2 : gn < gx
section
variable {w : World} {gx gn : Nat} {ns : Array Value} {tb : Int} {L : List Int} {wx wy : World}
theorem RSt.on (h : RSt w gx gn ns tb L wx) (hb : Below wx.heap.size wx wy) : RSt w gx gn ns tb L wy := by
  obtain ⟨ao, n, c, h1, h2⟩ := h.l
  exact ⟨h.b.trans (hb.mono h.b.size), hkeepK hb h.r0, hkeepK hb h.n0, ⟨ao, n, c, hkeepK hb h1, h2.on hb⟩, h.g1, h.g2⟩
theorem RSt.push (h : RSt w gx gn ns tb L wx) {ao : Option Addr} {m c : Nat} (ho : OwnF (fun b => gx + 1 ≤ b) nmL 1 3 wx (.slice ao m c) L) {w9 Wz : World} {ao9 : Option Addr} {n9 c9 : Nat} {L' : List Int} (k9 : Kp (fun k => (Value.slice ao m c).ownBlock = some k) wx w9) (o9 : OwnF (fun b => gx + 1 ≤ b) nmL 1 3 w9 (.slice ao9 n9 c9) L')
    (hz : Wz.heap[gx]? = some (.cells #[.slice ao9 n9 c9, .int .i64 tb, .int .i64 0] 27 (0, 0))) (q : Kq gx w9 Wz) : RSt w gx gn ns tb L' Wz := by
  have g1 := h.g1
  have g2 := h.g2
  have kb : ∀ b, b ≤ gx → b < wx.heap.size → w9.heap[b]? = wx.heap[b]? := fun b hb hl => k9.block b hl (fun e => by have := ho.2 _ e; omega)
  have hb9 : Below w.heap.size w w9 := h.b.trans (k9.below (fun k hk => by have := ho.2 _ hk; omega) h.b.size)
  refine ⟨q.belowN hb9 (by omega) (Nat.le_refl _), q.keeps (by omega) ((kb _ (by omega) (Array.getElem?_eq_some_iff.1 h.r0).1).trans h.r0), q.keeps (by omega) ((kb _ (by omega) (Array.getElem?_eq_some_iff.1 h.n0).1).trans h.n0), ⟨ao9, n9, c9, hz, o9.keep (fun g hg => q.block g (fun e => by have := o9.2 _ hg; omega) (o9.lt g hg))⟩, h.g1, h.g2⟩
end
theorem iL_nil (k : Int) (LL : List ByteArray) (hk : k ≠ 2) (j : Nat) : isz (encA k LL).i j = 0 := by
  unfold isz encA
  split
  · split
    · show ((iL k LL).getD j ⟨#[]⟩).size = 0
      unfold iL
      by_cases hj : j < LL.length
      · rw [List.getD_eq_getElem?_getD, List.getElem?_map, List.getElem?_range hj]
        show (strL _).size = 0
        rw [strL_size]
        unfold iAt inlOf
        rw [if_neg (fun h => hk h.1)]
        rfl
      · rw [List.getD_eq_getElem?_getD, List.getElem?_eq_none (by simp; omega)]
        rfl
    · rfl
  · rfl
theorem pl_next {f : Nat → Int} {n j : Nat} (hj : j < n) : ((List.range n).map f).take (j + 1) = ((List.range n).map f).take j ++ [f j] := by
  rw [List.take_add_one, List.getElem?_map, List.getElem?_range hj]
  rfl
theorem em_size (t : ByteArray) : t.toList.isEmpty = decide (t.size = 0) := by
  rw [ByteArray.toList_eq]
  have e : t.data.toList.length = t.size := by simp
  cases h : t.data.toList with
  | nil => rw [h] at e; simp at e; simp [← e]
  | cons a r => rw [h] at e; simp at e; simp [← e]
set_option maxHeartbeats 8000000 in
theorem rplan_c (k ix : Int) (v : Value) (S : List Sp) (w : World) (hv : RowG enL w v S) (ht : tot (nmS S) ≤ 1099999) (hT : Tabs w) :
    Calls Tryd.prog 14 #[.int .i64 k, v, .int .i64 ix] w fun e w' => PlanSays (planA k S ix) w e w' := by
  obtain ⟨a1, c1, q1, hcap, hmx⟩ := hv.form
  obtain ⟨n, hnn⟩ : ∃ n, n = S.length := ⟨_, rfl⟩
  rw [← hnn] at q1 hcap
  subst q1
  have hlt := tot_len (nmS S)
  have hln : (nmS S).length = n := by unfold nmS; rw [List.length_map, hnn]
  rw [hln] at hlt
  have hn : n ≤ 1099999 := Nat.le_trans hlt ht
  obtain ⟨W0, hW0⟩ : ∃ x, x = w.alloc (.cells lay0 27) := ⟨_, rfl⟩
  have HB0 : Hid (Below w.heap.size w W0) := by rw [hW0]; exact bupK (Below.refl _ w) _
  have HX0 : Hid (W0.heap[w.heap.size]? = some (.cells lay0 27 (0, 0))) := by rw [hW0]; exact heap_alloc_new w _
  obtain ⟨kb, hkb⟩ : ∃ kb, kb = kindB k := ⟨_, rfl⟩
  obtain ⟨ok, hok⟩ : ∃ ok : Bool, ok = (kb && (!(decide (ix < -1)) && !(decide (ix > 9999999999)) && decide (n ≤ 65536))) := ⟨_, rfl⟩
  have HOK := hidK hok
  have HKN : Hid (Calls Tryd.prog 32 #[.int .i64 k] W0 fun e w' => e = .returned (.bool kb) ∧ w' = W0) := by rw [hkb]; exact known_c k W0
  have HNO : Hid (ok = false → planA k S ix = ⟨[], 0, 0, 12⟩) := fun h => by
    unfold planA
    rw [if_neg]
    rintro ⟨h1, h2, h3⟩
    have h4 : ¬ ix < -1 ∧ ¬ ix > 9999999999 := by
      rcases h2 with h2 | h2
      · omega
      · have := sizeB_iff.1 h2; omega
    rw [hok, hkb, h1] at h
    simp [h4.1, h4.2, hnn, h3] at h
  have HYE : Hid (ok = true → kindB k = true ∧ (ix = -1 ∨ sizeB ix = true) ∧ n ≤ 65536) := fun h => by
    rw [hok, hkb] at h
    simp only [Bool.and_eq_true, Bool.not_eq_true', decide_eq_false_iff_not, decide_eq_true_eq] at h
    refine ⟨h.1, ?_, h.2.2⟩
    by_cases hx : ix = -1
    · exact .inl hx
    · exact .inr (sizeB_iff.2 (by have := h.2.1; omega))
  have HV : Hid (∀ W, Below w.heap.size w W → RowG enL W (.slice a1 n c1) S) := fun W hb => hv.on hb
  have HTT := hidK hT
  have HT := hidK ht
  have HN := hidK hnn
  clear hv ht hT hnn hok hlt hln hkb
  go_enter Tryd.func14, Tryd.ntmps14
  go_upto_region 1 with fail
  rw [← hW0]
  clear hW0
  go_upto_region 2 with (go_at_call 32; refine HKN.out.mono ?_; rintro e w1 ⟨rfl, hw1⟩; subst w1)
  go_cut [31] from 17 to 30 (fun s31 wx => s31 = .bool (!ok) ∧ wx = W0)
  case first =>
    have hnI : (n : Int) ≤ 1099999 := by omega
    cases kb with
    | false =>
      have HR : Hid (ok = false) := by show ok = false; rw [HOK.out]; rfl
      go_wp2
      go_meet
      case rel => exact ⟨by rw [HR.out]; rfl, rfl⟩
    | true =>
      by_cases h1 : ix < -1
      · have HR : Hid (ok = false) := by show ok = false; rw [HOK.out]; simp [h1]
        go_wp2
        go_meet
        case rel => exact ⟨by rw [HR.out]; rfl, rfl⟩
      · by_cases h2 : ix > 9999999999
        · have HR : Hid (ok = false) := by show ok = false; rw [HOK.out]; simp [h2]
          go_wp2
          go_meet
          case rel => exact ⟨by rw [HR.out]; rfl, rfl⟩
        · by_cases h3 : n ≤ 65536
          · have HR : Hid (ok = true) := by show ok = true; rw [HOK.out]; simp [h1, h2, h3]
            have hI : ¬ ((n : Int) > 65536) := by omega
            clear h3
            go_wp2
            go_meet
            case rel => exact ⟨by rw [HR.out]; first | rfl | exact congrArg Value.bool (decide_eq_false (by omega)), rfl⟩
          · have HR : Hid (ok = false) := by show ok = false; rw [HOK.out]; simp [h3]
            have hI : ((n : Int) > 65536) := by omega
            clear h3
            go_wp2
            go_meet
            case rel => exact ⟨by rw [HR.out]; first | rfl | exact congrArg Value.bool (decide_eq_true (by omega)), rfl⟩
  case rest =>
    obtain ⟨rfl, hwc⟩ := hcut
    subst hwc
    clear HOK HKN
    cases hok : ok with
    | false =>
      have HANS := hidK (HNO.out hok)
      clear hok HNO HYE
      go_wp2_with (refine wpList_store_kz rfl rfl _ _ _ rfl w.heap.size 0 (.agg #[.slice none 0 0, .int .i64 0, .int .i64 0]) rfl rfl _ _ lay0 HX0.out (by kernel_rfl) rfl rfl rfl ?_; intro Wz hWz qz; have HQZ := hidK qz; clear qz)
      refine bodyPost_ret (results_cell_tmp_rowR rfl _ _ w.heap.size _ _ _ _ _ rfl rfl hWz Tryd.underlying27 rfl (by kernel_rfl)) rfl ?_
      rw [HANS.out]
      exact planNo 12 (HQZ.out.belowN HB0.out (Nat.le_refl _) (Nat.le_refl _))
    | true =>
      obtain ⟨hk, hix, hnn⟩ := HYE.out hok
      clear HNO HYE hok
      have HNM := hidK (namesOf_c (.slice a1 n c1) S wc (HV.out wc HB0.out) (by rw [← HN.out]; exact hn))
      go_upto_region 5 with (go_at_call 33; refine HNM.out.mono ?_; rintro e w1 ⟨u, rfl, ho, hb1⟩; have HO1 := hidK ho; have HB1 := hidK hb1; clear ho hb1)
      have HBW1 : Hid (Below w.heap.size w w1) := HB0.out.trans (HB1.out.mono HB0.out.size)
      have HX1 := hidK (hkeepK HB1.out HX0.out)
      have HEN := hidK (rencA_c k u (nmS S) w1 (rowS_of (OwnF.row elTy HO1.out)) HT.out (HTT.out.on HBW1.out))
      clear HNM HB0 HX0
      go_upto_region 6 with (go_at_call 34; refine HEN.out.mono ?_; rintro e w2 ⟨fa, fl, fc, ia, il, ic, rfl, q1, q2, hb2, q3, q4⟩; have HQ2 := hidK q2; have HB2 := hidK hb2; clear q1 q2 q3 q4 hb2)
      obtain ⟨w3, hw3⟩ : ∃ x, x = w2.alloc (.cells #[.slice fa fl fc, .slice ia il ic, .string (encA k (nmS S)).t] 36) := ⟨_, rfl⟩
      have hb3 : Below w2.heap.size w2 w3 := by rw [hw3]; exact (Below.refl _ _).alloc (Nat.le_refl _) _
      have hz3 : w3.heap[w2.heap.size]? = some (.cells #[.slice fa fl fc, .slice ia il ic, .string (encA k (nmS S)).t] 36 (0, 0)) := by rw [hw3]; exact heap_alloc_new _ _
      have HB23 : Hid (Below w1.heap.size w1 w3) := HB2.out.trans (hb3.mono HB2.out.size)
      have HB3 : Hid (Below w.heap.size w w3) := HBW1.out.trans (HB23.out.mono HBW1.out.size)
      have HX3 := hidK (hkeepK HB23.out HX1.out)
      have HQ3 := hidK (HQ2.out.onY hb3)
      have HZ3 := hidK hz3
      have HG2 : Hid (w.heap.size < w2.heap.size) := by
        have := (Array.getElem?_eq_some_iff.1 (hkeepK HB2.out HX1.out)).1
        exact this
      have HS3 : Hid (w2.heap.size < w3.heap.size) := (Array.getElem?_eq_some_iff.1 hz3).1
      rw [← hw3]
      clear hw3 hb3 hz3 HEN HQ2 HB2 HBW1 HX1 HO1 HB1
      by_cases he : (encA k (nmS S)).e = 0
      · have hI := encA_i_len k (nmS S) he
        rw [show (nmS S).length = S.length by unfold nmS; rw [List.length_map]] at hI
        have HPL : Hid (planA k S ix = if sizesB S (encA k (nmS S)).i = true then layN k S ix (encA k (nmS S)) else ⟨[], 0, 0, 100⟩) := by
          show _ = _
          unfold planA
          rw [if_pos ⟨hk, hix, by rw [← HN.out]; exact hnn⟩, if_pos he]
        have htl : (encA k (nmS S)).t.size ≤ 67108864 := by
          have := encA_t_le k (nmS S)
          have := HT.out
          omega
        have HAS := hidK (sized_c k (.slice a1 n c1) S fa ia fl fc il ic (encA k (nmS S)).t (encA k (nmS S)).i w3 (HV.out w3 HB3.out) HQ3.out hI (by rw [← HN.out]; omega) htl (fun j => Nat.le_trans (inl_size k (nmS S) j) HT.out) (fun j hj => iL_nil k (nmS S) hj j))
        have z0 := cell_rowK HZ3.out 0 _ rfl
        have z1 := cell_rowK HZ3.out 1 _ rfl
        have z2 := cell_rowK HZ3.out 2 _ rfl
        rw [he]
        clear he
        obtain ⟨E, hE⟩ : ∃ E, E = encA k (nmS S) := ⟨_, rfl⟩
        have HIZ : Hid (∀ j, isz E.i j ≤ 1099999) := fun j => by rw [hE]; exact Nat.le_trans (inl_size k (nmS S) j) HT.out
        rw [← hE] at HPL HAS hI HZ3 HQ3 z0 z1 z2 htl
        clear hE
        have HII := hidK hI
        clear hI
        cases hsz : sizesB S E.i with
        | false =>
          rw [hsz] at HAS HPL
          rw [if_neg (by decide)] at HPL
          clear hsz
          go_wp2_with (first
            | (go_at_call 35; refine HAS.out.mono ?_; rintro e w5 ⟨rfl, hb5⟩; have HB5 := hidK hb5; clear hb5)
            | (refine wpList_store_kz rfl rfl _ _ _ rfl w.heap.size 0 (.agg #[.slice none 0 0, .int .i64 0, .int .i64 0]) rfl rfl _ _ lay0 (hkeepK HB5.out HX3.out) (by kernel_rfl) rfl rfl rfl ?_; intro Wz hWz qz; have HQZ := hidK qz; clear qz))
          refine bodyPost_ret (results_cell_tmp_rowR rfl _ _ w.heap.size _ _ _ _ _ rfl rfl hWz Tryd.underlying27 rfl (by kernel_rfl)) rfl ?_
          rw [HPL.out]
          exact planNo 100 (HQZ.out.belowN (HB3.out.trans (HB5.out.mono HB3.out.size)) (Nat.le_refl _) (Nat.le_refl _))
        | true =>
          rw [hsz] at HAS HPL
          rw [if_pos rfl] at HPL
          have HS := hidK hsz
          clear hsz
          obtain ⟨aoi, cpi, eui⟩ := HQ3.out.form
          injection eui with eu1 eu2 eu3
          have hil : n = il := by have := HII.out; have := HN.out; omega
          subst hil
          clear eu1 eu2 eu3
          go_upto_region 11 with (go_at_call 35; refine HAS.out.mono ?_; rintro e w5 ⟨rfl, hb5⟩; have HB5 := hidK hb5; clear hb5)
          have HBW5 : Hid (Below w.heap.size w w5) := HB3.out.trans (HB5.out.mono HB3.out.size)
          have HX5 := hidK (hkeepK HB5.out HX3.out)
          have HZ5 := hidK (hkeepK HB5.out HZ3.out)
          have HG5 : Hid (w2.heap.size < w5.heap.size) := Nat.lt_of_lt_of_le HS3.out HB5.out.size
          have HUQ : Hid (∀ W, Below w5.heap.size w5 W → RowS W (.slice ia n ic) E.i) := fun W hb => (HQ3.out.onY HB5.out).onY hb
          have y0 := cell_rowK HZ5.out 0 _ rfl
          have y1 := cell_rowK HZ5.out 1 _ rfl
          have y2 := cell_rowK HZ5.out 2 _ rfl
          clear z0 z1 z2 HAS HX3 HZ3 HB3 HB5 HS3 HQ3
          have HRE : Hid (∀ (n : Int) (w : World), 0 ≤ n → n ≤ 4611686018427387904 → Calls Tryd.prog 36 #[.int .i64 n] w fun e w' => e = .returned (.int .i64 (evN n)) ∧ w' = w) := reven_c
          obtain ⟨h1, hh1⟩ : ∃ h1 : Int, h1 = 8 + if ix = -1 then 0 else roomN ix := ⟨_, rfl⟩
          go_upto_if 53 with fail
          go_cut [12] from 53 to 58 (fun s12 wx => s12 = .int .i64 h1 ∧ wx = w5)
          case first =>
            by_cases hx : ix = -1
            · have hh2 : Hid (h1 = 8) := by rw [hh1, if_pos hx]; exact rfl
              subst hx
              clear hh1
              go_wp2
              go_meet
              case rel => exact ⟨by rw [hh2.out], rfl⟩
            · have hxs : 0 ≤ ix ∧ ix ≤ 9999999999 := by
                rcases hix with q | q
                · exact absurd q hx
                · exact sizeB_iff.1 q
              have hxg : ix ≥ 0 := hxs.1
              have HRX : Hid (∀ w, Calls Tryd.prog 36 #[.int .i64 ix] w fun e w' => e = .returned (.int .i64 (evN ix)) ∧ w' = w) := fun w => HRE.out ix w hxs.1 (by omega)
              have hev := evN_nn hxs.1
              have hsum : IntKind.i64.wrap (68 + evN ix) = 68 + evN ix := by rw [IntKind.wrap_i64]; omega
              have hh2 : Hid (h1 = 68 + evN ix) := by show _ = _; rw [hh1, if_neg hx]; unfold roomN; omega
              clear hev hxs hh1
              go_wp2_with (go_at_call 36; refine (HRX.out _).mono ?_; rintro e w5 ⟨rfl, hw5⟩; subst w5)
              go_meet
              case rel => exact ⟨by rw [hh2.out], rfl⟩
          case rest =>
            obtain ⟨rfl, hwd⟩ := hcut
            rw [hwd]
            clear hwd
            have hb1 : 8 ≤ h1 ∧ h1 ≤ 10000000070 := by
              rw [hh1]
              rcases hix with q | q
              · rw [if_pos q]; omega
              · have q2 := sizeB_iff.1 q
                rw [if_neg (by omega)]
                have := evN_nn q2.1
                unfold roomN
                omega
            obtain ⟨h2, hh2⟩ : ∃ h2 : Int, h2 = headN ix E.t.size := ⟨_, rfl⟩
            have hh3 : h2 = h1 + if 0 < E.t.size then roomN (E.t.size : Int) else 0 := by rw [hh2, hh1]; exact rfl
            have HH2 := hidK hh2
            clear hh1 hh2
            go_upto_if 61 with fail
            go_cut [12] from 61 to 68 (fun s12 wx => s12 = .int .i64 h2 ∧ wx = w5)
            case first =>
              by_cases hx : 0 < E.t.size
              · have HRX : Hid (∀ w, Calls Tryd.prog 36 #[.int .i64 E.t.size] w fun e w' => e = .returned (.int .i64 (evN E.t.size)) ∧ w' = w) := fun w => HRE.out E.t.size w (by omega) (by omega)
                have hev := evN_nn (show (0 : Int) ≤ (E.t.size : Int) by omega)
                have hsum0 : IntKind.i64.wrap (h1 + 60) = h1 + 60 := by rw [IntKind.wrap_i64]; omega
                have hsum : IntKind.i64.wrap (h1 + 60 + evN E.t.size) = h1 + 60 + evN E.t.size := by rw [IntKind.wrap_i64]; omega
                have hh4 : Hid (h2 = h1 + 60 + evN E.t.size) := by show _ = _; rw [hh3, if_pos hx]; unfold roomN; omega
                have hne : E.t.toList.isEmpty = false := by rw [em_size]; exact decide_eq_false (by omega)
                clear hev hh3
                simp only [hne, Bool.not_false]
                go_wp2_with (go_at_call 36; refine (HRX.out _).mono ?_; rintro e w6 ⟨rfl, hw6⟩; subst w6)
                go_meet
                case rel => exact ⟨by rw [hh4.out], rfl⟩
              · have hne : E.t.toList.isEmpty = true := by rw [em_size]; exact decide_eq_true (by omega)
                have hh4 : Hid (h2 = h1) := by show _ = _; rw [hh3, if_neg hx]; omega
                clear hh3
                simp only [hne, Bool.not_true]
                go_wp2
                go_meet
                case rel => exact ⟨by rw [hh4.out], rfl⟩
            case rest =>
              obtain ⟨rfl, hwd⟩ := hcut
              rw [hwd]
              clear hwd hb1 hh3
              obtain ⟨f, hf⟩ : ∃ f, f = plN k S E.i (headN ix E.t.size) := ⟨_, rfl⟩
              have HSZ : Hid (∀ j, j < n → (0 ≤ spz S j ∧ spz S j ≤ 9999999999) ∧ 0 ≤ (isz E.i j : Int) + spz S j ∧ (isz E.i j : Int) + spz S j ≤ 9999999999) := fun j hj => sizes_at HS.out (by rw [← HN.out]; exact hj)
              have HF0 : Hid (h2 = f 0) := by show _ = _; rw [HH2.out, hf]; rfl
              have HFS : Hid (∀ j, f (j + 1) = f j + bodyN k (isz E.i j) (spz S j)) := fun j => by rw [hf]; exact rfl
              have HFL : Hid (∀ j, j ≤ n → 0 ≤ f j ∧ f j ≤ 1000000000000000) := fun j hj => by
                have hh := headN_le hix htl
                have := plN_le (k := k) (t0 := headN ix E.t.size) (by omega) HS.out j (by rw [← HN.out]; exact hj)
                rw [← hf] at this
                omega
              have HFF := hidK hf
              obtain ⟨w6, hw6⟩ : ∃ x, x = w5.alloc (.cells #[.slice none 0 0, .int .i64 E.t.size, .int .i64 0] 27) := ⟨_, rfl⟩
              have HR6 : Hid (RSt w w5.heap.size w2.heap.size #[.slice fa fl fc, .slice ia n ic, .string E.t] (E.t.size : Int) [] w6) := by
                rw [hw6]
                exact ⟨bupK HBW5.out _, hupK HX5.out _, hupK HZ5.out _, ⟨none, 0, 0, heap_alloc_new w5 _, OwnF.nil⟩, HG2.out, HG5.out⟩
              have HB6 : Hid (Below w5.heap.size w5 w6) := by rw [hw6]; exact bupK (Below.refl _ _) _
              clear hf HH2 HS
              go_upto_region 17 with fail
              rw [← hw6]
              clear hw6 y0 y1 y2 HX5 HZ5 HBW5
              go_wp2
              go_loopw [12, 14] (fun t0 i wx => ∃ j : Nat, i = .int .i64 j ∧ j ≤ n ∧ t0 = .int .i64 (f j) ∧ RSt w w5.heap.size w2.heap.size #[.slice fa fl fc, .slice ia n ic, .string E.t] (E.t.size : Int) (((List.range n).map f).take j) wx ∧ Below w5.heap.size w5 wx) (fun _ i _ => n - (intOf i).toNat)
              case atStart => exact ⟨0, rfl, Nat.zero_le _, by rw [HF0.out], HR6.out, HB6.out⟩
              case round =>
                obtain ⟨j, rfl, hjn, rfl, hR, hB⟩ := hrel
                obtain ⟨wo, hwo⟩ : ∃ y, y = wr := ⟨_, rfl⟩
                subst hwo
                have HR := hidK hR
                have HB := hidK hB
                clear HR6 HB6 HF0
                by_cases hj : j < n
                · have jI : (j : Int) < (n : Int) := by omega
                  have j0 : (0 : Int) ≤ (j : Int) := by omega
                  have jw : IntKind.i64.wrap ((j : Int) + 1) = (j : Int) + 1 := by rw [IntKind.wrap_i64]; omega
                  obtain ⟨ao, m, c, hl, hown⟩ := hR.l
                  have l0 := cell_rowK hl 0 _ rfl
                  have hnx := pl_next (f := f) hj
                  have HNX := hidK hnx
                  have HOW := hidK hown
                  have HL := hidK hl
                  have HSM : Hid (((((List.range n).map f).take j).length + 1) * (8 + 1) ≤ 140737488355328) := by show _ ≤ _; rw [List.length_take]; omega
                  have hlx : w5.heap.size < wo.heap.size := (Array.getElem?_eq_some_iff.1 hl).1
                  have HLX := hidK hlx
                  clear hl hown hnx hlx hR
                  go_upto_region 21 with (first
                    | (at_builtin; refine wpG_one (F := fun b => w5.heap.size + 1 ≤ b) elIy rfl (.tmp 80) (.tmp 82) rfl (.slice ao m c) (((List.range n).map f).take j) (f j) #[.int .i64 (f j)] rfl rfl rfl HOW.out (nmL_one _) HSM.out (fun b hb => by have := HLX.out; omega) ?_; intro v9 w9 o9 k9 l9; obtain ⟨ao9, c9, e9, _⟩ := ownG_form 1 o9.1; obtain ⟨n9, hn9⟩ : ∃ q, q = (((List.range n).map f).take j ++ [f j]).length := ⟨_, rfl⟩; rw [← hn9] at e9; clear hn9; subst e9; have HO9 := hidK o9; have HK9 := hidK k9; clear o9 k9 l9)
                    | (refine wpList_store_kz rfl rfl _ _ _ rfl w5.heap.size 0 (.slice ao9 n9 c9) rfl rfl _ _ #[.slice ao9 n9 c9, .int .i64 E.t.size, .int .i64 0] ((HK9.out.block w5.heap.size HLX.out (fun e => by have := HOW.out.2 _ e; omega)).trans HL.out) (by kernel_rfl) rfl rfl rfl ?_; intro Wz hWz qz; have HWZ := hidK hWz; have HQZ := hidK qz; clear hWz qz))
                  have hR := HR.out.push HOW.out HK9.out HO9.out HWZ.out HQZ.out
                  rw [← HNX.out] at hR
                  have HBz : Hid (Below w5.heap.size w5 Wz) := HQZ.out.belowN (HB.out.trans (HK9.out.below (fun k hk => by have := HOW.out.2 _ hk; omega) HB.out.size)) (Nat.le_refl _) (Nat.le_refl _)
                  have HRZ := hidK hR
                  obtain ⟨⟨nm, z⟩, hx⟩ : ∃ x, S[j]? = some x := ⟨_, List.getElem?_eq_getElem (by have := HN.out; omega)⟩
                  have hzz := spz_at hx
                  simp only at hzz
                  obtain ⟨b1, o1, p1, e1, d0, d1⟩ := (HV.out Wz hR.b).en hx
                  injection e1 with e1 e1b e1c
                  subst e1
                  simp only at d0 d1
                  have hsz := HSZ.out j hj
                  rw [hzz] at hsz
                  have hfs := HFS.out j
                  rw [hzz] at hfs
                  obtain ⟨b2, o2, p2, e2, g0⟩ := (HUQ.out Wz HBz.out).getY (j := j) (by rw [HII.out, ← HN.out]; exact hj)
                  injection e2 with e2 e2b e2c
                  subst e2
                  obtain ⟨s, hs⟩ : ∃ s, s = E.i.getD j .empty := ⟨_, rfl⟩
                  rw [← hs] at g0
                  have hisz : isz E.i j = s.size := by rw [hs]; rfl
                  rw [hisz] at hsz hfs
                  have hfb := HFL.out j hjn
                  have hfb2 := HFL.out (j + 1) hj
                  have m1 := cell_rowK hR.n0 1 _ rfl
                  have hs60 : IntKind.i64.wrap (f j + 60) = f j + 60 := by rw [IntKind.wrap_i64]; omega
                  clear hx e1b e1c e2b e2c hs hzz hisz hR HWZ HQZ HK9 HO9 HOW HL HR HNX HSM HLX d0 l0
                  by_cases hk1 : k = 1
                  · subst hk1
                    have hfe : Hid (f (j + 1) = f j + 60) := by show _ = _; rw [hfs]; unfold bodyN; rw [if_pos rfl]
                    clear hfs g0 d1 m1 hfb hfb2
                    go_wp2
                    go_roundw
                    case rel => exact ⟨j + 1, by go_num, by omega, by rw [hfe.out], HRZ.out, HBz.out⟩
                    case measure => simp [intOf]; omega
                  · have hkb : (k != 1) = true := by simp [hk1]
                    have hev := evN_nn (show (0 : Int) ≤ (s.size : Int) + z by omega)
                    have hfe : f (j + 1) = f j + 60 + evN ((s.size : Int) + z) := by rw [hfs]; unfold bodyN roomN; rw [if_neg hk1]; omega
                    have HRX : Hid (∀ w, Calls Tryd.prog 36 #[.int .i64 ((s.size : Int) + z)] w fun e w' => e = .returned (.int .i64 (evN ((s.size : Int) + z))) ∧ w' = w) := fun w => HRE.out _ w (by omega) (by omega)
                    have hsum1 : IntKind.i64.wrap ((s.size : Int) + z) = (s.size : Int) + z := by rw [IntKind.wrap_i64]; omega
                    have hsum : IntKind.i64.wrap (f j + 60 + evN ((s.size : Int) + z)) = f j + 60 + evN ((s.size : Int) + z) := by rw [IntKind.wrap_i64]; omega
                    have HFE := hidK hfe
                    have HRW : Hid (∀ q, RSt w w5.heap.size w2.heap.size #[.slice fa fl fc, .slice (some ⟨b2, o2, none⟩) n ic, .string E.t] (E.t.size : Int) (((List.range n).map f).take (j + 1)) (Wz.drewN q)) := fun q => HRZ.out.on (below_drewY (Below.refl _ _) q)
                    have HBW : Hid (∀ q, Below w5.heap.size w5 (Wz.drewN q)) := fun q => below_drewY HBz.out q
                    clear hfs hfe hev hfb hfb2 hsz
                    go_upto_region 23 with fail
                    go_quiet (first | (go_at_call 36; exact Calls.quiet_of_same (HRX.out _)))
                    go_wp2
                    go_roundw
                    case rel => exact ⟨j + 1, by go_num, by omega, by rw [HFE.out], HRW.out _, HBW.out _⟩
                    case measure => simp [intOf]; omega
                · obtain rfl : j = n := by omega
                  obtain ⟨ao, m, c, hl, hown⟩ := hR.l
                  have hml : j = m := by
                    obtain ⟨ao9, c9, e9, _⟩ := ownG_form 1 hown.1
                    injection e9 with _ e9 _
                    rw [e9, List.length_take, List.length_map, List.length_range]
                    omega
                  have hTK : ((List.range j).map f).take j = (List.range j).map f := by rw [List.take_of_length_le]; simp
                  rw [hTK] at hown
                  subst hml
                  have HOW := hidK hown
                  have HL := hidK hl
                  have HG1 : Hid (w.heap.size ≠ w5.heap.size ∧ w.heap.size ≤ w5.heap.size) := ⟨by have := hR.g1; have := hR.g2; omega, by have := hR.g1; have := hR.g2; omega⟩
                  clear hl hown hTK hR
                  go_upto_region 25 with (refine wpList_store_kz rfl rfl _ _ _ rfl w5.heap.size 2 (.int .i64 (f j)) rfl rfl _ _ #[.slice ao j c, .int .i64 E.t.size, .int .i64 (f j)] HL.out (by kernel_rfl) rfl rfl rfl ?_; intro W1 h1 q1; have HW1 := hidK h1; have HQ1 := hidK q1; clear h1 q1)
                  have l0 := cell_rowK HW1.out 0 _ rfl
                  have l1 := cell_rowK HW1.out 1 _ rfl
                  have l2 := cell_rowK HW1.out 2 _ rfl
                  have HR1 := hidK (HQ1.out.keeps HG1.out.1 HR.out.r0)
                  have HB1 : Hid (Below w.heap.size w W1) := HQ1.out.belowN HR.out.b HG1.out.2 (Nat.le_refl _)
                  have HO1 := hidK (HOW.out.keep (fun g hg => HQ1.out.block g (fun e => by have := HOW.out.2 _ hg; omega) (HOW.out.lt g hg)))
                  go_wp2_with (refine wpList_store_kz rfl rfl _ _ _ rfl w.heap.size 0 (.agg #[.slice ao j c, .int .i64 E.t.size, .int .i64 (f j)]) rfl rfl _ _ #[.slice ao j c, .int .i64 E.t.size, .int .i64 (f j)] HR1.out (by kernel_rfl) rfl rfl rfl ?_; intro Wz hWz qz; have HQZ := hidK qz; clear qz)
                  refine bodyPost_ret (results_cell_tmp_rowR rfl _ _ w.heap.size _ _ _ _ _ rfl rfl hWz Tryd.underlying27 rfl (by kernel_rfl)) rfl ?_
                  have ho := HO1.out.keep (fun g hg => HQZ.out.block g (fun e => by have := HO1.out.2 _ hg; have := HG1.out.2; omega) (HO1.out.lt g hg))
                  have hw := ownF_own (B := w.heap.size) ho (fun b hb => by have hb' : w5.heap.size + 1 ≤ b := hb; have := HG1.out.2; omega)
                  rw [HPL.out]
                  refine ⟨ao, j, c, ?_, ?_, ?_, HQZ.out.belowN HB1.out (Nat.le_refl _) (Nat.le_refl _)⟩
                  · unfold layN
                    rw [← HN.out, ← HFF.out]
                    rfl
                  · unfold layN
                    rw [← HN.out, ← HFF.out]
                    exact hw
                  · unfold layN
                    rw [← HN.out]
                    simp
      · have HPL : Hid (planA k S ix = ⟨[], 0, 0, (encA k (nmS S)).e⟩) := by
          show _ = _
          unfold planA
          rw [if_pos ⟨hk, hix, by rw [← HN.out]; exact hnn⟩, if_neg he]
        obtain ⟨x, hx⟩ : ∃ x, x = (encA k (nmS S)).e := ⟨_, rfl⟩
        rw [← hx] at HPL he ⊢
        clear hx
        have hxb : (x != 0) = true := by simp [he]
        clear he
        go_wp2_with (refine wpList_store_kz rfl rfl _ _ _ rfl w.heap.size 0 (.agg #[.slice none 0 0, .int .i64 0, .int .i64 0]) rfl rfl _ _ lay0 HX3.out (by kernel_rfl) rfl rfl rfl ?_; intro Wz hWz qz; have HQZ := hidK qz; clear qz)
        refine bodyPost_ret (results_cell_tmp_rowR rfl _ _ w.heap.size _ _ _ _ _ rfl rfl hWz Tryd.underlying27 rfl (by kernel_rfl)) rfl ?_
        rw [HPL.out]
        exact planNo x (HQZ.out.belowN HB3.out (Nat.le_refl _) (Nat.le_refl _))
end Go.Proofs.YtmlnnbinbbmmhaaDoor
