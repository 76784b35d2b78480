
-- lay.Plan.
import Derived.Test.YtmlnnbinbbmmhaaDoorYF0
import Derived.Test.YtmlnnbinbbmmhaaDoorYB
import Derived.Test.YtmlnnbinbbmmhaaDoorYE
namespace Go.Proofs.YtmlnnbinbbmmhaaDoor
open Go.ChangeShapes Go.WideShapes Go.ChangeAt Go.RowKit
set_option linter.unusedVariables false
set_option maxRecDepth 100000
set_option maxHeartbeats 4000000 in
theorem plan_c (k ix : Int) (v : Value) (S : List Sp) (w : World) (hv : RowG enL w v S) (ht : tot (nmS S) ≤ 1099999) (hT : Tabs w) :
    Calls Tryd.prog 7 #[.int .i64 k, v, .int .i64 ix] w fun e w' => PlanSays (planA k S ix) w e w' := by
  obtain ⟨a1, c1, q1, hcap, hmx⟩ := hv.form
  obtain ⟨n, hnn⟩ : ∃ n, n = S.length := ⟨_, rfl⟩
  rw [← hnn] at q1 hcap
  subst q1
  have hlt := tot_len (nmS S)
  have hln : (nmS S).length = n := by unfold nmS; rw [List.length_map, hnn]
  rw [hln] at hlt
  have hn : n ≤ 1099999 := Nat.le_trans hlt ht
  obtain ⟨W0, hW0⟩ : ∃ x, x = w.alloc (.cells lay0 27) := ⟨_, rfl⟩
  have HB0 : Hid (Below w.heap.size w W0) := by rw [hW0]; exact bupK (Below.refl _ w) _
  have HX0 : Hid (W0.heap[w.heap.size]? = some (.cells lay0 27 (0, 0))) := by rw [hW0]; exact heap_alloc_new w _
  obtain ⟨ok, hok⟩ : ∃ ok : Bool, ok = (kindB k && ((ix == -1) || sizeB ix) && decide (n ≤ 65536)) := ⟨_, rfl⟩
  have HOK := hidK hok
  have HKD : Hid (∀ w : World, Calls Tryd.prog 20 #[.int .i64 k] w fun e w' => e = .returned (.bool (kindB k)) ∧ w' = w) := fun w => isKind_c k w
  have HSX : Hid (∀ w : World, Calls Tryd.prog 21 #[.int .i64 ix] w fun e w' => e = .returned (.bool (sizeB ix)) ∧ w' = w) := fun w => isSize_c ix w
  have HNO : Hid (ok = false → planA k S ix = ⟨[], 0, 0, 12⟩) := fun h => by
    unfold planA
    rw [if_neg]
    rintro ⟨h1, h2, h3⟩
    rw [hok, h1] at h
    rcases h2 with h2 | h2
    · subst h2; simp [hnn, h3] at h
    · simp [h2, hnn, h3] at h
  have HYE : Hid (ok = true → kindB k = true ∧ (ix = -1 ∨ sizeB ix = true) ∧ n ≤ 65536) := fun h => by
    rw [hok] at h
    simp only [Bool.and_eq_true, Bool.or_eq_true, beq_iff_eq, decide_eq_true_eq] at h
    exact ⟨h.1.1, h.1.2, h.2⟩
  have HV : Hid (∀ W, Below w.heap.size w W → RowG enL W (.slice a1 n c1) S) := fun W hb => hv.on hb
  have HTT := hidK hT
  have HT := hidK ht
  have HN := hidK hnn
  clear hv ht hT hnn hok hlt hln
  go_enter Tryd.func7, Tryd.ntmps7
  go_upto_region 1 with fail
  rw [← hW0]
  clear hW0
  go_cut [26] from 10 to 25 (fun s26 wx => s26 = .bool (!ok) ∧ wx = W0)
  case first =>
    have hnI : (n : Int) ≤ 1099999 := by omega
    cases h1 : kindB k with
    | true =>
      have HK1 : Hid (∀ w : World, Calls Tryd.prog 20 #[.int .i64 k] w fun e w' => e = .returned (.bool true) ∧ w' = w) := fun w => by
        have := HKD.out w
        rw [h1] at this
        exact this
      by_cases h2 : ix = -1
      · subst h2
        have h2 : ((-1 : Int) == -1) = true := rfl
        by_cases h3 : n ≤ 65536
        · have hI : ¬ ((n : Int) > 65536) := by omega
          have HR : Hid (ok = true) := by show ok = true; rw [HOK.out, h1]; simp [h3]
          clear h3
          go_wp2_with (first
            | (go_at_call 20; refine (HK1.out _).mono ?_; rintro e w1 ⟨rfl, hw1⟩; subst w1))
          go_meet
          case rel => exact ⟨by rw [HR.out]; first | rfl | exact congrArg Value.bool (decide_eq_false (by omega)), rfl⟩
        · have hI : ((n : Int) > 65536) := by omega
          have HR : Hid (ok = false) := by show ok = false; rw [HOK.out, h1]; simp [h3]
          clear h3
          go_wp2_with (first
            | (go_at_call 20; refine (HK1.out _).mono ?_; rintro e w1 ⟨rfl, hw1⟩; subst w1))
          go_meet
          case rel => exact ⟨by rw [HR.out]; first | rfl | exact congrArg Value.bool (decide_eq_false (by omega)), rfl⟩
      · have h5 : (ix != -1) = true := by simp [h2]
        cases h4 : sizeB ix with
        | true =>
          have HS1 : Hid (∀ w : World, Calls Tryd.prog 21 #[.int .i64 ix] w fun e w' => e = .returned (.bool true) ∧ w' = w) := fun w => by
            have := HSX.out w
            rw [h4] at this
            exact this
          by_cases h3 : n ≤ 65536
          · have hI : ¬ ((n : Int) > 65536) := by omega
            have HR : Hid (ok = true) := by show ok = true; rw [HOK.out, h1]; simp [h3, h4]
            clear h3
            go_wp2_with (first
              | (go_at_call 20; refine (HK1.out _).mono ?_; rintro e w1 ⟨rfl, hw1⟩; subst w1)
              | (go_at_call 21; refine (HS1.out _).mono ?_; rintro e w1 ⟨rfl, hw1⟩; subst w1))
            go_meet
            case rel => exact ⟨by rw [HR.out]; first | rfl | exact congrArg Value.bool (decide_eq_false (by omega)), rfl⟩
          · have hI : ((n : Int) > 65536) := by omega
            have HR : Hid (ok = false) := by show ok = false; rw [HOK.out, h1]; simp [h3]
            clear h3
            go_wp2_with (first
              | (go_at_call 20; refine (HK1.out _).mono ?_; rintro e w1 ⟨rfl, hw1⟩; subst w1)
              | (go_at_call 21; refine (HS1.out _).mono ?_; rintro e w1 ⟨rfl, hw1⟩; subst w1))
            go_meet
            case rel => exact ⟨by rw [HR.out]; first | rfl | exact congrArg Value.bool (decide_eq_false (by omega)), rfl⟩
        | false =>
          have HS1 : Hid (∀ w : World, Calls Tryd.prog 21 #[.int .i64 ix] w fun e w' => e = .returned (.bool false) ∧ w' = w) := fun w => by
            have := HSX.out w
            rw [h4] at this
            exact this
          have HR : Hid (ok = false) := by show ok = false; rw [HOK.out, h1]; simp [h2, h4]
          go_wp2_with (first
            | (go_at_call 20; refine (HK1.out _).mono ?_; rintro e w1 ⟨rfl, hw1⟩; subst w1)
            | (go_at_call 21; refine (HS1.out _).mono ?_; rintro e w1 ⟨rfl, hw1⟩; subst w1))
          go_meet
          case rel => exact ⟨by rw [HR.out]; first | rfl | exact congrArg Value.bool (decide_eq_false (by omega)), rfl⟩
    | false =>
      have HK1 : Hid (∀ w : World, Calls Tryd.prog 20 #[.int .i64 k] w fun e w' => e = .returned (.bool false) ∧ w' = w) := fun w => by
        have := HKD.out w
        rw [h1] at this
        exact this
      have HR : Hid (ok = false) := by show ok = false; rw [HOK.out, h1]; simp
      go_wp2_with (first
        | (go_at_call 20; refine (HK1.out _).mono ?_; rintro e w1 ⟨rfl, hw1⟩; subst w1))
      go_meet
      case rel => exact ⟨by rw [HR.out]; first | rfl | exact congrArg Value.bool (decide_eq_false (by omega)), rfl⟩
  case rest =>
    obtain ⟨rfl, hwc⟩ := hcut
    subst hwc
    clear HKD HSX HOK
    cases hok : ok with
    | false =>
      have HANS := hidK (HNO.out hok)
      clear hok HNO HYE
      go_wp2_with (refine wpList_store_kz rfl rfl _ _ _ rfl w.heap.size 0 (.agg #[.slice none 0 0, .int .i64 0, .int .i64 0]) rfl rfl _ _ lay0 HX0.out (by kernel_rfl) rfl rfl rfl ?_; intro Wz hWz qz; have HQZ := hidK qz; clear qz)
      refine bodyPost_ret (results_cell_tmp_rowR rfl _ _ w.heap.size _ _ _ _ _ rfl rfl hWz Tryd.underlying27 rfl (by kernel_rfl)) rfl ?_
      rw [HANS.out]
      exact planNo 12 (HQZ.out.belowN HB0.out (Nat.le_refl _) (Nat.le_refl _))
    | true =>
      obtain ⟨hk, hix, hnn⟩ := HYE.out hok
      clear HNO HYE
      have HEN := hidK (encode_c k (.slice a1 n c1) S wc hk (HV.out wc HB0.out) HT.out (HTT.out.on HB0.out))
      go_upto_region 4 with (go_at_call 22; refine HEN.out.mono ?_; rintro e w2 ⟨fa, fl, fc, ia, il, ic, rfl, q1, q2, hb2, q3, q4⟩; have HQ2 := hidK q2; have HB2 := hidK hb2; clear q1 q2 q3 q4 hb2)
      obtain ⟨w3, hw3⟩ : ∃ x, x = w2.alloc (.cells #[.slice fa fl fc, .slice ia il ic, .string (encA k (nmS S)).t] 36) := ⟨_, rfl⟩
      have hb3 : Below w2.heap.size w2 w3 := by rw [hw3]; exact (Below.refl _ _).alloc (Nat.le_refl _) _
      have hz3 : w3.heap[w2.heap.size]? = some (.cells #[.slice fa fl fc, .slice ia il ic, .string (encA k (nmS S)).t] 36 (0, 0)) := by rw [hw3]; exact heap_alloc_new _ _
      have HB23 : Hid (Below wc.heap.size wc w3) := HB2.out.trans (hb3.mono HB2.out.size)
      have HB3 : Hid (Below w.heap.size w w3) := HB0.out.trans (HB23.out.mono HB0.out.size)
      have HX3 := hidK (hkeepK HB23.out HX0.out)
      have HQ3 := hidK (HQ2.out.onY hb3)
      have HZ3 := hidK hz3
      rw [← hw3]
      clear hw3 hb3 hz3 HEN HQ2 HB2 HB0 HX0
      by_cases he : (encA k (nmS S)).e = 0
      · have hI := encA_i_len k (nmS S) he
        rw [show (nmS S).length = S.length by unfold nmS; rw [List.length_map]] at hI
        have HPL : Hid (planA k S ix = if sizesB S (encA k (nmS S)).i = true then layN k S ix (encA k (nmS S)) else ⟨[], 0, 0, 100⟩) := by
          show _ = _
          unfold planA
          rw [if_pos ⟨hk, hix, by rw [← HN.out]; exact hnn⟩, if_pos he]
        have HAS := hidK (areSizes_c (.slice a1 n c1) (.slice ia il ic) S (encA k (nmS S)).i w3 (HV.out w3 HB3.out) HQ3.out hI (by rw [← HN.out]; omega) (fun j => Nat.le_trans (inl_size k (nmS S) j) HT.out))
        have HE0 := hidK he
        have z1 := cell_rowK HZ3.out 1 _ rfl
        rw [he]
        clear he
        obtain ⟨E, hE⟩ : ∃ E, E = encA k (nmS S) := ⟨_, rfl⟩
        have HTL : Hid (E.t.size ≤ 67108864) := by
          show _ ≤ _
          rw [hE]
          have := encA_t_le k (nmS S)
          have := HT.out
          omega
        rw [← hE] at HPL HAS hI HE0 HZ3 HQ3 z1
        clear hE
        have HII := hidK hI
        clear hI
        cases hsz : sizesB S E.i with
        | false =>
          rw [hsz] at HAS HPL
          rw [if_neg (by decide)] at HPL
          clear hsz
          go_wp2_with (first
            | (go_at_call 23; refine HAS.out.mono ?_; rintro e w5 ⟨rfl, hb5⟩; have HB5 := hidK hb5; clear hb5)
            | (refine wpList_store_kz rfl rfl _ _ _ rfl w.heap.size 0 (.agg #[.slice none 0 0, .int .i64 0, .int .i64 0]) rfl rfl _ _ lay0 (hkeepK HB5.out HX3.out) (by kernel_rfl) rfl rfl rfl ?_; intro Wz hWz qz; have HQZ := hidK qz; clear qz))
          refine bodyPost_ret (results_cell_tmp_rowR rfl _ _ w.heap.size _ _ _ _ _ rfl rfl hWz Tryd.underlying27 rfl (by kernel_rfl)) rfl ?_
          rw [HPL.out]
          exact planNo 100 (HQZ.out.belowN (HB3.out.trans (HB5.out.mono HB3.out.size)) (Nat.le_refl _) (Nat.le_refl _))
        | true =>
          rw [hsz] at HAS HPL
          rw [if_pos rfl] at HPL
          have HS := hidK hsz
          clear hsz
          go_upto_region 8 with (go_at_call 23; refine HAS.out.mono ?_; rintro e w5 ⟨rfl, hb5⟩; have HB5 := hidK hb5; clear hb5)
          have HBW5 : Hid (Below w.heap.size w w5) := HB3.out.trans (HB5.out.mono HB3.out.size)
          have HX5 := hidK (hkeepK HB5.out HX3.out)
          have hz5 := hkeepK HB5.out HZ3.out
          have y0 := cell_rowK hz5 0 _ rfl
          have y1 := cell_rowK hz5 1 _ rfl
          have y2 := cell_rowK hz5 2 _ rfl
          have HPC := hidK (place_c k ix (.slice a1 n c1) S fa ia fl fc il ic E.t E.i w5 (HV.out w5 HBW5.out) (HQ3.out.onY HB5.out) HII.out (by rw [← HN.out]; exact hnn) HS.out hix HTL.out)
          rw [← HN.out] at HPC
          clear z1 hz5 HAS
          go_wp2_with (first
            | (go_at_call 24; refine HPC.out.mono ?_; rintro e w6 ⟨g, rfl, hg, hgl, hb6⟩; have HG := hidK hg; have HGL := hidK hgl; have HB6 := hidK hb6; clear hg hgl hb6)
            | (refine wpList_store_kz rfl rfl _ _ _ rfl w.heap.size 0 (.agg #[.slice (some ⟨g, 0, none⟩) n n, .int .i64 E.t.size, .int .i64 (plN k S E.i (headN ix E.t.size) n)]) rfl rfl _ _ #[.slice (some ⟨g, 0, none⟩) n n, .int .i64 E.t.size, .int .i64 (plN k S E.i (headN ix E.t.size) n)] (hkeepK HB6.out HX5.out) (by kernel_rfl) rfl rfl rfl ?_; intro Wz hWz qz; have HQZ := hidK qz; clear qz))
          refine bodyPost_ret (results_cell_tmp_rowR rfl _ _ w.heap.size _ _ _ _ _ rfl rfl hWz Tryd.underlying27 rfl (by kernel_rfl)) rfl ?_
          rw [HPL.out]
          have hlt5 := (Array.getElem?_eq_some_iff.1 HX5.out).1
          have hgg := HGL.out
          have hown := intAt_own (B := w.heap.size) (f := plN k S E.i (headN ix E.t.size)) (n := n) (by omega) (by omega) (HQZ.out.keeps (by omega) HG.out)
          refine ⟨some ⟨g, 0, none⟩, n, n, ?_, ?_, ?_, HQZ.out.belowN (HBW5.out.trans (HB6.out.mono HBW5.out.size)) (Nat.le_refl _) (Nat.le_refl _)⟩
          · unfold layN
            rw [← HN.out]
            rfl
          · unfold layN
            rw [← HN.out]
            exact hown
          · unfold layN
            rw [← HN.out]
            simp
      · have HPL : Hid (planA k S ix = ⟨[], 0, 0, (encA k (nmS S)).e⟩) := by
          show _ = _
          unfold planA
          rw [if_pos ⟨hk, hix, by rw [← HN.out]; exact hnn⟩, if_neg he]
        obtain ⟨x, hx⟩ : ∃ x, x = (encA k (nmS S)).e := ⟨_, rfl⟩
        rw [← hx] at HPL he ⊢
        clear hx
        have hxb : (x != 0) = true := by simp [he]
        clear he
        go_wp2_with (refine wpList_store_kz rfl rfl _ _ _ rfl w.heap.size 0 (.agg #[.slice none 0 0, .int .i64 0, .int .i64 0]) rfl rfl _ _ lay0 HX3.out (by kernel_rfl) rfl rfl rfl ?_; intro Wz hWz qz; have HQZ := hidK qz; clear qz)
        refine bodyPost_ret (results_cell_tmp_rowR rfl _ _ w.heap.size _ _ _ _ _ rfl rfl hWz Tryd.underlying27 rfl (by kernel_rfl)) rfl ?_
        rw [HPL.out]
        exact planNo x (HQZ.out.belowN HB3.out (Nat.le_refl _) (Nat.le_refl _))
end Go.Proofs.YtmlnnbinbbmmhaaDoor
