import Derived.Test.YtmlnnbinbbmmhaaDoorM1
import Derived.Test.YtmlnnbinbbmmhaaDoorYF

-- LaySums' walk.
namespace Go.Proofs.YtmlnnbinbbmmhaaDoor
open Go.ChangeShapes Go.WideShapes Go.ChangeAt Go.RowKit
set_option linter.unusedVariables false
set_option maxRecDepth 100000
theorem PlanSays.rowS {A : Pa} {w w' : World} {e : Ending} (h : PlanSays A w e w') : ∃ ao n c, e = .returned (.tuple #[.agg #[.slice ao n c, .int .i64 A.tb, .int .i64 A.tt], .int .i64 A.e]) ∧ RowI w' (.slice ao n c) A.a ∧ Below w.heap.size w w' := by
  obtain ⟨ao, n, c, h1, h2, h3, h4⟩ := h
  exact ⟨ao, n, c, h1, rowG_own (by decide) nmL_len h2, h4⟩
def GoodS (S : List Sp) (j : Nat) : Prop := ∀ (i : Nat) (x : Sp), i < j → S[i]? = some x → validL x.1.data.toList = true ∧ withinB x.2 9998999999 = true ∧ x.1.size ≤ 60000
set_option maxHeartbeats 16000000 in
theorem laySums_w (k ix : Int) (v : Value) (S : List Sp) (w : World) (hv : RowG enL w v S) (ht : tot (nmS S) ≤ 1099999) (hT : Tabs w) :
    Calls Tryd.prog 4 #[.int .i64 k, v, .int .i64 ix] w fun e w' => e = .returned (.bool true) ∧ Below w.heap.size w w' := by
  obtain ⟨a1, c1, q1, hcap, hmx⟩ := hv.form
  obtain ⟨n, hnn⟩ : ∃ n, n = S.length := ⟨_, rfl⟩
  rw [← hnn] at q1 hcap
  subst q1
  by_cases hbig : n > 1000
  · have hI : ((n : Int) > 1000) := by omega
    clear hT ht hv
    go_enter Tryd.func4, Tryd.ntmps4
    go_wp2
    go_ret
    exact ⟨rfl, Below.refl _ _⟩
  have hI : ¬ ((n : Int) > 1000) := by omega
  have hn : n ≤ 1000 := by omega
  have HP := hidK ((plan_c k ix (.slice a1 n c1) S w hv ht hT).mono (fun e w' h => h.rowS))
  have HV : Hid (∀ W, Below w.heap.size w W → RowG enL W (.slice a1 n c1) S) := fun W hb => hv.on hb
  have HVA : Hid (∀ (j : Nat) (x : Sp) (W : World), S[j]? = some x → Calls Tryd.prog 8 #[.string x.1] W fun e w' => e = .returned (.bool (validL x.1.data.toList)) ∧ w' = W) := fun j x W hx => valid10_c x.1 W (by
    have h1 := size_tot (nmS S) j (by have := (List.getElem?_eq_some_iff.1 (nm_at hx)).1; exact this)
    rw [List.getD_eq_getElem?_getD, nm_at hx] at h1
    have h2 : x.1.size + 1 ≤ tot (nmS S) := h1
    unfold maxLen
    omega)
  have HWI : Hid (∀ (n m : Int) (w : World), Calls Tryd.prog 9 #[.int .i64 n, .int .i64 m] w fun e w' => e = .returned (.bool (withinB n m)) ∧ w' = w) := within10_c
  have HTT := hidK hT
  have HT := hidK ht
  have HN := hidK hnn
  obtain ⟨A, hA⟩ : ∃ A, A = planA k S ix := ⟨_, rfl⟩
  rw [← hA] at HP
  have HA := hidK hA
  clear hv ht hT hnn hbig hA
  go_enter Tryd.func4, Tryd.ntmps4
  go_upto_region 4 with (go_at_call 7; refine HP.out.mono ?_; rintro e w2 ⟨ao, m, c, rfl, hr, hb2⟩; have HRW2 := hidK hr; have HB2 := hidK hb2; clear hr hb2)
  obtain ⟨w3, hw3⟩ : ∃ x, x = w2.alloc (.cells #[.slice ao m c, .int .i64 A.tb, .int .i64 A.tt] 27) := ⟨_, rfl⟩
  have hb3 : Below w2.heap.size w2 w3 := by rw [hw3]; exact (Below.refl _ _).alloc (Nat.le_refl _) _
  have hz3 : w3.heap[w2.heap.size]? = some (.cells #[.slice ao m c, .int .i64 A.tb, .int .i64 A.tt] 27 (0, 0)) := by rw [hw3]; exact heap_alloc_new _ _
  have HB3 : Hid (Below w.heap.size w w3) := HB2.out.trans (hb3.mono HB2.out.size)
  have HZ3 := hidK hz3
  have HRW3 := hidK (HRW2.out.on hb3)
  rw [← hw3]
  clear hw3 hb3 hz3 HP HRW2 HB2
  go_cut [9] from 27 to 40 (fun s9 wx => ∃ b : Bool, s9 = .bool b ∧ (b = true → kindB k = true ∧ (ix = -1 ∨ sizeB ix = true)) ∧ wx = w3)
  case first =>
    by_cases h1 : k ≥ 0
    · by_cases h2 : k ≤ 2
      · by_cases h3 : ix ≥ -1
        · by_cases h4 : ix ≤ 9999999999
          · have HK : Hid (kindB k = true ∧ (ix = -1 ∨ sizeB ix = true)) := ⟨kindB_iff.2 (by omega), by
              by_cases hx : ix = -1
              · exact .inl hx
              · exact .inr (sizeB_iff.2 (by omega))⟩
            go_wp2
            go_meet
            case rel => exact ⟨true, by first | rfl | exact congrArg Value.bool (decide_eq_true (by omega)), fun _ => HK.out, rfl⟩
          · go_wp2
            go_meet
            case rel => exact ⟨false, by first | rfl | exact congrArg Value.bool (decide_eq_false (by omega)), (fun h => by cases h), rfl⟩
        · go_wp2
          go_meet
          case rel => exact ⟨false, by first | rfl | exact congrArg Value.bool (decide_eq_false (by omega)), (fun h => by cases h), rfl⟩
      · go_wp2
        go_meet
        case rel => exact ⟨false, by first | rfl | exact congrArg Value.bool (decide_eq_false (by omega)), (fun h => by cases h), rfl⟩
    · go_wp2
      go_meet
      case rel => exact ⟨false, by first | rfl | exact congrArg Value.bool (decide_eq_false (by omega)), (fun h => by cases h), rfl⟩
  case rest =>
    obtain ⟨b0, rfl, hb0, hwd⟩ := hcut
    rw [hwd]
    clear hwd
    have HB0 := hidK hb0
    clear hb0
    go_wp2
    go_loopw [9, 10] (fun o i wx => ∃ (j : Nat) (b : Bool), i = .int .i64 j ∧ j ≤ n ∧ o = .bool b ∧ (b = true → b0 = true ∧ GoodS S j) ∧ wx = w3) (fun _ i _ => n - (intOf i).toNat)
    case atStart => exact ⟨0, b0, rfl, Nat.zero_le _, rfl, fun h => ⟨h, fun i x hi => absurd hi (Nat.not_lt_zero _)⟩, rfl⟩
    case round =>
      obtain ⟨j, b, rfl, hjn, rfl, hg, hw⟩ := hrel
      rw [hw]
      clear hw
      have HG := hidK hg
      clear hg
      by_cases hj : j < n
      · have jI : (j : Int) < (n : Int) := by omega
        have j0 : (0 : Int) ≤ (j : Int) := by omega
        have jw : IntKind.i64.wrap ((j : Int) + 1) = (j : Int) + 1 := by rw [IntKind.wrap_i64]; omega
        obtain ⟨⟨nm, z⟩, hx⟩ : ∃ x, S[j]? = some x := ⟨_, List.getElem?_eq_getElem (by have := HN.out; omega)⟩
        obtain ⟨b1, o1, p1, e1, d0, d1⟩ := (HV.out w3 HB3.out).en hx
        injection e1 with e1 e1b e1c
        subst e1
        simp only at d0 d1
        have HC1 := hidK (HVA.out j (nm, z) w3 hx)
        have HC2 := hidK (HWI.out z 9998999999 w3)
        obtain ⟨b2, hb2⟩ : ∃ q, q = validL nm.data.toList := ⟨_, rfl⟩
        obtain ⟨b3, hb3⟩ : ∃ q, q = withinB z 9998999999 := ⟨_, rfl⟩
        simp only at HC1
        rw [← hb2] at HC1
        rw [← hb3] at HC2
        have HX := hidK hx
        have HB2 := hidK hb2
        have HB3' := hidK hb3
        clear hx e1b e1c hb2 hb3
        go_upto_region 10 with (first
          | (go_at_call 8; refine HC1.out.mono ?_; rintro e w5 ⟨rfl, hw5⟩; rw [hw5]; clear hw5)
          | (go_at_call 9; refine HC2.out.mono ?_; rintro e w5 ⟨rfl, hw5⟩; rw [hw5]; clear hw5))
        by_cases hz : (nm.size : Int) > 60000
        · go_wp2
          go_ret
          exact ⟨rfl, HB3.out⟩
        · have HNX : Hid ((b && (b2 && b3)) = true → b0 = true ∧ GoodS S (j + 1)) := fun h => by
            simp only [Bool.and_eq_true] at h
            obtain ⟨h1, h2, h3⟩ := h
            obtain ⟨g1, g2⟩ := HG.out h1
            refine ⟨g1, fun i x hi hxi => ?_⟩
            by_cases hij : i < j
            · exact g2 i x hij hxi
            · obtain rfl : i = j := by omega
              rw [HX.out] at hxi
              injection hxi with hxi
              subst hxi
              exact ⟨by rw [← HB2.out]; exact h2, by rw [← HB3'.out]; exact h3, by show nm.size ≤ 60000; omega⟩
          cases b with
          | false =>
            go_wp2
            go_roundw
            case rel => exact ⟨j + 1, false, by go_num, by omega, rfl, (fun h => by cases h), trivial⟩
            case measure => simp [intOf]; omega
          | true =>
            cases b2 with
            | false =>
              go_wp2
              go_roundw
              case rel => exact ⟨j + 1, false, by go_num, by omega, rfl, (fun h => by cases h), trivial⟩
              case measure => simp [intOf]; omega
            | true =>
              have hnx := hidK HNX.out
              clear HNX
              go_wp2
              go_roundw
              case rel => exact ⟨j + 1, b3, by go_num, by omega, rfl, (fun h => hnx.out (by rw [h]; rfl)), trivial⟩
              case measure => simp [intOf]; omega
      · obtain rfl : j = n := by omega
        clear HVA HWI
        cases b with
        | false =>
          go_wp2
          go_ret
          exact ⟨rfl, HB3.out⟩
        | true =>
          obtain ⟨g1, g2⟩ := HG.out rfl
          obtain ⟨hk, hix⟩ := HB0.out g1
          obtain ⟨he, hs, hpl⟩ := must_take hk hix (by rw [← HN.out]; omega) (fun i x hx => g2 i x (by have := (List.getElem?_eq_some_iff.1 hx).1; have := HN.out; omega) hx)
          have hAe := HA.out.trans hpl
          have HE := hidK (pencA_c k)
          have HNM := hidK (namesOf10_c (.slice a1 j c1) S w3 (HV.out w3 HB3.out) (by rw [← HN.out]; omega))
          have HEN : Hid (∀ (u : Value) (W : World), Below w.heap.size w W → RowT W u (nmS S) → Calls Tryd.prog 10 #[.int .i64 k, u] W fun e w' => EncSays (encA k (nmS S)) W e w') := fun u W hb hu => pencA_c k u (nmS S) W (rowS_of hu) HT.out (HTT.out.on hb)
          have hI := encA_i_len k (nmS S) he
          rw [show (nmS S).length = S.length by unfold nmS; rw [List.length_map], ← HN.out] at hI
          have htl : (encA k (nmS S)).t.size ≤ 67108864 := by
            have := encA_t_le k (nmS S)
            have := HT.out
            omega
          obtain ⟨E, hE⟩ : ∃ E, E = encA k (nmS S) := ⟨_, rfl⟩
          rw [← hE] at HEN hI htl hs hAe he
          obtain ⟨f, hf⟩ : ∃ f, f = plN k S E.i (headN ix E.t.size) := ⟨_, rfl⟩
          have hAf : A = ⟨(List.range j).map f, (E.t.size : Int), f j, 0⟩ := by rw [hAe]; unfold layN; rw [← HN.out, ← hf]
          have HSZ : Hid (∀ i, i < j → (0 ≤ spz S i ∧ spz S i ≤ 9999999999) ∧ 0 ≤ (isz E.i i : Int) + spz S i ∧ (isz E.i i : Int) + spz S i ≤ 9999999999) := fun i hi => sizes_at hs (by rw [← HN.out]; exact hi)
          have HF0 : Hid (f 0 = headN ix E.t.size) := by show _ = _; rw [hf]; rfl
          have HFS : Hid (∀ i, f (i + 1) = f i + bodyN k (isz E.i i) (spz S i)) := fun i => by rw [hf]; exact rfl
          have HFL : Hid (∀ i, i ≤ j → 0 ≤ f i ∧ f i ≤ 1000000000000000) := fun i hi => by
            have hh := headN_le hix htl
            have := plN_le (k := k) (t0 := headN ix E.t.size) (by omega) hs i (by rw [← HN.out]; exact hi)
            rw [← hf] at this
            omega
          have HII := hidK hI
          have HEE := hidK he
          clear hE hf hAe hI he hs hpl g2 HE HG HA
          subst hAf
          have hml : m = j := by
            obtain ⟨_, _, e, _, _⟩ := HRW3.out.form
            injection e with _ e _
            rw [e]
            simp
          subst hml
          have hIm : ¬ ((m : Int) < (m : Int)) := by omega
          go_upto_region 16 with (first
            | (go_at_call 11; refine HNM.out.mono ?_; rintro e w4 ⟨u, rfl, ho, hb4⟩; have HO4 := hidK (OwnF.row elTy ho); have HB4 := hidK hb4; have HC4 := hidK (HEN.out u w4 (HB3.out.trans (hb4.mono HB3.out.size)) HO4.out); clear ho hb4)
            | (go_at_call 10; refine HC4.out.mono ?_; rintro e w5 ⟨fa, fl, fc, ia, il, ic, rfl, q1, q2, hb5, q3, q4⟩; have HQ2 := hidK q2; have HB5 := hidK hb5; clear q1 q2 q3 q4 hb5))
          obtain ⟨aoi, cpi, eui⟩ := HQ2.out.form
          injection eui with eu1 eu2 eu3
          have hil : m = il := by have := HII.out; omega
          subst hil
          clear eu1 eu2 eu3
          obtain ⟨w6, hw6⟩ : ∃ x, x = w5.alloc (.cells #[.slice fa fl fc, .slice ia m ic, .string E.t] 36) := ⟨_, rfl⟩
          have hb6 : Below w5.heap.size w5 w6 := by rw [hw6]; exact (Below.refl _ _).alloc (Nat.le_refl _) _
          have hz6 : w6.heap[w5.heap.size]? = some (.cells #[.slice fa fl fc, .slice ia m ic, .string E.t] 36 (0, 0)) := by rw [hw6]; exact heap_alloc_new _ _
          have HB36 : Hid (Below w3.heap.size w3 w6) := HB4.out.trans ((HB5.out.trans (hb6.mono HB5.out.size)).mono HB4.out.size)
          have HBW6 : Hid (Below w.heap.size w w6) := HB3.out.trans (HB36.out.mono HB3.out.size)
          have HX6 := hidK (hkeepK HB36.out HZ3.out)
          have HZ6 := hidK hz6
          have HRW6 := hidK (HRW3.out.on HB36.out)
          have HU6 := hidK (HQ2.out.onY hb6)
          rw [← hw6, HEE.out]
          clear hw6 hb6 hz6 HNM HEN HC4 HO4 HB4 HB5 HQ2 HRW3 HZ3 HB36 HTT hIm
          have x0 := cell_rowK HX6.out 0 _ rfl
          have x1 := cell_rowK HX6.out 1 _ rfl
          have x2 := cell_rowK HX6.out 2 _ rfl
          have z0 := cell_rowK HZ6.out 0 _ rfl
          have z1 := cell_rowK HZ6.out 1 _ rfl
          have z2 := cell_rowK HZ6.out 2 _ rfl
          have HRE : Hid (∀ (n : Int) (w : World), 0 ≤ n → n ≤ 4611686018427387904 → Calls Tryd.prog 12 #[.int .i64 n] w fun e w' => e = .returned (.int .i64 (evN n)) ∧ w' = w) := even10_c
          obtain ⟨h1, hh1⟩ : ∃ h1 : Int, h1 = 8 + if ix = -1 then 0 else roomN ix := ⟨_, rfl⟩
          go_upto_if 113 with fail
          go_cut [15] from 113 to 118 (fun s12 wx => s12 = .int .i64 h1 ∧ wx = w6)
          case first =>
            by_cases hx : ix = -1
            · have hh2 : Hid (h1 = 8) := by rw [hh1, if_pos hx]; exact rfl
              subst hx
              clear hh1
              go_wp2
              go_meet
              case rel => exact ⟨by rw [hh2.out], rfl⟩
            · have hxs : 0 ≤ ix ∧ ix ≤ 9999999999 := by
                rcases hix with q | q
                · exact absurd q hx
                · exact sizeB_iff.1 q
              have hxg : ix ≥ 0 := hxs.1
              have HRX : Hid (∀ w, Calls Tryd.prog 12 #[.int .i64 ix] w fun e w' => e = .returned (.int .i64 (evN ix)) ∧ w' = w) := fun w => HRE.out ix w hxs.1 (by omega)
              have hev := evN_nn hxs.1
              have hsum : IntKind.i64.wrap (68 + evN ix) = 68 + evN ix := by rw [IntKind.wrap_i64]; omega
              have hh2 : Hid (h1 = 68 + evN ix) := by show _ = _; rw [hh1, if_neg hx]; unfold roomN; omega
              clear hev hxs hh1
              go_wp2_with (go_at_call 12; refine (HRX.out _).mono ?_; rintro e w7 ⟨rfl, hw7⟩; rw [hw7]; clear hw7)
              go_meet
              case rel => exact ⟨by rw [hh2.out], rfl⟩
          case rest =>
            obtain ⟨rfl, hwd⟩ := hcut
            rw [hwd]
            clear hwd
            have hb1 : 8 ≤ h1 ∧ h1 ≤ 10000000070 := by
              rw [hh1]
              rcases hix with q | q
              · rw [if_pos q]; omega
              · have q2 := sizeB_iff.1 q
                rw [if_neg (by omega)]
                have := evN_nn q2.1
                unfold roomN
                omega
            have hh3 : f 0 = h1 + if 0 < E.t.size then roomN (E.t.size : Int) else 0 := by rw [HF0.out, hh1]; exact rfl
            clear hh1
            go_upto_if 121 with fail
            go_cut [15] from 121 to 127 (fun s12 wx => s12 = .int .i64 (f 0) ∧ wx = w6)
            case first =>
              by_cases hx : 0 < E.t.size
              · have hxb : ((E.t.size : Int) > 0) := by omega
                have HRX : Hid (∀ w, Calls Tryd.prog 12 #[.int .i64 E.t.size] w fun e w' => e = .returned (.int .i64 (evN E.t.size)) ∧ w' = w) := fun w => HRE.out E.t.size w (by omega) (by omega)
                have hev := evN_nn (show (0 : Int) ≤ (E.t.size : Int) by omega)
                have hsum0 : IntKind.i64.wrap (h1 + 60) = h1 + 60 := by rw [IntKind.wrap_i64]; omega
                have hsum : IntKind.i64.wrap (h1 + 60 + evN E.t.size) = h1 + 60 + evN E.t.size := by rw [IntKind.wrap_i64]; omega
                have hh4 : Hid (f 0 = h1 + 60 + evN E.t.size) := by show _ = _; rw [hh3, if_pos hx]; unfold roomN; omega
                clear hev hh3
                go_wp2_with (go_at_call 12; refine (HRX.out _).mono ?_; rintro e w7 ⟨rfl, hw7⟩; rw [hw7]; clear hw7)
                go_meet
                case rel => exact ⟨by rw [hh4.out], rfl⟩
              · have hxb : ¬ ((E.t.size : Int) > 0) := by omega
                have hh4 : Hid (f 0 = h1) := by show _ = _; rw [hh3, if_neg hx]; omega
                clear hh3
                go_wp2
                go_meet
                case rel => exact ⟨by rw [hh4.out], rfl⟩
            case rest =>
              obtain ⟨rfl, hwd⟩ := hcut
              rw [hwd]
              clear hwd hb1 hh3 HF0
              go_wp2
              go_loopw [15, 16] (fun t0 i wx => ∃ j : Nat, i = .int .i64 j ∧ j ≤ m ∧ t0 = .int .i64 (f j) ∧ Below w6.heap.size w6 wx) (fun _ i _ => m - (intOf i).toNat)
              case atStart => exact ⟨0, rfl, Nat.zero_le _, rfl, Below.refl _ _⟩
              case round =>
                obtain ⟨j, rfl, hjm, rfl, hB⟩ := hrel
                obtain ⟨wo, hwo⟩ : ∃ y, y = wr := ⟨_, rfl⟩
                subst hwo
                have HB := hidK hB
                have hBW : Below w.heap.size w wo := HBW6.out.trans (hB.mono HBW6.out.size)
                have HBW := hidK hBW
                clear x0 x1 x2 z0 z1 z2
                have x0 := cell_rowK (hkeepK hB HX6.out) 0 _ rfl
                have x2 := cell_rowK (hkeepK hB HX6.out) 2 _ rfl
                have z1 := cell_rowK (hkeepK hB HZ6.out) 1 _ rfl
                by_cases hj : j < m
                · have jI : (j : Int) < (m : Int) := by omega
                  have j0 : (0 : Int) ≤ (j : Int) := by omega
                  have jw : IntKind.i64.wrap ((j : Int) + 1) = (j : Int) + 1 := by rw [IntKind.wrap_i64]; omega
                  obtain ⟨⟨nm, z⟩, hx⟩ : ∃ x, S[j]? = some x := ⟨_, List.getElem?_eq_getElem (by have := HN.out; omega)⟩
                  have hzz := spz_at hx
                  simp only at hzz
                  obtain ⟨b1, o1, p1, e1, d0, d1⟩ := (HV.out wo hBW).en hx
                  injection e1 with e1 e1b e1c
                  subst e1
                  simp only at d0 d1
                  have hsz := HSZ.out j hj
                  rw [hzz] at hsz
                  have hfs := HFS.out j
                  rw [hzz] at hfs
                  obtain ⟨b2, o2, p2, e2, g0⟩ := (HU6.out.onY hB).getY (j := j) (by rw [HII.out]; exact hj)
                  injection e2 with e2 e2b e2c
                  subst e2
                  obtain ⟨s, hs⟩ : ∃ s, s = E.i.getD j .empty := ⟨_, rfl⟩
                  rw [← hs] at g0
                  have hisz : isz E.i j = s.size := by rw [hs]; rfl
                  rw [hisz] at hsz hfs
                  have hfb := HFL.out j hjm
                  have hfb2 := HFL.out (j + 1) hj
                  have hxj : ((List.range m).map f)[j]? = some (f j) := by rw [List.getElem?_map, List.getElem?_range hj]; rfl
                  obtain ⟨b3, o3, p3, e3, r0⟩ := (HRW6.out.on hB).nm hxj
                  injection e3 with e3 e3b e3c
                  subst e3
                  have hs60 : IntKind.i64.wrap (f j + 60) = f j + 60 := by rw [IntKind.wrap_i64]; omega
                  clear hx e1b e1c e2b e2c e3b e3c hs hzz hisz hB hBW hxj x2
                  by_cases hk1 : k = 1
                  · subst hk1
                    have hfe : Hid (f (j + 1) = f j + 60) := by show _ = _; rw [hfs]; unfold bodyN; rw [if_pos rfl]
                    clear hfs g0 d0 d1 z1 hfb hfb2
                    go_wp2
                    go_roundw
                    case rel => exact ⟨j + 1, by go_num, by omega, by rw [hfe.out], HB.out⟩
                    case measure => simp [intOf]; omega
                  · have hkb : (k != 1) = true := by simp [hk1]
                    have hev := evN_nn (show (0 : Int) ≤ (s.size : Int) + z by omega)
                    have hfe : f (j + 1) = f j + 60 + evN ((s.size : Int) + z) := by rw [hfs]; unfold bodyN roomN; rw [if_neg hk1]; omega
                    have HRX : Hid (∀ w, Calls Tryd.prog 12 #[.int .i64 ((s.size : Int) + z)] w fun e w' => e = .returned (.int .i64 (evN ((s.size : Int) + z))) ∧ w' = w) := fun w => HRE.out _ w (by omega) (by omega)
                    have hsum1 : IntKind.i64.wrap ((s.size : Int) + z) = (s.size : Int) + z := by rw [IntKind.wrap_i64]; omega
                    have hsum : IntKind.i64.wrap (f j + 60 + evN ((s.size : Int) + z)) = f j + 60 + evN ((s.size : Int) + z) := by rw [IntKind.wrap_i64]; omega
                    have HFE := hidK hfe
                    have HBQ : Hid (∀ q, Below w6.heap.size w6 (wo.drewN q)) := fun q => below_drewY HB.out q
                    clear hfs hfe hev hfb hfb2 hsz d0
                    go_upto_region 30 with fail
                    go_quiet (first | (go_at_call 12; exact Calls.quiet_of_same (HRX.out _)))
                    go_wp2
                    go_roundw
                    case rel => exact ⟨j + 1, by go_num, by omega, by rw [HFE.out], HBQ.out _⟩
                    case measure => simp [intOf]; omega
                · obtain rfl : j = m := by omega
                  clear hB hBW
                  go_wp2
                  go_ret
                  exact ⟨by simp, HBW.out⟩
end Go.Proofs.YtmlnnbinbbmmhaaDoor
