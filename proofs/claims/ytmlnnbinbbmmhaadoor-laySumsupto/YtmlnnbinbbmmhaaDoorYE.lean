
-- lay.place.
import Derived.Test.YtmlnnbinbbmmhaaDoorYE0
namespace Go.Proofs.YtmlnnbinbbmmhaaDoor
open Go.ChangeShapes Go.WideShapes Go.ChangeAt Go.RowKit
set_option linter.unusedVariables false
set_option maxRecDepth 100000
set_option maxHeartbeats 4000000 in
theorem place_c (k ix : Int) (v : Value) (S : List Sp) (fa ia : Option Addr) (fl fc il ic : Nat) (t : ByteArray) (I : List ByteArray) (w : World) (hv : RowG enL w v S) (hi : RowS w (.slice ia il ic) I) (hI : I.length = S.length) (hn : S.length ≤ 65536) (hs : sizesB S I = true) (hix : ix = -1 ∨ sizeB ix = true) (ht : t.size ≤ 67108864) :
    Calls Tryd.prog 24 #[.int .i64 k, v, .int .i64 ix, .agg #[.slice fa fl fc, .slice ia il ic, .string t]] w fun e w' => ∃ g, e = .returned (.agg #[.slice (some ⟨g, 0, none⟩) S.length S.length, .int .i64 t.size, .int .i64 (plN k S I (headN ix t.size) S.length)]) ∧ w'.heap[g]? = some (.cells (intAt (plN k S I (headN ix t.size)) S.length S.length) 3 (0, 0)) ∧ w.heap.size ≤ g ∧ Below w.heap.size w w' := by
  obtain ⟨a1, c1, q1, hcap, hmx⟩ := hv.form
  obtain ⟨n, hnn⟩ : ∃ n, n = S.length := ⟨_, rfl⟩
  rw [← hnn] at q1 hcap hn hI ⊢
  subst q1
  obtain ⟨aoi, cpi, eui⟩ := hi.form
  injection eui with eu1 eu2 eu3
  have hil : n = il := by omega
  subst hil
  clear eu1 eu2 eu3
  have HN := hidK hnn
  have HI := hidK hI
  have HV : Hid (∀ W, Below w.heap.size w W → RowG enL W (.slice a1 n c1) S) := fun W hb => hv.on hb
  have HU : Hid (∀ W, Below w.heap.size w W → RowS W (.slice ia n ic) I) := fun W hb => hi.onY hb
  have hmk := mk_ints n (by omega)
  have HRM : Hid (∀ (n : Int) (w : World), 0 ≤ n → n ≤ 4611686018427387904 → Calls Tryd.prog 46 #[.int .i64 n] w fun e w' => e = .returned (.int .i64 (roomN n)) ∧ w' = w) := room_c
  obtain ⟨f, hf⟩ : ∃ f, f = plN k S I (headN ix t.size) := ⟨_, rfl⟩
  have hh := headN_le hix ht
  have HH := hidK hh
  have HSZ : Hid (∀ j, j < n → (0 ≤ spz S j ∧ spz S j ≤ 9999999999) ∧ 0 ≤ (isz I j : Int) + spz S j ∧ (isz I j : Int) + spz S j ≤ 9999999999) := fun j hj => sizes_at hs (by omega)
  have HF0 : Hid (f 0 = headN ix t.size) := by rw [hf]; exact rfl
  have HFS : Hid (∀ j, f (j + 1) = f j + bodyN k (isz I j) (spz S j)) := fun j => by rw [hf]; exact rfl
  have HFL : Hid (∀ j, j ≤ n → 0 ≤ f j ∧ f j ≤ 1000000000000000) := fun j hj => by
    have := plN_le (k := k) (t0 := headN ix t.size) (by omega) hs j (by omega)
    rw [← hf] at this
    omega
  rw [← hf]
  have HIX := hidK hix
  obtain ⟨ns, hns⟩ : ∃ ns : Array Value, ns = #[.slice fa fl fc, .slice ia n ic, .string t] := ⟨_, rfl⟩
  obtain ⟨W0, hW0⟩ : ∃ x, x = (w.alloc (.cells #[.slice fa fl fc, .slice ia n ic, .string t] 36)).alloc (.cells lay0 27) := ⟨_, rfl⟩
  have HB0 : Hid (Below w.heap.size w W0) := by rw [hW0]; exact bupK (bupK (Below.refl _ w) _) _
  have HN0 : Hid (W0.heap[w.heap.size]? = some (.cells ns 36 (0, 0))) := by rw [hW0, hns]; exact hupK (heap_alloc_new w _) _
  have HR0 : Hid (W0.heap[w.heap.size + 1]? = some (.cells lay0 27 (0, 0))) := by rw [hW0]; exact heap_new2K w _ _
  have HS0 : Hid (W0.heap.size = w.heap.size + 2) := by rw [hW0]; show _ = _; simp
  have hsz0 := HS0.out
  have HP1 : Hid (PSt w (W0.heap.size + 1) W0.heap.size ns n f 0 (t.size : Int) 8 ((W0.alloc (.cells (intAt (fun _ => 0) n 0) 3)).alloc (.cells #[.slice (some ⟨W0.heap.size, 0, none⟩) n n, .int .i64 t.size, .int .i64 8] 27)).drew) :=
    PSt.drew ⟨bupK (bupK HB0.out _) _, hupK (hupK HN0.out _) _, hupK (hupK HR0.out _) _, heap_new2K W0 _ _, by rw [intAt_any f (fun _ => 0)]; exact hupK (heap_alloc_new W0 _) _, by omega, by omega, by omega⟩
  have HP2 : Hid (PSt w W0.heap.size (W0.heap.size + 1) ns n f 0 (t.size : Int) 8 ((W0.alloc (.cells #[.slice (some ⟨W0.heap.size + 1, 0, none⟩) n n, .int .i64 t.size, .int .i64 8] 27)).alloc (.cells (intAt (fun _ => 0) n 0) 3)).drew) :=
    PSt.drew ⟨bupK (bupK HB0.out _) _, hupK (hupK HN0.out _) _, hupK (hupK HR0.out _) _, hupK (heap_alloc_new W0 _) _, by rw [intAt_any f (fun _ => 0)]; exact heap_new2K W0 _ _, by omega, by omega, by omega⟩
  clear hsz0
  have HC2 : Hid (∀ W, Below W0.heap.size W0 W → W.cell? ⟨w.heap.size, 2, none⟩ = some (.string t)) := fun W hb => cell_rowK (hkeepK hb HN0.out) 2 _ (by rw [hns]; rfl)
  clear hv hi hnn hI hs hh hix hf
  go_enter Tryd.func24, Tryd.ntmps24
  go_upto_region 1 with fail
  rw [← hW0]
  clear hW0
  go_cut [9] from 12 to 18 (fun s9 wx => ∃ gl gr, s9 = .pointer (some ⟨gl, 0, none⟩) ∧ PSt w gl gr ns n f 0 (t.size : Int) 8 wx)
  case first =>
    have hc2 := HC2.out
    have keepNew : ∀ (W : World) (o : Obj), Below W0.heap.size W0 W → Below W0.heap.size W0 (W.alloc o) := fun W o h => bupK h o
    have keepDrew : ∀ W : World, Below W0.heap.size W0 W → Below W0.heap.size W0 W.drew := fun W h => h.drew
    have keep0 : Below W0.heap.size W0 W0 := Below.refl _ _
    go_region_held3 (fun W => Below W0.heap.size W0 W) (first | assumption | exact keepDrew _ keep0 | exact keepNew _ _ (by assumption) | exact keepDrew _ (keepNew _ _ (keepNew _ _ keep0))) (fail)
    · go_wp2
      go_meet
      case rel => exact ⟨W0.heap.size + 1, W0.heap.size, rfl, HP1.out⟩
    · go_wp2
      go_meet
      case rel => exact ⟨W0.heap.size, W0.heap.size + 1, rfl, HP2.out⟩
  case rest =>
    obtain ⟨gl, gr, rfl, hP⟩ := hcut
    clear HP1 HP2 HC2 HS0 HR0 HN0 HB0 hmk
    obtain ⟨wB, hwB⟩ : ∃ x, x = wc := ⟨_, rfl⟩
    subst hwB
    have HP := hidK hP
    clear hP
    obtain ⟨h1, hh1⟩ : ∃ h1 : Int, h1 = 8 + if ix = -1 then 0 else roomN ix := ⟨_, rfl⟩
    go_upto_if 20 with fail
    go_cut [20] from 21 to 26 (fun _ wx => PSt w gl gr ns n f 0 (t.size : Int) h1 wx)
    case first =>
      by_cases hx : ix = -1
      · subst hx
        have hh2 : Hid (h1 = 8) := by rw [hh1]; exact rfl
        clear hh1
        go_wp2
        go_meet
        case rel => rw [hh2.out]; exact HP.out
      · have hxb : (ix != -1) = true := by simp [hx]
        have hxs : 0 ≤ ix ∧ ix ≤ 9999999999 := by
          rcases HIX.out with q | q
          · exact absurd q hx
          · exact sizeB_iff.1 q
        have HRX : Hid (∀ w, Calls Tryd.prog 46 #[.int .i64 ix] w fun e w' => e = .returned (.int .i64 (roomN ix)) ∧ w' = w) := fun w => HRM.out ix w hxs.1 (by omega)
        have hev := evN_nn hxs.1
        have hrn : roomN ix = 60 + evN ix := rfl
        have hsum : IntKind.i64.wrap (8 + roomN ix) = 8 + roomN ix := by rw [IntKind.wrap_i64]; omega
        rw [if_neg hx] at hh1
        obtain ⟨p0, p1, p2⟩ := HP.out.c0
        have fz2 := HP.out.fz 2
        have HT := hidK (HP.out.drew.tot (8 + roomN ix))
        clear hev hrn hxs
        go_upto_region 3 with fail
        go_region_with (first | (go_at_call 46; refine (HRX.out _).mono ?_; rintro e w5 ⟨rfl, hw5⟩; subst w5))
        all_goals go_wp2
        all_goals go_meet
        all_goals (rw [hh1]; exact (HP.out.tot _).drew)
    case rest =>
      obtain ⟨wC, hwC⟩ : ∃ x, x = wc := ⟨_, rfl⟩
      subst hwC
      have HP1 := hidK hcut
      clear hcut HP
      obtain ⟨h2, hh2⟩ : ∃ h2 : Int, h2 = h1 + if 0 < t.size then roomN (t.size : Int) else 0 := ⟨_, rfl⟩
      have HH2 : Hid (f 0 = h2) := by rw [HF0.out, hh2, hh1]; exact rfl
      have hb1 : 0 ≤ h1 ∧ h1 ≤ 10000000070 := by
        rw [hh1]
        rcases HIX.out with q | q
        · rw [if_pos q]; omega
        · have q2 := sizeB_iff.1 q
          rw [if_neg (by omega)]
          have := evN_nn q2.1
          unfold roomN
          omega
      clear hh1
      obtain ⟨p0, p1, p2⟩ := HP1.out.c0
      go_upto_if 29 with fail
      go_cut [29] from 30 to 36 (fun _ wx => PSt w gl gr ns n f 0 (t.size : Int) h2 wx)
      case first =>
        by_cases hx : 0 < t.size
        · have hxb : ((t.size : Int) > 0) := by omega
          have HRX : Hid (∀ w, Calls Tryd.prog 46 #[.int .i64 t.size] w fun e w' => e = .returned (.int .i64 (roomN t.size)) ∧ w' = w) := fun w => HRM.out t.size w (by omega) (by omega)
          have hev := evN_nn (show (0 : Int) ≤ (t.size : Int) by omega)
          have hrn : roomN t.size = 60 + evN t.size := rfl
          have hsum : IntKind.i64.wrap (h1 + roomN t.size) = h1 + roomN t.size := by rw [IntKind.wrap_i64]; omega
          rw [if_pos hx] at hh2
          have fz2 := HP1.out.fz 2
          clear hev hrn
          go_upto_region 5 with fail
          go_region_with (first | (go_at_call 46; refine (HRX.out _).mono ?_; rintro e w5 ⟨rfl, hw5⟩; subst w5))
          all_goals go_wp2
          all_goals go_meet
          all_goals (rw [hh2]; exact (HP1.out.tot _).drew)
        · have hxb : ¬ ((t.size : Int) > 0) := by omega
          rw [if_neg hx] at hh2
          have hh3 : Hid (h2 = h1) := by rw [hh2]; show _ + 0 = _; omega
          clear hh2
          go_wp2
          go_meet
          case rel => rw [hh3.out]; exact HP1.out
      case rest =>
        obtain ⟨wD, hwD⟩ : ∃ x, x = wc := ⟨_, rfl⟩
        subst hwD
        have HP2 : Hid (PSt w gl gr ns n f 0 (t.size : Int) (f 0) wD) := by rw [HH2.out]; exact hcut
        clear hcut HP1 hh2 hb1 p0 p1 p2 HIX HF0 HH2
        go_wp2
        go_loopw [39] (fun i wx => ∃ j : Nat, i = .int .i64 j ∧ j ≤ n ∧ PSt w gl gr ns n f j (t.size : Int) (f j) wx) (fun i _ => n - (intOf i).toNat)
        case atStart => exact ⟨0, rfl, Nat.zero_le _, HP2.out⟩
        case round =>
          obtain ⟨j, rfl, hjn, hP⟩ := hrel
          obtain ⟨wo, hwo⟩ : ∃ y, y = wr := ⟨_, rfl⟩
          subst hwo
          have HP := hidK hP
          by_cases hj : j < n
          · have jI : (j : Int) < (n : Int) := by omega
            have j0 : (0 : Int) ≤ (j : Int) := by omega
            have jw : IntKind.i64.wrap ((j : Int) + 1) = (j : Int) + 1 := by rw [IntKind.wrap_i64]; omega
            obtain ⟨⟨nm, z⟩, hx⟩ : ∃ x, S[j]? = some x := ⟨_, List.getElem?_eq_getElem (by have := HN.out; omega)⟩
            obtain ⟨b1, o1, p1, e1, d0, d1⟩ := (HV.out wo hP.b).en hx
            injection e1 with e1 e1b e1c
            subst e1
            simp only at d0 d1
            have hzz := spz_at hx
            simp only at hzz
            have hsz := HSZ.out j hj
            rw [hzz] at hsz
            have hfs := HFS.out j
            rw [hzz] at hfs
            obtain ⟨b2, o2, p2, e2, g0⟩ := (HU.out wo hP.b).getY (j := j) (by rw [HI.out]; exact hj)
            injection e2 with e2 e2b e2c
            subst e2
            obtain ⟨s, hs⟩ : ∃ s, s = I.getD j .empty := ⟨_, rfl⟩
            rw [← hs] at g0
            have hisz : isz I j = s.size := by rw [hs]; rfl
            rw [hisz] at hsz hfs
            have hfb := HFL.out j hjn
            obtain ⟨W4, hW4⟩ : ∃ W4, W4 = wo.alloc (.cells #[.string nm, .int .i64 z] 24) := ⟨_, rfl⟩
            have b4 : Below wo.heap.size wo W4 := by rw [hW4]; exact (Below.refl _ wo).alloc (Nat.le_refl _) _
            have e4 : W4.heap[wo.heap.size]? = some (.cells #[.string nm, .int .i64 z] 24 (0, 0)) := by rw [hW4]; exact heap_alloc_new _ _
            have HP4 := hidK (hP.on b4)
            have HE4 := hidK e4
            have HG4 := hidK (cell_onG g0 b4)
            have hltr : gr < wo.heap.size := (Array.getElem?_eq_some_iff.1 hP.a).1
            have HLTR := hidK hltr
            have hfit : Nat.ble (j + 1) (intAt f n j).size = true := Nat.ble_eq_true_of_le (by rw [intAt_size]; omega)
            clear hx e1b e1c e2b e2c b4 e4 hP hzz hisz hltr
            go_upto_region 9 with fail
            rw [← hW4]
            clear hW4 d0 d1 g0
            obtain ⟨q0, q1, q2⟩ := HP4.out.c0
            go_upto_if 51 with (refine wpList_store_kz rfl rfl _ _ _ rfl gr j (.int .i64 (f j)) rfl rfl _ _ _ HP4.out.a (by kernel_rfl) hfit rfl (intAt_put f n j hj) ?_; intro Wz hWz qz; have HWZ := hidK hWz; have HQZ := hidK qz; clear hWz qz)
            have HPZ := hidK (HP4.out.put HWZ.out HQZ.out)
            have hEZ : Wz.heap[wo.heap.size]? = some (.cells #[.string nm, .int .i64 z] 24 (0, 0)) := HQZ.out.keeps (by have := HLTR.out; omega) HE4.out
            obtain ⟨b3, o3, p3, e3, g3⟩ := (HU.out Wz HPZ.out.b).getY (j := j) (by rw [HI.out]; exact hj)
            injection e3 with e3 e3b e3c
            injection e3 with e3
            injection e3 with e3 e3o
            subst e3 e3o
            rw [← hs] at g3
            obtain ⟨r0, r1, r2⟩ := HPZ.out.c0
            have hnZ := HPZ.out.n0
            rw [hns] at hnZ
            have m1 := cell_rowK hnZ 1 _ rfl
            have s1 := cell_rowK hEZ 1 _ rfl
            have fz2 := HPZ.out.fz 2
            clear HWZ HQZ HP4 HE4 HG4 HLTR hfit hEZ hnZ e3b e3c hs q0 q1 q2
            by_cases hk : k = 1
            · subst hk
              have hbd : bodyN 1 s.size z = 60 := by unfold bodyN; rw [if_pos rfl]
              rw [hbd] at hfs
              have HRX : Hid (∀ w, Calls Tryd.prog 46 #[.int .i64 0] w fun e w' => e = .returned (.int .i64 60) ∧ w' = w) := fun w => HRM.out 0 w (by omega) (by omega)
              have hsum : IntKind.i64.wrap (f j + 60) = f j + 60 := by rw [IntKind.wrap_i64]; omega
              clear hbd g3 s1 m1 hsz hfb
              have HT : Hid (PSt w gl gr ns n f (j + 1) (t.size : Int) (f (j + 1)) (Wz.setCell ⟨gl, 2, none⟩ (.int .i64 (f j + 60))).drew) := by rw [hfs]; exact (HPZ.out.tot _).drew
              go_upto_region 11 with fail
              go_region_with (first | (go_at_call 46; refine (HRX.out _).mono ?_; rintro e w5 ⟨rfl, hw5⟩; subst w5))
              all_goals
                go_wp2
                go_roundw
                case rel => exact ⟨j + 1, by go_num, by omega, HT.out⟩
                case measure => simp [intOf]; omega
            · have hkb : (k == 1) = false := by simp [hk]
              have hbd : bodyN k s.size z = roomN ((s.size : Int) + z) := by unfold bodyN; rw [if_neg hk]
              rw [hbd] at hfs
              have HRX : Hid (∀ w, Calls Tryd.prog 46 #[.int .i64 ((s.size : Int) + z)] w fun e w' => e = .returned (.int .i64 (roomN ((s.size : Int) + z))) ∧ w' = w) := fun w => HRM.out _ w (by omega) (by omega)
              have hev := evN_nn (show (0 : Int) ≤ (s.size : Int) + z by omega)
              have hrn : roomN ((s.size : Int) + z) = 60 + evN ((s.size : Int) + z) := rfl
              have hsum1 : IntKind.i64.wrap ((s.size : Int) + z) = (s.size : Int) + z := by rw [IntKind.wrap_i64]; omega
              have hsum : IntKind.i64.wrap (f j + roomN ((s.size : Int) + z)) = f j + roomN ((s.size : Int) + z) := by rw [IntKind.wrap_i64]; omega
              clear hbd hev hrn hsz hfb
              have HT : Hid (PSt w gl gr ns n f (j + 1) (t.size : Int) (f (j + 1)) (Wz.setCell ⟨gl, 2, none⟩ (.int .i64 (f j + roomN ((s.size : Int) + z)))).drew) := by rw [hfs]; exact (HPZ.out.tot _).drew
              go_upto_region 12 with fail
              go_region_with (first | (go_at_call 46; refine (HRX.out _).mono ?_; rintro e w5 ⟨rfl, hw5⟩; subst w5))
              all_goals
                go_wp2
                go_roundw
                case rel => exact ⟨j + 1, by go_num, by omega, HT.out⟩
                case measure => simp [intOf]; omega
          · obtain rfl : j = n := by omega
            obtain ⟨q0, q1, q2⟩ := HP.out.c0
            have HPB := hidK hP.b
            have hg1 := hP.g1
            have hg2 := hP.g2
            have hg3 := hP.ne
            have HG : Hid (gr ≠ w.heap.size + 1 ∧ w.heap.size ≤ gr) := ⟨by omega, by omega⟩
            clear hP hg1 hg2 hg3
            go_wp2_with (refine wpList_store_kz rfl rfl _ _ _ rfl (w.heap.size + 1) 0 (.agg #[.slice (some ⟨gr, 0, none⟩) j j, .int .i64 t.size, .int .i64 (f j)]) rfl rfl _ _ #[.slice (some ⟨gr, 0, none⟩) j j, .int .i64 t.size, .int .i64 (f j)] HP.out.r0 (by kernel_rfl) rfl rfl rfl ?_; intro Wz hWz qz; have HWZ := hidK hWz; have HQZ := hidK qz; clear qz)
            refine bodyPost_ret (results_cell_row rfl _ _ (w.heap.size + 1) _ _ _ _ rfl hWz Tryd.underlying27 rfl (by kernel_rfl)) rfl ?_
            exact ⟨gr, rfl, HQZ.out.keeps HG.out.1 HP.out.a, HG.out.2, HQZ.out.belowN HPB.out (by omega) (Nat.le_refl _)⟩
end Go.Proofs.YtmlnnbinbbmmhaaDoor
