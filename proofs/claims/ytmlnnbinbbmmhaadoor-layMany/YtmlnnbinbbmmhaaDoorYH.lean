
-- LayMany's walk.
import Derived.Test.YtmlnnbinbbmmhaaDoorYG
import Derived.Test.YtmlnnbinbbmmhaaDoorYF
namespace Go.Proofs.YtmlnnbinbbmmhaaDoor
open Go.ChangeShapes Go.WideShapes Go.ChangeAt Go.RowKit
set_option linter.unusedVariables false
set_option maxRecDepth 100000
theorem PlanSays.rowH {A : Pa} {w w' : World} {e : Ending} (h : PlanSays A w e w') : ∃ ao n c, e = .returned (.tuple #[.agg #[.slice ao n c, .int .i64 A.tb, .int .i64 A.tt], .int .i64 A.e]) ∧ RowI w' (.slice ao n c) A.a ∧ Below w.heap.size w w' := by
  obtain ⟨ao, n, c, h1, h2, h3, h4⟩ := h
  exact ⟨ao, n, c, h1, rowG_own (by decide) nmL_len h2, h4⟩
set_option maxHeartbeats 8000000 in
theorem layMany_w (k n : Int) (w : World) (hT : Tabs w) :
    Calls Tryd.prog 3 #[.int .i64 k, .int .i64 n] w fun e w' => e = .returned (.bool true) ∧ Below w.heap.size w w' := by
  by_cases hn0 : n < 0
  · clear hT
    go_enter Tryd.func3, Tryd.ntmps3
    go_wp2
    go_ret
    exact ⟨rfl, Below.refl _ _⟩
  by_cases hn3 : n > 3
  · clear hT
    go_enter Tryd.func3, Tryd.ntmps3
    go_wp2
    go_ret
    exact ⟨rfl, Below.refl _ _⟩
  obtain ⟨m, hm⟩ : ∃ m : Nat, (m : Int) = 65535 + n := ⟨(65535 + n).toNat, by omega⟩
  have hm1 : 65535 ≤ m ∧ m ≤ 65538 := by omega
  have hmk := mk_specs m (by omega)
  rw [hm] at hmk
  have HM := hidK hm
  clear hm
  obtain ⟨W0, hW0⟩ : ∃ x, x = w.alloc (.cells ((manyS m 0).flatMap enL).toArray 24) := ⟨_, rfl⟩
  have HB0 : Hid (Below w.heap.size w W0) := by rw [hW0]; exact bupK (Below.refl _ w) _
  have HX0 : Hid (W0.heap[w.heap.size]? = some (.cells ((manyS m 0).flatMap enL).toArray 24 (0, 0))) := by rw [hW0]; exact heap_alloc_new w _
  have HP : Hid (∀ (v : Value) (W : World), RowG enL W v (manyS m m) → Below w.heap.size w W → Calls Tryd.prog 7 #[.int .i64 k, v, .int .i64 (-1)] W fun e w' => ∃ ao n c, e = .returned (.tuple #[.agg #[.slice ao n c, .int .i64 (planA k (manyS m m) (-1)).tb, .int .i64 (planA k (manyS m m) (-1)).tt], .int .i64 (planA k (manyS m m) (-1)).e]) ∧ RowI w' (.slice ao n c) (planA k (manyS m m) (-1)).a ∧ Below W.heap.size W w') := fun v W hv hb => (plan_c k (-1) v (manyS m m) W hv (by rw [tot_many]; omega) (hT.on hb)).mono (fun e w' h => h.rowH)
  clear hT
  go_enter Tryd.func3, Tryd.ntmps3
  go_upto_region 5 with fail
  rw [← hW0]
  clear hW0 hmk
  go_wp2
  go_loopw [7] (fun i wx => ∃ j : Nat, i = .int .i64 j ∧ j ≤ m ∧ wx.heap[w.heap.size]? = some (.cells ((manyS m j).flatMap enL).toArray 24 (0, 0)) ∧ Below w.heap.size w wx) (fun i _ => m - (intOf i).toNat)
  case atStart => exact ⟨0, rfl, Nat.zero_le _, HX0.out, HB0.out⟩
  case round =>
    obtain ⟨j, rfl, hjm, hx, hB⟩ := hrel
    obtain ⟨wo, hwo⟩ : ∃ y, y = wr := ⟨_, rfl⟩
    subst hwo
    have HX := hidK hx
    have HB := hidK hB
    clear hx hB HX0 HB0
    by_cases hj : j < m
    · have jI : (j : Int) < 65535 + n := by have := HM.out; omega
      have jI2 : (j : Int) < (m : Int) := by omega
      have j0 : (0 : Int) ≤ (j : Int) := by omega
      have jw : IntKind.i64.wrap ((j : Int) + 1) = (j : Int) + 1 := by rw [IntKind.wrap_i64]; omega
      have hfit : Nat.ble (j * 2 + 1) ((manyS m j).flatMap enL).toArray.size = true := Nat.ble_eq_true_of_le (by rw [List.size_toArray, flatG_len enL 2 enL_len, manyS_len]; omega)
      go_wp2_with (refine wpList_store_kz rfl rfl _ _ _ rfl w.heap.size (j * 2) (.string ⟨#[97]⟩) (by first | rfl | simp [Act.eval]) rfl _ _ _ HX.out (by kernel_rfl) hfit rfl (many_put hj) ?_; intro Wz hWz qz; have HWZ := hidK hWz; have HQZ := hidK qz; clear hWz qz)
      go_roundw
      case rel => exact ⟨j + 1, by go_num, by omega, HWZ.out, HQZ.out.belowN HB.out (Nat.le_refl _) (Nat.le_refl _)⟩
      case measure => simp [intOf]; omega
    · obtain rfl : j = m := by omega
      have HC := hidK (HP.out (.slice (some ⟨w.heap.size, 0, none⟩) j j) wo (many_row (by omega) HX.out) HB.out)
      obtain ⟨A, hA⟩ : ∃ A, A = planA k (manyS j j) (-1) := ⟨_, rfl⟩
      rw [← hA] at HC
      have HA := hidK hA
      clear hA HP HX
      have hI : ¬ ((j : Int) < 65535 + n) := by have := HM.out; omega
      go_upto_region 10 with (go_at_call 7; refine HC.out.mono ?_; rintro e w2 ⟨ao, a, c, rfl, hr, hb2⟩; have HR := hidK hr; have HB2 := hidK hb2; clear hr hb2)
      obtain ⟨w3, hw3⟩ : ∃ x, x = w2.alloc (.cells #[.slice ao a c, .int .i64 A.tb, .int .i64 A.tt] 27) := ⟨_, rfl⟩
      have hb3 : Below w2.heap.size w2 w3 := by rw [hw3]; exact (Below.refl _ _).alloc (Nat.le_refl _) _
      have hz3 : w3.heap[w2.heap.size]? = some (.cells #[.slice ao a c, .int .i64 A.tb, .int .i64 A.tt] 27 (0, 0)) := by rw [hw3]; exact heap_alloc_new _ _
      have HBW : Hid (Below w.heap.size w w3) := (HB.out.trans (HB2.out.mono HB.out.size)).trans (hb3.mono (HB.out.trans (HB2.out.mono HB.out.size)).size)
      have x0 := cell_rowK hz3 0 _ rfl
      have x1 := cell_rowK hz3 1 _ rfl
      have x2 := cell_rowK hz3 2 _ rfl
      have HR3 := hidK (HR.out.on hb3)
      have hal : a = A.a.length := by
        obtain ⟨_, _, e, _, _⟩ := HR.out.form
        injection e
      rw [← hw3]
      clear hw3 hb3 hz3 HC HB2 HR HB hI
      by_cases hgood : kindB k = true ∧ j ≤ 65536
      · obtain ⟨hk, hj6⟩ := hgood
        obtain ⟨tb, hpl⟩ := many_plan k j hk hj6 (by omega)
        have hAe : A = _ := HA.out.trans hpl
        subst hAe
        rw [List.length_map, List.length_range] at hal
        subst hal
        have hkI := kindB_iff.1 hk
        have k0 : ¬ (k < 0) := by omega
        have k2 : ¬ (k > 2) := by omega
        have a6 : ¬ (65535 + n > 65536) := by have := HM.out; omega
        obtain ⟨h, hh⟩ : ∃ h, h = aheadN k a := ⟨_, rfl⟩
        have hma := HM.out
        have HX2 : Hid (∀ W, Below w3.heap.size w3 W → W.cell? ⟨w2.heap.size, 2, none⟩ = some (.int .i64 (h + 60 * (65535 + n)))) := fun W hb => by
          rw [hh, ← hma]
          exact cell_onG x2 hb
        have HR4 : Hid (RowI w3 (.slice ao a c) ((List.range a).map (fun j : Nat => h + 60 * (j : Int)))) := by rw [hh]; exact HR3.out
        have hb8 : 8 ≤ h ∧ h ≤ 300000 := by
          rw [hh]
          unfold aheadN
          split <;> omega
        have HH := hidK hh
        have HX0' := hidK x0
        clear hh x2 HR3 HA hk hma
        go_upto_if 66 with fail
        go_cut [10] from 66 to 72 (fun s10 wx => s10 = .int .i64 h ∧ wx = w3)
        case first =>
          by_cases h1 : k = 1
          · have hh2 : Hid (h = 68 + 3 * (65535 + n) + (65535 + n) % 2) := by show _ = _; rw [HH.out, ← HM.out]; unfold aheadN; rw [if_pos h1]
            subst h1
            have s1 : IntKind.i64.wrap (3 * (65535 + n)) = 3 * (65535 + n) := by rw [IntKind.wrap_i64]; omega
            have s2 : IntKind.i64.wrap (68 + 3 * (65535 + n)) = 68 + 3 * (65535 + n) := by rw [IntKind.wrap_i64]; omega
            have s3 : IntKind.i64.wrap (68 + 3 * (65535 + n) + (65535 + n) % 2) = 68 + 3 * (65535 + n) + (65535 + n) % 2 := by rw [IntKind.wrap_i64]; omega
            clear hb8
            go_wp2
            go_meet
            case rel => exact ⟨by rw [hh2.out], rfl⟩
          · have hkb : (k == 1) = false := by simp [h1]
            have hh2 : Hid (h = 8) := by show _ = _; rw [HH.out]; unfold aheadN; rw [if_neg h1]
            clear hb8
            go_wp2
            go_meet
            case rel => exact ⟨by rw [hh2.out], rfl⟩
        case rest =>
          obtain ⟨rfl, hwd⟩ := hcut
          rw [hwd]
          clear hwd
          have x2 := HX2.out w3 (Below.refl _ _)
          have s1 : IntKind.i64.wrap (60 * (65535 + n)) = 60 * (65535 + n) := by rw [IntKind.wrap_i64]; omega
          have s2 : IntKind.i64.wrap (h + 60 * (65535 + n)) = h + 60 * (65535 + n) := by rw [IntKind.wrap_i64]; omega
          have hab : ((a : Int) != 65535 + n) = false := by have := HM.out; simp [this]
          go_wp2
          clear s1 s2 x0 x1 x2 hab
          go_loopw [11] (fun i wx => ∃ j : Nat, i = .int .i64 j ∧ j ≤ a ∧ wx = w3) (fun i _ => a - (intOf i).toNat)
          case atStart => exact ⟨0, rfl, Nat.zero_le _, rfl⟩
          case round =>
            obtain ⟨j, rfl, hja, hw⟩ := hrel
            rw [hw]
            clear hw
            by_cases hj : j < a
            · have jI : (j : Int) < 65535 + n := by have := HM.out; omega
              have jI2 : (j : Int) < (a : Int) := by omega
              have j0 : (0 : Int) ≤ (j : Int) := by omega
              have jw : IntKind.i64.wrap ((j : Int) + 1) = (j : Int) + 1 := by rw [IntKind.wrap_i64]; omega
              have hxj : ((List.range a).map (fun j : Nat => h + 60 * (j : Int)))[j]? = some (h + 60 * (j : Int)) := by rw [List.getElem?_map, List.getElem?_range hj]; rfl
              obtain ⟨b1, o1, p1, e1, d0⟩ := HR4.out.nm hxj
              have x0 := HX0'.out
              have s1 : IntKind.i64.wrap (60 * (j : Int)) = 60 * (j : Int) := by rw [IntKind.wrap_i64]; omega
              have s2 : IntKind.i64.wrap (h + 60 * (j : Int)) = h + 60 * (j : Int) := by rw [IntKind.wrap_i64]; omega
              injection e1 with e1 e1b e1c
              subst e1
              clear hxj e1b e1c
              go_wp2
              go_roundw
              case rel => exact ⟨j + 1, by go_num, by omega, trivial⟩
              case measure => simp [intOf]; omega
            · obtain rfl : j = a := by omega
              have hI : ¬ ((j : Int) < 65535 + n) := by have := HM.out; omega
              go_wp2
              go_ret
              exact ⟨rfl, HBW.out⟩
      · have hAe : A = _ := HA.out.trans (many_no k j hgood)
        subst hAe
        have ha0 : a = 0 := hal
        subst ha0
        clear hal HA HR3
        by_cases h1 : k < 0
        · go_wp2
          go_ret
          exact ⟨rfl, HBW.out⟩
        · by_cases h2 : k > 2
          · go_wp2
            go_ret
            exact ⟨rfl, HBW.out⟩
          · have h3 : 65535 + n > 65536 := by
              have h4 : kindB k = true := kindB_iff.2 (by omega)
              have h5 : ¬ (j ≤ 65536) := fun q => hgood ⟨h4, q⟩
              have := HM.out
              omega
            go_wp2
            go_ret
            exact ⟨rfl, HBW.out⟩
end Go.Proofs.YtmlnnbinbbmmhaaDoor
