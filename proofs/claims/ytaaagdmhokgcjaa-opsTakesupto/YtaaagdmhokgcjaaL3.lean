
-- OpsTakes: the walk.
import Derived.Test.YtaaagdmhokgcjaaU2
import Derived.Deep.RegionWith
namespace Go.Proofs.Ytaaagdmhokgcjaa
open Go.ChangeShapes Go.WideShapes Go.ChangeAt Go.RowKit
set_option linter.unusedVariables false
set_option maxRecDepth 100000
set_option linter.unusedSimpArgs false
theorem snoc_get {α : Type} {A X R : List α} {x : α} (h : X = (A ++ [x]) ++ R) : X[A.length]? = some x := by
  rw [h, List.append_assoc, List.getElem?_append_right (Nat.le_refl _), Nat.sub_self]; rfl
set_option maxHeartbeats 16000000 in
theorem opsTakes_w (v u : Value) (L : List Mx) (Q : List ByteArray) (w : World) (h : RowM w v L) (hu : RowT w u Q) (hl : L.length ≤ 1048576) (hq : Q.length ≤ 1048576) :
    Calls Try.prog 3 #[v, u] w fun e w' => e = .returned (.bool true) ∧ Below w.heap.size w w' := by
  obtain ⟨a1, c1, q1, hlc, hlm⟩ := h.form
  obtain ⟨a2, c2, q2, hqc, hqm⟩ := hu.form
  have HS := hidK (select_c v u L Q w h hu (by omega) (by omega))
  have HV := hidK h
  have HU := hidK hu
  obtain ⟨n, hnn⟩ : ∃ n, n = L.length := ⟨_, rfl⟩
  obtain ⟨m, hmm⟩ : ∃ m, m = Q.length := ⟨_, rfl⟩
  have HN := hidK hnn
  have HM := hidK hmm
  have hlm' : c1 ≤ 9223372036854775807 := hlm
  have hqm' : c2 ≤ 9223372036854775807 := hqm
  subst q1
  subst q2
  rw [← hnn] at hl hlc HV HS ⊢
  rw [← hmm] at hq hqc HU HS ⊢
  have HSUM : Hid (∀ k, k ≤ m → (fnd (nms L) Q k).length + (mis (nms L) Q k).length = k) := fun k hk => sel_sum k (by omega)
  clear h hu hnn hmm hlm hqm
  go_enter Try.func3, Try.ntmps3
  go_upto_region 2 with (go_at_call 9; refine HS.out.mono ?_; rintro e w1 ⟨x, y, rfl, hx1, hy1, hb1⟩)
  have HB1 := hidK hb1
  have HX1 := hidK hx1.row
  have HY1 := hidK hy1.row
  obtain ⟨lf, hlf⟩ : ∃ lf, lf = (fnd (nms L) Q m).length := ⟨_, rfl⟩
  obtain ⟨lm, hlm2⟩ : ∃ lm, lm = (mis (nms L) Q m).length := ⟨_, rfl⟩
  obtain ⟨a3, c3, q3, _, _⟩ := HX1.out.form
  obtain ⟨a4, c4, q4, _, _⟩ := HY1.out.form
  rw [← hlf] at q3
  rw [← hlm2] at q4
  have hsum : lf + lm = m := by rw [hlf, hlm2]; exact HSUM.out m (Nat.le_refl _)
  subst q3
  subst q4
  have HLF := hidK hlf
  have HLM := hidK hlm2
  have hwr : IntKind.i64.wrap ((lf : Int) + (lm : Int)) = (m : Int) := by rw [IntKind.wrap_i64]; omega
  have hwr2 : (lf : Int) + (lm : Int) = (m : Int) := by omega
  clear HS hx1 hy1 hb1 hlf hlm2
  go_wp2
  go_loopw [7, 8, 9] (fun f g i wx => ∃ k f' m' : Nat, i = .int .i64 k ∧ f = .int .i64 f' ∧ g = .int .i64 m' ∧ k ≤ m ∧ f' = (fnd (nms L) Q k).length ∧ m' = (mis (nms L) Q k).length ∧ Below w.heap.size w wx ∧ RowI wx (.slice a3 lf c3) (fnd (nms L) Q m) ∧ RowT wx (.slice a4 lm c4) (mis (nms L) Q m)) (fun _ _ i _ => m - (intOf i).toNat)
  case atStart => exact ⟨0, 0, 0, rfl, rfl, rfl, Nat.zero_le _, rfl, rfl, HB1.out, HX1.out, HY1.out⟩
  case round =>
    clear HB1 HX1 HY1
    obtain ⟨k, f', m', rfl, rfl, rfl, hkn, hf', hm', hB, hxr, hyr⟩ := hrel
    have HF := hidK hf'
    have HG := hidK hm'
    have HX := hidK hxr
    have HY := hidK hyr
    have hsk : f' + m' = k := by rw [hf', hm']; exact HSUM.out k hkn
    clear hf' hm' hxr hyr
    by_cases hk : k < m
    · have kI : (k : Int) < (m : Int) := by omega
      have k0 : (0 : Int) ≤ (k : Int) := by omega
      have kc : k ≤ c2 := by omega
      have kcI : (k : Int) ≤ (c2 : Int) := by omega
      have hkl : k < Q.length := by have := HM.out; omega
      obtain ⟨qq, hqx⟩ : ∃ x, Q[k]? = some x := ⟨_, List.getElem?_eq_getElem hkl⟩
      obtain ⟨b1, o1, p1, e1, d0⟩ := (HU.out.on hB).tx hqx
      have HQX := hidK hqx
      injection e1 with e1 e1b e1c
      subst e1
      obtain ⟨c, hc⟩ : ∃ c, c = cnt (Q.take k) qq := ⟨_, rfl⟩
      have hcb : c ≤ 1048576 := by rw [hc]; exact Nat.le_trans (cnt_le _ _) (by rw [List.length_take]; omega)
      have HC := hidK hc
      obtain ⟨t, ht⟩ : ∃ t, t = cnt (nms L) qq := ⟨_, rfl⟩
      have htb : t ≤ 1048576 := by rw [ht]; exact Nat.le_trans (cnt_le _ _) (by rw [List.length_map]; have := HN.out; omega)
      have HT := hidK ht
      have HGV : Hid (∀ W, Below w.heap.size w W → Calls Try.prog 10 #[.slice (some ⟨b1, o1, none⟩) k c2, .string qq] W fun e w' => e = .returned (.int .i64 (c : Nat)) ∧ w' = W) := by
        intro W hb; rw [hc]; exact given_c _ (Q.take k) qq W (row_takeT (HU.out.on hb) HM.out.symm (by omega)) (by rw [List.length_take]; omega)
      have HMB : Hid (∀ W, Below w.heap.size w W → Calls Try.prog 11 #[.slice a1 n c1, .string qq] W fun e w' => e = .returned (.int .i64 (t : Nat)) ∧ w' = W) := by
        intro W hb; rw [ht]; exact members_c _ L qq W (HV.out.on hb) (by have := HN.out; omega)
      have HBr := hidK hB
      clear hqx hkl e1b e1c hc ht hB
      go_wp2_with fail
      go_quiet ((go_at_call 10; exact Calls.quiet_of_same (HGV.out _ (by first | exact HBr.out | exact belDrewN HBr.out _))))
      have hbq := belDrewN (Below.refl wr.heap.size wr) nq
      generalize wr.drewN nq = w3 at hbq ⊢
      have d3 := cell_onA d0 hbq
      have HB3 := hidK (bel3K HBr.out hbq)
      have HX3 := hidK (HX.out.on hbq)
      have HY3 := hidK (HY.out.on hbq)
      clear hbq d0 HBr HX HY HGV
      cases hno : nthO (nms L) qq c with
      | some j =>
        have hct : c < t := by rw [HT.out]; exact nthO_some_iff.1 ⟨j, hno⟩
        have ctI : (c : Int) < (t : Int) := by omega
        obtain ⟨e1, e2⟩ := sel_some (N := nms L) HQX.out (by rw [← HC.out]; exact hno)
        obtain ⟨R, eR⟩ := fnd_prefix (N := nms L) (Q := Q) (show k + 1 ≤ m by omega)
        rw [e1] at eR
        have hfx : (fnd (nms L) Q m)[f']? = some (j : Int) := by rw [HF.out]; exact snoc_get eR
        have hfl : f' < lf := by rw [HLF.out]; exact (List.getElem?_eq_some_iff.1 hfx).1
        have fI : (f' : Int) < (lf : Int) := by omega
        have f0 : (0 : Int) ≤ (f' : Int) := by omega
        have hjn : j < n := by have := (nthO_lt hno).1; rw [List.length_map] at this; have := HN.out; omega
        have jI : (j : Int) < (n : Int) := by omega
        have j0 : (0 : Int) ≤ (j : Int) := by omega
        have jc : j ≤ c1 := by omega
        have jcI : (j : Int) ≤ (c1 : Int) := by omega
        have g1 : decide ((lf : Int) ≤ (f' : Int)) = false := by simp; omega
        have g2 : decide ((j : Int) < 0) = false := by simp
        have g3 : decide ((n : Int) ≤ (j : Int)) = false := by simp; omega
        obtain ⟨b3, o3, p3, e3, x3⟩ := HX3.out.nm hfx
        rw [← HLF.out] at e3
        injection e3 with e3 e3b e3c
        subst e3
        obtain ⟨ym, hym⟩ : ∃ ym, L[j]? = some ym := ⟨_, List.getElem?_eq_getElem (by have := HN.out; omega)⟩
        have hyn : ym.n = qq := by have h5 := (nthO_lt hno).2; rw [nms_get hym] at h5; injection h5
        obtain ⟨b4, o4, p4, e4, y0, y1, y2, y3, y4, y5, y6⟩ := (HV.out.on HB3.out).mx hym
        rw [← HN.out] at e4
        injection e4 with e4 e4b e4c
        subst e4
        rw [hyn] at y4
        have HM2 : Hid (∀ W, Below w.heap.size w W → Calls Try.prog 11 #[.slice (some ⟨b4, o4, none⟩) j c1, .string qq] W fun e w' => e = .returned (.int .i64 (c : Nat)) ∧ w' = W) := by
          intro W hb
          have h6 : cnt (nms (L.take j)) qq = c := by
            have := nthO_cntC hno
            rw [← this]; unfold nms; rw [List.map_take]
          rw [← h6]; exact members_c _ (L.take j) qq W (row_take (HV.out.on hb) HN.out.symm (by omega)) (by rw [List.length_take]; have := HN.out; omega)
        have HNX : Hid ((fnd (nms L) Q (k + 1)).length = f' + 1 ∧ (mis (nms L) Q (k + 1)).length = m') := by
          rw [e1, e2, List.length_append, ← HF.out, ← HG.out]; exact ⟨rfl, rfl⟩
        clear hno e1 e2 eR hfx e3b e3c e4b e4c hym hyn HU
        go_upto_region 11 with (go_at_call 11; refine (HMB.out _ HB3.out).mono ?_; rintro e w4 ⟨rfl, rfl⟩)
        go_wp2_with fail
        go_quiet ((go_at_call 11; exact Calls.quiet_of_same (HM2.out _ (by first | exact HB3.out | exact belDrewN HB3.out _))))
        have hbq := belDrewN (Below.refl w4.heap.size w4) nq
        generalize w4.drewN nq = w5 at hbq ⊢
        have HB5 := hidK (bel3K HB3.out hbq)
        have HX5 := hidK (HX3.out.on hbq)
        have HY5 := hidK (HY3.out.on hbq)
        clear hbq HB3 HX3 HY3 HMB HM2 x3 y0 y1 y2 y3 y4 y5 y6 d3
        go_wp2
        go_roundw
        case rel => exact ⟨k + 1, f' + 1, m', by go_num, by go_num, rfl, by omega, HNX.out.1.symm, HNX.out.2.symm, HB5.out, HX5.out, HY5.out⟩
        case measure => simp [intOf]; omega
      | none =>
        have hct : ¬ (c < t) := by rw [HT.out]; intro e; obtain ⟨j, hj⟩ := nthO_some_iff.2 e; rw [hno] at hj; cases hj
        have g0 : decide ((c : Int) < (t : Int)) = false := by simp; omega
        have g0b : ¬ ((c : Int) < (t : Int)) := by omega
        obtain ⟨e1, e2⟩ := sel_none (N := nms L) HQX.out (by rw [← HC.out]; exact hno)
        obtain ⟨R, eR⟩ := mis_prefix (N := nms L) (Q := Q) (show k + 1 ≤ m by omega)
        rw [e2] at eR
        have hmx : (mis (nms L) Q m)[m']? = some qq := by rw [HG.out]; exact snoc_get eR
        have hml : m' < lm := by rw [HLM.out]; exact (List.getElem?_eq_some_iff.1 hmx).1
        have mI : (m' : Int) < (lm : Int) := by omega
        have m0 : (0 : Int) ≤ (m' : Int) := by omega
        have g1 : decide ((lm : Int) ≤ (m' : Int)) = false := by simp; omega
        obtain ⟨b3, o3, p3, e3, x3⟩ := HY3.out.tx hmx
        rw [← HLM.out] at e3
        injection e3 with e3 e3b e3c
        subst e3
        have HNX : Hid ((fnd (nms L) Q (k + 1)).length = f' ∧ (mis (nms L) Q (k + 1)).length = m' + 1) := by
          rw [e1, e2, List.length_append, ← HF.out, ← HG.out]; exact ⟨rfl, rfl⟩
        clear hno e1 e2 eR hmx e3b e3c HU HV
        go_upto_region 17 with (go_at_call 11; refine (HMB.out _ HB3.out).mono ?_; rintro e w4 ⟨rfl, rfl⟩)
        go_wp2_with fail
        go_quiet (fail)
        have hbq := belDrewN (Below.refl w4.heap.size w4) nq
        generalize w4.drewN nq = w5 at hbq ⊢
        have HB5 := hidK (bel3K HB3.out hbq)
        have HX5 := hidK (HX3.out.on hbq)
        have HY5 := hidK (HY3.out.on hbq)
        clear hbq HB3 HX3 HY3 HMB x3 d3
        go_wp2
        go_roundw
        case rel => exact ⟨k + 1, f', m' + 1, by go_num, rfl, by go_num, by omega, HNX.out.1.symm, HNX.out.2.symm, HB5.out, HX5.out, HY5.out⟩
        case measure => simp [intOf]; omega
    · obtain rfl : k = m := by omega
      have e1 : f' = lf := by rw [HF.out, HLF.out]
      have e2 : m' = lm := by rw [HG.out, HLM.out]
      subst e1
      subst e2
      clear HV HU HX HY
      go_wp2
      go_ret
      exact ⟨by simp, hB⟩
end Go.Proofs.Ytaaagdmhokgcjaa
