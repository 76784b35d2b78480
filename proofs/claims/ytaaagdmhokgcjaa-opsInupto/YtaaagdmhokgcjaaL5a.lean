
-- OpsIn: the walk.
import Derived.Test.YtaaagdmhokgcjaaL50
import Derived.Deep.RegionWith
namespace Go.Proofs.Ytaaagdmhokgcjaa
open Go.ChangeShapes Go.WideShapes Go.ChangeAt Go.RowKit
set_option linter.unusedVariables false
set_option maxRecDepth 100000
set_option linter.unusedSimpArgs false
set_option maxHeartbeats 16000000 in
theorem opsIn_a (v0 v1 : Value) (L M : List Mx) (pw : Int) (pa : ByteArray) (w : World) (h0 : RowM w v0 L) (h1 : RowM w v1 M) (hl : L.length ≤ 1048576) (hm : M.length ≤ 1048576) (hAB : ancB pw = false) :
    Calls Try.prog 6 #[v0, v1, .agg #[.int .i64 pw, .string pa]] w fun e w' => e = .returned (.bool true) ∧ Below w.heap.size w w' := by
  obtain ⟨a0, c0, q0, _, _⟩ := h0.form
  obtain ⟨a1, c2, q1, hcc, hcm⟩ := h1.form
  obtain ⟨W0, hW0⟩ : ∃ W0, W0 = w.alloc (.cells #[.int .i64 pw, .string pa] 39) := ⟨_, rfl⟩
  have hb0 : Below w.heap.size w W0 := by rw [hW0]; exact bupK (Below.refl _ _) _
  have hP0 : W0.heap[w.heap.size]? = some (.cells #[.int .i64 pw, .string pa] 39 (0, 0)) := by rw [hW0]; exact heap_alloc_new w _
  have HV := hidK h0
  have HU := hidK h1
  obtain ⟨n, hnn⟩ : ∃ n, n = L.length := ⟨_, rfl⟩
  obtain ⟨m, hmm⟩ : ∃ m, m = M.length := ⟨_, rfl⟩
  have HN := hidK hnn
  have HM := hidK hmm
  have hnb : n ≤ 1048576 := by rw [hnn]; exact hl
  have hmb : m ≤ 1048576 := by rw [hmm]; exact hm
  have hcm' : c2 ≤ 9223372036854775807 := hcm
  subst q0
  subst q1
  have HB0 := hidK hb0
  have HP0 := hidK hP0
  rw [← hnn] at hl HV ⊢
  rw [← hmm] at hm hcc HU ⊢
  have HAN := hidK (anchored_c pw pa)
  have hcw := cell_rowK hP0 0 _ rfl
  have hca := cell_rowK hP0 1 _ rfl
  have HIN := hidK (insert_c (.slice a0 n c0) (.slice a1 m c2) L M pw pa false W0 (HV.out.on hb0) (HU.out.on hb0) (by omega) (by omega))
  clear h0 h1 hl hm hnn hmm hb0 hP0 hcm
  go_enter Try.func6, Try.ntmps6
  go_upto_region 1 with fail
  rw [← hW0]
  clear hW0
  go_upto_region 2 with (go_at_call 18; refine HIN.out.mono ?_; rintro e w1 ⟨out, ev, rfl, ho1, he1, hb1⟩)
  have HB1 := hidK (bel3K HB0.out hb1)
  have HP1 := hidK (hkeepK hb1 HP0.out)
  have hcw := cell_rowK HP1.out 0 _ rfl
  have hca := cell_rowK HP1.out 1 _ rfl
  have HO1 := hidK ho1.row
  have HE1 := hidK he1.row
  obtain ⟨z, hz⟩ : ∃ z, z = cnt (nms L) pa := ⟨_, rfl⟩
  have HZ := hidK hz
  have MR : Hid (∀ W, Below w.heap.size w W → Calls Try.prog 11 #[.slice a0 n c0, .string pa] W fun e w' => e = .returned (.int .i64 (z : Nat)) ∧ w' = W) := fun W hb => by rw [hz]; exact members_c _ L pa W (HV.out.on hb) (by have := HN.out; omega)
  clear ho1 he1 hb1 HB0 HP0 HIN hz
  cases hsp : spotO L pw pa with
  | none =>
    have hx0 : insX L M pw pa false = [] := by unfold insX; rw [hsp]
    have hy0 : insY L M pw pa false = [] := by unfold insY; rw [hsp]
    have hc0 : insC L M pw pa = 131 := by unfold insC; rw [hsp]
    rw [hx0] at HO1
    rw [hy0] at HE1
    rw [hc0]
    obtain ⟨ao1, co1, qo, _, _⟩ := HO1.out.form
    obtain ⟨ae1, ce1, qe, _, _⟩ := HE1.out.form
    subst qo
    subst qe
    have hanc : ancB pw = true ∧ z = 0 := by
      unfold spotO at hsp
      split at hsp
      · rename_i e
        refine ⟨by unfold ancB; simp [e], ?_⟩
        rw [Option.map_eq_none_iff] at hsp
        rw [HZ.out]; exact nthO_cnt0.1 hsp
      · split at hsp
        · rename_i e
          refine ⟨by unfold ancB; simp [e], ?_⟩
          rw [HZ.out]; exact nthO_cnt0.1 hsp
        · cases hsp
    obtain ⟨e1, e2⟩ := hanc
    have HAB := hidK e1
    subst e2
    clear hsp hx0 hy0 hc0 e1 HO1 HE1
    go_wp2_with (first | (go_at_call 19; refine (HAN.out _).mono ?_; rintro e w2 ⟨rfl, hb2⟩; rw [HAB.out]; have hca2 := cell_onA hca hb2; have HB2 := hidK (bel3K HB1.out hb2); clear hb2) | (go_at_call 11; refine (MR.out _ HB2.out).mono ?_; rintro e w3 ⟨rfl, rfl⟩))
    go_ret
    exact ⟨by simp, HB2.out⟩
  | some p =>
    have hc0 : insC L M pw pa = 0 := by unfold insC; rw [hsp]
    have hy0 : insY L M pw pa false = insE L M false M.length := by unfold insY; rw [hsp]
    rw [hc0]
    rw [hy0] at HE1
    obtain ⟨X, hX⟩ : ∃ X, X = insX L M pw pa false := ⟨_, rfl⟩
    have HXE := hidK hX
    rw [← hX] at HO1
    have HSP := hidK hsp
    have hXl : X.length ≤ 2097152 := by
      rw [hX, out_parts hsp]
      have := (insL_len L M false M.length).2
      have := HN.out; have := HM.out
      simp only [List.length_append, List.length_take, List.length_drop]; omega
    obtain ⟨nx, hnx⟩ : ∃ nx, nx = X.length := ⟨_, rfl⟩
    have hnxb : nx ≤ 2097152 := by rw [hnx]; exact hXl
    have HNX := hidK hnx
    have hXL := hidK hXl
    obtain ⟨ao1, co1, qo, _, _⟩ := HO1.out.form
    obtain ⟨ae1, ce1, qe, _, _⟩ := HE1.out.form
    rw [← hnx] at qo
    rw [insE_len L M false M.length (Nat.le_refl _), ← HM.out] at qe
    subst qo
    subst qe
    have hcond : (ancB pw = false) ∨ (ancB pw = true ∧ z ≠ 0) := by
      cases ha : ancB pw with
      | false => exact .inl rfl
      | true =>
        refine .inr ⟨rfl, fun ez => ?_⟩
        have h5 : pw = 1 ∨ pw = 2 := by unfold ancB at ha; simpa using ha
        have h6 : nthO (nms L) pa 0 = none := nthO_cnt0.2 (by rw [← HZ.out]; exact ez)
        unfold spotO at hsp
        rw [h6] at hsp
        rcases h5 with e | e
        · rw [if_pos e] at hsp; cases hsp
        · rw [if_neg (by omega), if_pos e] at hsp; cases hsp
    clear hX hsp hnx hXl hc0 hy0
    have HAB := hidK hAB
    clear hcond hAB
    go_upto_region 4 with (go_at_call 19; refine (HAN.out _).mono ?_; rintro e w2 ⟨rfl, hb2⟩; rw [HAB.out]; have hca2 := cell_onA hca hb2; have HB2 := hidK (bel3K HB1.out hb2); have HO2 := hidK (HO1.out.on hb2); have HE2 := hidK (HE1.out.on hb2); clear hb2)
    clear hcw hca hca2 HB1 HO1 HE1 HP1 MR
    go_wp2
    go_loopw [10] (fun i wx => ∃ k : Nat, i = .int .i64 k ∧ k ≤ m ∧ Below w.heap.size w wx ∧ RowM wx (.slice ao1 nx co1) X ∧ RowE wx (.slice ae1 m ce1) (insE L M false M.length)) (fun i _ => m - (intOf i).toNat)
    case atStart => exact ⟨0, rfl, Nat.zero_le _, HB2.out, HO2.out, HE2.out⟩
    case round =>
      clear HB2 HO2 HE2
      obtain ⟨k, rfl, hkn, hB, hO, hE⟩ := hrel
      have HBr := hidK hB
      have HO := hidK hO
      have HE := hidK hE
      clear hB hO hE
      by_cases hk : k < m
      · have kI : (k : Int) < (m : Int) := by omega
        have k0 : (0 : Int) ≤ (k : Int) := by omega
        have kc : (k : Int) ≤ (c2 : Int) := by omega
        have hkc : k ≤ c2 := by omega
        have hkl : k < M.length := by have := HM.out; omega
        obtain ⟨⟨dd, uu, gg, mm, nn, zz, dt⟩, hx⟩ : ∃ x, M[k]? = some x := ⟨_, List.getElem?_eq_getElem hkl⟩
        obtain ⟨b1, o1, p1, e1, d0, d1, d2, d3, d4, d5, d6⟩ := (HU.out.on HBr.out).mx hx
        have HX := hidK hx
        obtain ⟨b5, o5, p5, e5, ev0, ev1⟩ := HE.out.ev (insE_get (u := false) (L := L) hx)
        rw [event_there hx] at ev0
        simp only [] at d0 d1 d2 d3 d4 d5 d6 ev0 ev1
        injection e1 with e1 e1b e1c
        subst e1
        rw [insE_len L M false M.length (Nat.le_refl _), ← HM.out] at e5
        injection e5 with e5 e5b e5c
        subst e5
        have HC1 : Hid (∀ W, Below w.heap.size w W → Calls Try.prog 11 #[.slice a0 n c0, .string nn] W fun e w' => e = .returned (.int .i64 (cnt (nms L) nn : Nat)) ∧ w' = W) := fun W hb => members_c _ L nn W (HV.out.on hb) (by have := HN.out; omega)
        have HC2 : Hid (∀ W, Below w.heap.size w W → Calls Try.prog 11 #[.slice (some ⟨b1, o1, none⟩) k c2, .string nn] W fun e w' => e = .returned (.int .i64 (cnt (nms (M.take k)) nn : Nat)) ∧ w' = W) := fun W hb => members_c _ (M.take k) nn W (row_take (HU.out.on hb) HM.out.symm (by omega)) (by rw [List.length_take]; have := HM.out; omega)
        obtain ⟨z1, hz1⟩ : ∃ z1, z1 = cnt (nms L) nn := ⟨_, rfl⟩
        obtain ⟨z2, hz2⟩ : ∃ z2, z2 = cnt (nms (M.take k)) nn := ⟨_, rfl⟩
        have HZ1 := hidK hz1
        have HZ2 := hidK hz2
        rw [← hz1] at HC1
        rw [← hz2] at HC2
        rw [← hz1, ← hz2] at ev0
        clear hx hkl e1b e1c e5b e5c hz1 hz2
        by_cases hA : z1 = 0
        · subst hA
          by_cases hD : z2 = 0
          · subst hD
            rw [if_neg (by omega)] at ev0
            go_wp2_with fail
            go_quiet (first | (go_at_call_of 11 a0; exact Calls.quiet_of_same (HC1.out _ (by first | exact HBr.out | exact belDrewN HBr.out _))) | (go_at_call_of 11 b1; exact Calls.quiet_of_same (HC2.out _ (by first | exact HBr.out | exact belDrewN HBr.out _))))
            have hbq := belDrewN (Below.refl wr.heap.size wr) nq
            generalize wr.drewN nq = w3 at hbq ⊢
            have HBr := hidK (bel3K HBr.out hbq)
            have HO := hidK (HO.out.on hbq)
            have HE := hidK (HE.out.on hbq)
            have d0 := cell_onA d0 hbq
            have d1 := cell_onA d1 hbq
            have d2 := cell_onA d2 hbq
            have d3 := cell_onA d3 hbq
            have d4 := cell_onA d4 hbq
            have d5 := cell_onA d5 hbq
            have d6 := cell_onA d6 hbq
            have ev0 := cell_onA ev0 hbq
            have ev1 := cell_onA ev1 hbq
            clear hbq
            go_wp2
            go_quiet (fail)
            have hbq := belDrewN (Below.refl w3.heap.size w3) nq
            generalize w3.drewN nq = w4 at hbq ⊢
            have HBr := hidK (bel3K HBr.out hbq)
            have HO := hidK (HO.out.on hbq)
            have HE := hidK (HE.out.on hbq)
            have d0 := cell_onA d0 hbq
            have d1 := cell_onA d1 hbq
            have d2 := cell_onA d2 hbq
            have d3 := cell_onA d3 hbq
            have d4 := cell_onA d4 hbq
            have d5 := cell_onA d5 hbq
            have d6 := cell_onA d6 hbq
            have ev0 := cell_onA ev0 hbq
            have ev1 := cell_onA ev1 hbq
            clear hbq
            have HC4 : Hid (∀ W, Below w.heap.size w W → RowM W (.slice ao1 nx co1) X → Calls Try.prog 11 #[.slice ao1 nx co1, .string nn] W fun e w' => e = .returned (.int .i64 (1)) ∧ w' = W) := fun W hb hr => by
              have h5 := members_c (.slice ao1 nx co1) X nn W hr (by have := HNX.out; omega)
              have h6 : max 1 (cnt (nms L) nn) = 1 := by have := HZ1.out; omega
              rw [HXE.out, out_count HSP.out HX.out, h6] at h5; exact h5
            have kw : IntKind.i64.wrap ((k : Int) + 1) = (k : Int) + 1 := by rw [IntKind.wrap_i64]; omega
            have kt : ((k : Int) + 1).toNat = k + 1 := by omega
            have k1 : (0 : Int) ≤ (k : Int) + 1 := by omega
            have k2 : (k : Int) + 1 ≤ (m : Int) := by omega
            obtain ⟨z3, hz3e⟩ : ∃ z3, z3 = cnt (nms (M.drop (k + 1))) nn := ⟨_, rfl⟩
            have HZ3 := hidK hz3e
            by_cases hcap : c2 = k + 1
            · have hdr : M.drop (k + 1) = [] := List.drop_eq_nil_of_le (by have := HM.out; omega)
              have HC3 : Hid (∀ W, Below w.heap.size w W → Calls Try.prog 11 #[.slice (some ⟨b1, o1, none⟩) 0 0, .string nn] W fun e w' => e = .returned (.int .i64 (z3 : Nat)) ∧ w' = W) := fun W hb => by
                rw [hz3e, hdr]; exact members_c _ [] nn W ⟨_, 0, rfl, Nat.le_refl _, by decide, (fun h => by cases h), fun h => by simp at h⟩ (by simp)
              have hmk : m = k + 1 := by omega
              have HDR := hidK (show cnt (nms (M.drop (k + 1))) nn = 0 by rw [hdr]; rfl)
              clear hdr hz3e
              subst hcap
              subst hmk
              by_cases hz3 : z3 = 0
              · subst hz3
                have HLS := hidK (lastOf HX.out HZ3.out.symm)
                go_wp2_with fail
                go_quiet (first | (go_at_call_of 11 b1; exact Calls.quiet_of_same (HC3.out _ (by first | exact HBr.out | exact belDrewN HBr.out _))))
                have hbq := belDrewN (Below.refl w4.heap.size w4) nq
                generalize w4.drewN nq = w5 at hbq ⊢
                have HBr := hidK (bel3K HBr.out hbq)
                have HO := hidK (HO.out.on hbq)
                have HE := hidK (HE.out.on hbq)
                have d0 := cell_onA d0 hbq
                have d1 := cell_onA d1 hbq
                have d2 := cell_onA d2 hbq
                have d3 := cell_onA d3 hbq
                have d4 := cell_onA d4 hbq
                have d5 := cell_onA d5 hbq
                have d6 := cell_onA d6 hbq
                have ev0 := cell_onA ev0 hbq
                have ev1 := cell_onA ev1 hbq
                clear hbq
                go_upto_region 14 with (go_at_call 20; refine (first_c _ X nn ⟨dd, uu, gg, mm, nn, zz, dt⟩ _ HO.out (by have := hXL.out; omega) (by rw [HXE.out]; exact out_first HSP.out HX.out HLS.out)).mono ?_; rintro e w6 ⟨rfl, hb6⟩)
                have d0 := cell_onA d0 (bel3K hb6 (bupK (Below.refl w6.heap.size w6) (.cells #[.int .i64 dd, .int .i64 uu, .int .i64 gg, .int .i64 mm, .string nn, .int .i64 zz, .string dt] 32)))
                have d1 := cell_onA d1 (bel3K hb6 (bupK (Below.refl w6.heap.size w6) (.cells #[.int .i64 dd, .int .i64 uu, .int .i64 gg, .int .i64 mm, .string nn, .int .i64 zz, .string dt] 32)))
                have d2 := cell_onA d2 (bel3K hb6 (bupK (Below.refl w6.heap.size w6) (.cells #[.int .i64 dd, .int .i64 uu, .int .i64 gg, .int .i64 mm, .string nn, .int .i64 zz, .string dt] 32)))
                have d3 := cell_onA d3 (bel3K hb6 (bupK (Below.refl w6.heap.size w6) (.cells #[.int .i64 dd, .int .i64 uu, .int .i64 gg, .int .i64 mm, .string nn, .int .i64 zz, .string dt] 32)))
                have d4 := cell_onA d4 (bel3K hb6 (bupK (Below.refl w6.heap.size w6) (.cells #[.int .i64 dd, .int .i64 uu, .int .i64 gg, .int .i64 mm, .string nn, .int .i64 zz, .string dt] 32)))
                have d5 := cell_onA d5 (bel3K hb6 (bupK (Below.refl w6.heap.size w6) (.cells #[.int .i64 dd, .int .i64 uu, .int .i64 gg, .int .i64 mm, .string nn, .int .i64 zz, .string dt] 32)))
                have d6 := cell_onA d6 (bel3K hb6 (bupK (Below.refl w6.heap.size w6) (.cells #[.int .i64 dd, .int .i64 uu, .int .i64 gg, .int .i64 mm, .string nn, .int .i64 zz, .string dt] 32)))
                have ev0 := cell_onA ev0 (bel3K hb6 (bupK (Below.refl w6.heap.size w6) (.cells #[.int .i64 dd, .int .i64 uu, .int .i64 gg, .int .i64 mm, .string nn, .int .i64 zz, .string dt] 32)))
                have ev1 := cell_onA ev1 (bel3K hb6 (bupK (Below.refl w6.heap.size w6) (.cells #[.int .i64 dd, .int .i64 uu, .int .i64 gg, .int .i64 mm, .string nn, .int .i64 zz, .string dt] 32)))
                have HBr := hidK (bupK2 (bel3K HBr.out hb6) (.cells #[.int .i64 dd, .int .i64 uu, .int .i64 gg, .int .i64 mm, .string nn, .int .i64 zz, .string dt] 32))
                have HO := hidK (HO.out.on (bel3K hb6 (bupK (Below.refl w6.heap.size w6) (.cells #[.int .i64 dd, .int .i64 uu, .int .i64 gg, .int .i64 mm, .string nn, .int .i64 zz, .string dt] 32))))
                have HE := hidK (HE.out.on (bel3K hb6 (bupK (Below.refl w6.heap.size w6) (.cells #[.int .i64 dd, .int .i64 uu, .int .i64 gg, .int .i64 mm, .string nn, .int .i64 zz, .string dt] 32))))
                have hEq := eqMx dd uu gg mm nn zz dt
                clear hb6
                go_wp2_with fail
                go_quiet (fail)
                have hbq := belDrewN (Below.refl (w6.alloc (.cells #[.int .i64 dd, .int .i64 uu, .int .i64 gg, .int .i64 mm, .string nn, .int .i64 zz, .string dt] 32)).heap.size (w6.alloc (.cells #[.int .i64 dd, .int .i64 uu, .int .i64 gg, .int .i64 mm, .string nn, .int .i64 zz, .string dt] 32))) nq
                generalize (w6.alloc (.cells #[.int .i64 dd, .int .i64 uu, .int .i64 gg, .int .i64 mm, .string nn, .int .i64 zz, .string dt] 32)).drewN nq = w7 at hbq ⊢
                have HBr := hidK (bel3K HBr.out hbq)
                have HO := hidK (HO.out.on hbq)
                have HE := hidK (HE.out.on hbq)
                have d0 := cell_onA d0 hbq
                have d1 := cell_onA d1 hbq
                have d2 := cell_onA d2 hbq
                have d3 := cell_onA d3 hbq
                have d4 := cell_onA d4 hbq
                have d5 := cell_onA d5 hbq
                have d6 := cell_onA d6 hbq
                have ev0 := cell_onA ev0 hbq
                have ev1 := cell_onA ev1 hbq
                clear hbq
                clear hEq
                go_wp2_with fail
                go_quiet (first | (go_at_call_of 11 ao1; exact Calls.quiet_of_same (HC4.out _ (by first | exact HBr.out | exact belDrewN HBr.out _) (by first | exact HO.out | exact HO.out.on (belDrewN (Below.refl _ _) _)))) | (go_at_call_of 11 a0; exact Calls.quiet_of_same (HC1.out _ (by first | exact HBr.out | exact belDrewN HBr.out _))))
                have hbq := belDrewN (Below.refl w7.heap.size w7) nq
                have HB9 := hidK (bel3K HBr.out hbq)
                have HO9 := hidK (HO.out.on hbq)
                have HE9 := hidK (HE.out.on hbq)
                clear hbq HBr HO HE
                go_wp2
                rw [show ((k : Int) + 1) = ((k + 1 : Nat) : Int) from by omega]
                go_roundw
                case rel => exact ⟨k + 1, by go_num, by omega, HB9.out, HO9.out, HE9.out⟩
                case measure => first | (simp [intOf]; done) | (simp [intOf]; omega)
              · exact absurd (by rw [HZ3.out]; exact HDR.out) hz3
            · have hcn : ¬ (c2 = k + 1) := hcap
              have HC3 : Hid (∀ W, Below w.heap.size w W → Calls Try.prog 11 #[.slice (some ⟨b1, o1 + (k + 1) * 7, none⟩) (m - (k + 1)) (c2 - (k + 1)), .string nn] W fun e w' => e = .returned (.int .i64 (z3 : Nat)) ∧ w' = W) := fun W hb => by
                rw [hz3e]; exact members_c _ (M.drop (k + 1)) nn W (row_drop (HU.out.on hb) HM.out.symm (by omega)) (by rw [List.length_drop]; have := HM.out; omega)
              clear hz3e
              by_cases hz3 : z3 = 0
              · subst hz3
                have HLS := hidK (lastOf HX.out HZ3.out.symm)
                go_wp2_with fail
                go_quiet (first | (go_at_call_of 11 b1; exact Calls.quiet_of_same (HC3.out _ (by first | exact HBr.out | exact belDrewN HBr.out _))))
                have hbq := belDrewN (Below.refl w4.heap.size w4) nq
                generalize w4.drewN nq = w5 at hbq ⊢
                have HBr := hidK (bel3K HBr.out hbq)
                have HO := hidK (HO.out.on hbq)
                have HE := hidK (HE.out.on hbq)
                have d0 := cell_onA d0 hbq
                have d1 := cell_onA d1 hbq
                have d2 := cell_onA d2 hbq
                have d3 := cell_onA d3 hbq
                have d4 := cell_onA d4 hbq
                have d5 := cell_onA d5 hbq
                have d6 := cell_onA d6 hbq
                have ev0 := cell_onA ev0 hbq
                have ev1 := cell_onA ev1 hbq
                clear hbq
                go_upto_region 14 with (go_at_call 20; refine (first_c _ X nn ⟨dd, uu, gg, mm, nn, zz, dt⟩ _ HO.out (by have := hXL.out; omega) (by rw [HXE.out]; exact out_first HSP.out HX.out HLS.out)).mono ?_; rintro e w6 ⟨rfl, hb6⟩)
                have d0 := cell_onA d0 (bel3K hb6 (bupK (Below.refl w6.heap.size w6) (.cells #[.int .i64 dd, .int .i64 uu, .int .i64 gg, .int .i64 mm, .string nn, .int .i64 zz, .string dt] 32)))
                have d1 := cell_onA d1 (bel3K hb6 (bupK (Below.refl w6.heap.size w6) (.cells #[.int .i64 dd, .int .i64 uu, .int .i64 gg, .int .i64 mm, .string nn, .int .i64 zz, .string dt] 32)))
                have d2 := cell_onA d2 (bel3K hb6 (bupK (Below.refl w6.heap.size w6) (.cells #[.int .i64 dd, .int .i64 uu, .int .i64 gg, .int .i64 mm, .string nn, .int .i64 zz, .string dt] 32)))
                have d3 := cell_onA d3 (bel3K hb6 (bupK (Below.refl w6.heap.size w6) (.cells #[.int .i64 dd, .int .i64 uu, .int .i64 gg, .int .i64 mm, .string nn, .int .i64 zz, .string dt] 32)))
                have d4 := cell_onA d4 (bel3K hb6 (bupK (Below.refl w6.heap.size w6) (.cells #[.int .i64 dd, .int .i64 uu, .int .i64 gg, .int .i64 mm, .string nn, .int .i64 zz, .string dt] 32)))
                have d5 := cell_onA d5 (bel3K hb6 (bupK (Below.refl w6.heap.size w6) (.cells #[.int .i64 dd, .int .i64 uu, .int .i64 gg, .int .i64 mm, .string nn, .int .i64 zz, .string dt] 32)))
                have d6 := cell_onA d6 (bel3K hb6 (bupK (Below.refl w6.heap.size w6) (.cells #[.int .i64 dd, .int .i64 uu, .int .i64 gg, .int .i64 mm, .string nn, .int .i64 zz, .string dt] 32)))
                have ev0 := cell_onA ev0 (bel3K hb6 (bupK (Below.refl w6.heap.size w6) (.cells #[.int .i64 dd, .int .i64 uu, .int .i64 gg, .int .i64 mm, .string nn, .int .i64 zz, .string dt] 32)))
                have ev1 := cell_onA ev1 (bel3K hb6 (bupK (Below.refl w6.heap.size w6) (.cells #[.int .i64 dd, .int .i64 uu, .int .i64 gg, .int .i64 mm, .string nn, .int .i64 zz, .string dt] 32)))
                have HBr := hidK (bupK2 (bel3K HBr.out hb6) (.cells #[.int .i64 dd, .int .i64 uu, .int .i64 gg, .int .i64 mm, .string nn, .int .i64 zz, .string dt] 32))
                have HO := hidK (HO.out.on (bel3K hb6 (bupK (Below.refl w6.heap.size w6) (.cells #[.int .i64 dd, .int .i64 uu, .int .i64 gg, .int .i64 mm, .string nn, .int .i64 zz, .string dt] 32))))
                have HE := hidK (HE.out.on (bel3K hb6 (bupK (Below.refl w6.heap.size w6) (.cells #[.int .i64 dd, .int .i64 uu, .int .i64 gg, .int .i64 mm, .string nn, .int .i64 zz, .string dt] 32))))
                have hEq := eqMx dd uu gg mm nn zz dt
                clear hb6
                go_wp2_with fail
                go_quiet (fail)
                have hbq := belDrewN (Below.refl (w6.alloc (.cells #[.int .i64 dd, .int .i64 uu, .int .i64 gg, .int .i64 mm, .string nn, .int .i64 zz, .string dt] 32)).heap.size (w6.alloc (.cells #[.int .i64 dd, .int .i64 uu, .int .i64 gg, .int .i64 mm, .string nn, .int .i64 zz, .string dt] 32))) nq
                generalize (w6.alloc (.cells #[.int .i64 dd, .int .i64 uu, .int .i64 gg, .int .i64 mm, .string nn, .int .i64 zz, .string dt] 32)).drewN nq = w7 at hbq ⊢
                have HBr := hidK (bel3K HBr.out hbq)
                have HO := hidK (HO.out.on hbq)
                have HE := hidK (HE.out.on hbq)
                have d0 := cell_onA d0 hbq
                have d1 := cell_onA d1 hbq
                have d2 := cell_onA d2 hbq
                have d3 := cell_onA d3 hbq
                have d4 := cell_onA d4 hbq
                have d5 := cell_onA d5 hbq
                have d6 := cell_onA d6 hbq
                have ev0 := cell_onA ev0 hbq
                have ev1 := cell_onA ev1 hbq
                clear hbq
                clear hEq
                go_wp2_with fail
                go_quiet (first | (go_at_call_of 11 ao1; exact Calls.quiet_of_same (HC4.out _ (by first | exact HBr.out | exact belDrewN HBr.out _) (by first | exact HO.out | exact HO.out.on (belDrewN (Below.refl _ _) _)))) | (go_at_call_of 11 a0; exact Calls.quiet_of_same (HC1.out _ (by first | exact HBr.out | exact belDrewN HBr.out _))))
                have hbq := belDrewN (Below.refl w7.heap.size w7) nq
                have HB9 := hidK (bel3K HBr.out hbq)
                have HO9 := hidK (HO.out.on hbq)
                have HE9 := hidK (HE.out.on hbq)
                clear hbq HBr HO HE
                go_wp2
                go_roundw
                case rel => exact ⟨k + 1, by go_num, by omega, HB9.out, HO9.out, HE9.out⟩
                case measure => first | (simp [intOf]; done) | (simp [intOf]; omega)
              · have g1 : ((z3 : Int) == 0) = false := by simp; omega
                have g2 : decide ((z3 : Int) = 0) = false := by simp; omega
                have g3 : ¬ ((z3 : Int) = 0) := by omega
                go_wp2_with fail
                go_quiet (first | (go_at_call_of 11 b1; exact Calls.quiet_of_same (HC3.out _ (by first | exact HBr.out | exact belDrewN HBr.out _))))
                have hbq := belDrewN (Below.refl w4.heap.size w4) nq
                generalize w4.drewN nq = w5 at hbq ⊢
                have HBr := hidK (bel3K HBr.out hbq)
                have HO := hidK (HO.out.on hbq)
                have HE := hidK (HE.out.on hbq)
                have d0 := cell_onA d0 hbq
                have d1 := cell_onA d1 hbq
                have d2 := cell_onA d2 hbq
                have d3 := cell_onA d3 hbq
                have d4 := cell_onA d4 hbq
                have d5 := cell_onA d5 hbq
                have d6 := cell_onA d6 hbq
                have ev0 := cell_onA ev0 hbq
                have ev1 := cell_onA ev1 hbq
                clear hbq
                go_wp2_with fail
                go_quiet (first | (go_at_call_of 11 ao1; exact Calls.quiet_of_same (HC4.out _ (by first | exact HBr.out | exact belDrewN HBr.out _) (by first | exact HO.out | exact HO.out.on (belDrewN (Below.refl _ _) _)))) | (go_at_call_of 11 a0; exact Calls.quiet_of_same (HC1.out _ (by first | exact HBr.out | exact belDrewN HBr.out _))))
                have hbq := belDrewN (Below.refl w5.heap.size w5) nq
                have HB9 := hidK (bel3K HBr.out hbq)
                have HO9 := hidK (HO.out.on hbq)
                have HE9 := hidK (HE.out.on hbq)
                clear hbq HBr HO HE
                go_wp2
                go_roundw
                case rel => exact ⟨k + 1, by go_num, by omega, HB9.out, HO9.out, HE9.out⟩
                case measure => first | (simp [intOf]; done) | (simp [intOf]; omega)
          · have p0 : 0 < z2 := by omega
            have p1 : (0 : Int) < (z2 : Int) := by omega
            have p2 : decide ((0 : Int) < (z2 : Int)) = true := by simp; omega
            have p3 : decide ((z2 : Int) > 0) = true := by simp; omega
            rw [if_pos (by omega)] at ev0
            go_wp2_with fail
            go_quiet (first | (go_at_call_of 11 a0; exact Calls.quiet_of_same (HC1.out _ (by first | exact HBr.out | exact belDrewN HBr.out _))) | (go_at_call_of 11 b1; exact Calls.quiet_of_same (HC2.out _ (by first | exact HBr.out | exact belDrewN HBr.out _))))
            have hbq := belDrewN (Below.refl wr.heap.size wr) nq
            generalize wr.drewN nq = w3 at hbq ⊢
            have HBr := hidK (bel3K HBr.out hbq)
            have HO := hidK (HO.out.on hbq)
            have HE := hidK (HE.out.on hbq)
            have d0 := cell_onA d0 hbq
            have d1 := cell_onA d1 hbq
            have d2 := cell_onA d2 hbq
            have d3 := cell_onA d3 hbq
            have d4 := cell_onA d4 hbq
            have d5 := cell_onA d5 hbq
            have d6 := cell_onA d6 hbq
            have ev0 := cell_onA ev0 hbq
            have ev1 := cell_onA ev1 hbq
            clear hbq
            go_wp2
            go_quiet (fail)
            have hbq := belDrewN (Below.refl w3.heap.size w3) nq
            generalize w3.drewN nq = w4 at hbq ⊢
            have HBr := hidK (bel3K HBr.out hbq)
            have HO := hidK (HO.out.on hbq)
            have HE := hidK (HE.out.on hbq)
            have d0 := cell_onA d0 hbq
            have d1 := cell_onA d1 hbq
            have d2 := cell_onA d2 hbq
            have d3 := cell_onA d3 hbq
            have d4 := cell_onA d4 hbq
            have d5 := cell_onA d5 hbq
            have d6 := cell_onA d6 hbq
            have ev0 := cell_onA ev0 hbq
            have ev1 := cell_onA ev1 hbq
            clear hbq
            clear p0 p1 p2 p3
            have HC4 : Hid (∀ W, Below w.heap.size w W → RowM W (.slice ao1 nx co1) X → Calls Try.prog 11 #[.slice ao1 nx co1, .string nn] W fun e w' => e = .returned (.int .i64 (1)) ∧ w' = W) := fun W hb hr => by
              have h5 := members_c (.slice ao1 nx co1) X nn W hr (by have := HNX.out; omega)
              have h6 : max 1 (cnt (nms L) nn) = 1 := by have := HZ1.out; omega
              rw [HXE.out, out_count HSP.out HX.out, h6] at h5; exact h5
            have kw : IntKind.i64.wrap ((k : Int) + 1) = (k : Int) + 1 := by rw [IntKind.wrap_i64]; omega
            have kt : ((k : Int) + 1).toNat = k + 1 := by omega
            have k1 : (0 : Int) ≤ (k : Int) + 1 := by omega
            have k2 : (k : Int) + 1 ≤ (m : Int) := by omega
            obtain ⟨z3, hz3e⟩ : ∃ z3, z3 = cnt (nms (M.drop (k + 1))) nn := ⟨_, rfl⟩
            have HZ3 := hidK hz3e
            by_cases hcap : c2 = k + 1
            · have hdr : M.drop (k + 1) = [] := List.drop_eq_nil_of_le (by have := HM.out; omega)
              have HC3 : Hid (∀ W, Below w.heap.size w W → Calls Try.prog 11 #[.slice (some ⟨b1, o1, none⟩) 0 0, .string nn] W fun e w' => e = .returned (.int .i64 (z3 : Nat)) ∧ w' = W) := fun W hb => by
                rw [hz3e, hdr]; exact members_c _ [] nn W ⟨_, 0, rfl, Nat.le_refl _, by decide, (fun h => by cases h), fun h => by simp at h⟩ (by simp)
              have hmk : m = k + 1 := by omega
              have HDR := hidK (show cnt (nms (M.drop (k + 1))) nn = 0 by rw [hdr]; rfl)
              clear hdr hz3e
              subst hcap
              subst hmk
              by_cases hz3 : z3 = 0
              · subst hz3
                have HLS := hidK (lastOf HX.out HZ3.out.symm)
                go_wp2_with fail
                go_quiet (first | (go_at_call_of 11 b1; exact Calls.quiet_of_same (HC3.out _ (by first | exact HBr.out | exact belDrewN HBr.out _))))
                have hbq := belDrewN (Below.refl w4.heap.size w4) nq
                generalize w4.drewN nq = w5 at hbq ⊢
                have HBr := hidK (bel3K HBr.out hbq)
                have HO := hidK (HO.out.on hbq)
                have HE := hidK (HE.out.on hbq)
                have d0 := cell_onA d0 hbq
                have d1 := cell_onA d1 hbq
                have d2 := cell_onA d2 hbq
                have d3 := cell_onA d3 hbq
                have d4 := cell_onA d4 hbq
                have d5 := cell_onA d5 hbq
                have d6 := cell_onA d6 hbq
                have ev0 := cell_onA ev0 hbq
                have ev1 := cell_onA ev1 hbq
                clear hbq
                go_upto_region 14 with (go_at_call 20; refine (first_c _ X nn ⟨dd, uu, gg, mm, nn, zz, dt⟩ _ HO.out (by have := hXL.out; omega) (by rw [HXE.out]; exact out_first HSP.out HX.out HLS.out)).mono ?_; rintro e w6 ⟨rfl, hb6⟩)
                have d0 := cell_onA d0 (bel3K hb6 (bupK (Below.refl w6.heap.size w6) (.cells #[.int .i64 dd, .int .i64 uu, .int .i64 gg, .int .i64 mm, .string nn, .int .i64 zz, .string dt] 32)))
                have d1 := cell_onA d1 (bel3K hb6 (bupK (Below.refl w6.heap.size w6) (.cells #[.int .i64 dd, .int .i64 uu, .int .i64 gg, .int .i64 mm, .string nn, .int .i64 zz, .string dt] 32)))
                have d2 := cell_onA d2 (bel3K hb6 (bupK (Below.refl w6.heap.size w6) (.cells #[.int .i64 dd, .int .i64 uu, .int .i64 gg, .int .i64 mm, .string nn, .int .i64 zz, .string dt] 32)))
                have d3 := cell_onA d3 (bel3K hb6 (bupK (Below.refl w6.heap.size w6) (.cells #[.int .i64 dd, .int .i64 uu, .int .i64 gg, .int .i64 mm, .string nn, .int .i64 zz, .string dt] 32)))
                have d4 := cell_onA d4 (bel3K hb6 (bupK (Below.refl w6.heap.size w6) (.cells #[.int .i64 dd, .int .i64 uu, .int .i64 gg, .int .i64 mm, .string nn, .int .i64 zz, .string dt] 32)))
                have d5 := cell_onA d5 (bel3K hb6 (bupK (Below.refl w6.heap.size w6) (.cells #[.int .i64 dd, .int .i64 uu, .int .i64 gg, .int .i64 mm, .string nn, .int .i64 zz, .string dt] 32)))
                have d6 := cell_onA d6 (bel3K hb6 (bupK (Below.refl w6.heap.size w6) (.cells #[.int .i64 dd, .int .i64 uu, .int .i64 gg, .int .i64 mm, .string nn, .int .i64 zz, .string dt] 32)))
                have ev0 := cell_onA ev0 (bel3K hb6 (bupK (Below.refl w6.heap.size w6) (.cells #[.int .i64 dd, .int .i64 uu, .int .i64 gg, .int .i64 mm, .string nn, .int .i64 zz, .string dt] 32)))
                have ev1 := cell_onA ev1 (bel3K hb6 (bupK (Below.refl w6.heap.size w6) (.cells #[.int .i64 dd, .int .i64 uu, .int .i64 gg, .int .i64 mm, .string nn, .int .i64 zz, .string dt] 32)))
                have HBr := hidK (bupK2 (bel3K HBr.out hb6) (.cells #[.int .i64 dd, .int .i64 uu, .int .i64 gg, .int .i64 mm, .string nn, .int .i64 zz, .string dt] 32))
                have HO := hidK (HO.out.on (bel3K hb6 (bupK (Below.refl w6.heap.size w6) (.cells #[.int .i64 dd, .int .i64 uu, .int .i64 gg, .int .i64 mm, .string nn, .int .i64 zz, .string dt] 32))))
                have HE := hidK (HE.out.on (bel3K hb6 (bupK (Below.refl w6.heap.size w6) (.cells #[.int .i64 dd, .int .i64 uu, .int .i64 gg, .int .i64 mm, .string nn, .int .i64 zz, .string dt] 32))))
                have hEq := eqMx dd uu gg mm nn zz dt
                clear hb6
                go_wp2_with fail
                go_quiet (fail)
                have hbq := belDrewN (Below.refl (w6.alloc (.cells #[.int .i64 dd, .int .i64 uu, .int .i64 gg, .int .i64 mm, .string nn, .int .i64 zz, .string dt] 32)).heap.size (w6.alloc (.cells #[.int .i64 dd, .int .i64 uu, .int .i64 gg, .int .i64 mm, .string nn, .int .i64 zz, .string dt] 32))) nq
                generalize (w6.alloc (.cells #[.int .i64 dd, .int .i64 uu, .int .i64 gg, .int .i64 mm, .string nn, .int .i64 zz, .string dt] 32)).drewN nq = w7 at hbq ⊢
                have HBr := hidK (bel3K HBr.out hbq)
                have HO := hidK (HO.out.on hbq)
                have HE := hidK (HE.out.on hbq)
                have d0 := cell_onA d0 hbq
                have d1 := cell_onA d1 hbq
                have d2 := cell_onA d2 hbq
                have d3 := cell_onA d3 hbq
                have d4 := cell_onA d4 hbq
                have d5 := cell_onA d5 hbq
                have d6 := cell_onA d6 hbq
                have ev0 := cell_onA ev0 hbq
                have ev1 := cell_onA ev1 hbq
                clear hbq
                clear hEq
                go_wp2_with fail
                go_quiet (first | (go_at_call_of 11 ao1; exact Calls.quiet_of_same (HC4.out _ (by first | exact HBr.out | exact belDrewN HBr.out _) (by first | exact HO.out | exact HO.out.on (belDrewN (Below.refl _ _) _)))) | (go_at_call_of 11 a0; exact Calls.quiet_of_same (HC1.out _ (by first | exact HBr.out | exact belDrewN HBr.out _))))
                have hbq := belDrewN (Below.refl w7.heap.size w7) nq
                have HB9 := hidK (bel3K HBr.out hbq)
                have HO9 := hidK (HO.out.on hbq)
                have HE9 := hidK (HE.out.on hbq)
                clear hbq HBr HO HE
                go_wp2
                rw [show ((k : Int) + 1) = ((k + 1 : Nat) : Int) from by omega]
                go_roundw
                case rel => exact ⟨k + 1, by go_num, by omega, HB9.out, HO9.out, HE9.out⟩
                case measure => first | (simp [intOf]; done) | (simp [intOf]; omega)
              · exact absurd (by rw [HZ3.out]; exact HDR.out) hz3
            · have hcn : ¬ (c2 = k + 1) := hcap
              have HC3 : Hid (∀ W, Below w.heap.size w W → Calls Try.prog 11 #[.slice (some ⟨b1, o1 + (k + 1) * 7, none⟩) (m - (k + 1)) (c2 - (k + 1)), .string nn] W fun e w' => e = .returned (.int .i64 (z3 : Nat)) ∧ w' = W) := fun W hb => by
                rw [hz3e]; exact members_c _ (M.drop (k + 1)) nn W (row_drop (HU.out.on hb) HM.out.symm (by omega)) (by rw [List.length_drop]; have := HM.out; omega)
              clear hz3e
              by_cases hz3 : z3 = 0
              · subst hz3
                have HLS := hidK (lastOf HX.out HZ3.out.symm)
                go_wp2_with fail
                go_quiet (first | (go_at_call_of 11 b1; exact Calls.quiet_of_same (HC3.out _ (by first | exact HBr.out | exact belDrewN HBr.out _))))
                have hbq := belDrewN (Below.refl w4.heap.size w4) nq
                generalize w4.drewN nq = w5 at hbq ⊢
                have HBr := hidK (bel3K HBr.out hbq)
                have HO := hidK (HO.out.on hbq)
                have HE := hidK (HE.out.on hbq)
                have d0 := cell_onA d0 hbq
                have d1 := cell_onA d1 hbq
                have d2 := cell_onA d2 hbq
                have d3 := cell_onA d3 hbq
                have d4 := cell_onA d4 hbq
                have d5 := cell_onA d5 hbq
                have d6 := cell_onA d6 hbq
                have ev0 := cell_onA ev0 hbq
                have ev1 := cell_onA ev1 hbq
                clear hbq
                go_upto_region 14 with (go_at_call 20; refine (first_c _ X nn ⟨dd, uu, gg, mm, nn, zz, dt⟩ _ HO.out (by have := hXL.out; omega) (by rw [HXE.out]; exact out_first HSP.out HX.out HLS.out)).mono ?_; rintro e w6 ⟨rfl, hb6⟩)
                have d0 := cell_onA d0 (bel3K hb6 (bupK (Below.refl w6.heap.size w6) (.cells #[.int .i64 dd, .int .i64 uu, .int .i64 gg, .int .i64 mm, .string nn, .int .i64 zz, .string dt] 32)))
                have d1 := cell_onA d1 (bel3K hb6 (bupK (Below.refl w6.heap.size w6) (.cells #[.int .i64 dd, .int .i64 uu, .int .i64 gg, .int .i64 mm, .string nn, .int .i64 zz, .string dt] 32)))
                have d2 := cell_onA d2 (bel3K hb6 (bupK (Below.refl w6.heap.size w6) (.cells #[.int .i64 dd, .int .i64 uu, .int .i64 gg, .int .i64 mm, .string nn, .int .i64 zz, .string dt] 32)))
                have d3 := cell_onA d3 (bel3K hb6 (bupK (Below.refl w6.heap.size w6) (.cells #[.int .i64 dd, .int .i64 uu, .int .i64 gg, .int .i64 mm, .string nn, .int .i64 zz, .string dt] 32)))
                have d4 := cell_onA d4 (bel3K hb6 (bupK (Below.refl w6.heap.size w6) (.cells #[.int .i64 dd, .int .i64 uu, .int .i64 gg, .int .i64 mm, .string nn, .int .i64 zz, .string dt] 32)))
                have d5 := cell_onA d5 (bel3K hb6 (bupK (Below.refl w6.heap.size w6) (.cells #[.int .i64 dd, .int .i64 uu, .int .i64 gg, .int .i64 mm, .string nn, .int .i64 zz, .string dt] 32)))
                have d6 := cell_onA d6 (bel3K hb6 (bupK (Below.refl w6.heap.size w6) (.cells #[.int .i64 dd, .int .i64 uu, .int .i64 gg, .int .i64 mm, .string nn, .int .i64 zz, .string dt] 32)))
                have ev0 := cell_onA ev0 (bel3K hb6 (bupK (Below.refl w6.heap.size w6) (.cells #[.int .i64 dd, .int .i64 uu, .int .i64 gg, .int .i64 mm, .string nn, .int .i64 zz, .string dt] 32)))
                have ev1 := cell_onA ev1 (bel3K hb6 (bupK (Below.refl w6.heap.size w6) (.cells #[.int .i64 dd, .int .i64 uu, .int .i64 gg, .int .i64 mm, .string nn, .int .i64 zz, .string dt] 32)))
                have HBr := hidK (bupK2 (bel3K HBr.out hb6) (.cells #[.int .i64 dd, .int .i64 uu, .int .i64 gg, .int .i64 mm, .string nn, .int .i64 zz, .string dt] 32))
                have HO := hidK (HO.out.on (bel3K hb6 (bupK (Below.refl w6.heap.size w6) (.cells #[.int .i64 dd, .int .i64 uu, .int .i64 gg, .int .i64 mm, .string nn, .int .i64 zz, .string dt] 32))))
                have HE := hidK (HE.out.on (bel3K hb6 (bupK (Below.refl w6.heap.size w6) (.cells #[.int .i64 dd, .int .i64 uu, .int .i64 gg, .int .i64 mm, .string nn, .int .i64 zz, .string dt] 32))))
                have hEq := eqMx dd uu gg mm nn zz dt
                clear hb6
                go_wp2_with fail
                go_quiet (fail)
                have hbq := belDrewN (Below.refl (w6.alloc (.cells #[.int .i64 dd, .int .i64 uu, .int .i64 gg, .int .i64 mm, .string nn, .int .i64 zz, .string dt] 32)).heap.size (w6.alloc (.cells #[.int .i64 dd, .int .i64 uu, .int .i64 gg, .int .i64 mm, .string nn, .int .i64 zz, .string dt] 32))) nq
                generalize (w6.alloc (.cells #[.int .i64 dd, .int .i64 uu, .int .i64 gg, .int .i64 mm, .string nn, .int .i64 zz, .string dt] 32)).drewN nq = w7 at hbq ⊢
                have HBr := hidK (bel3K HBr.out hbq)
                have HO := hidK (HO.out.on hbq)
                have HE := hidK (HE.out.on hbq)
                have d0 := cell_onA d0 hbq
                have d1 := cell_onA d1 hbq
                have d2 := cell_onA d2 hbq
                have d3 := cell_onA d3 hbq
                have d4 := cell_onA d4 hbq
                have d5 := cell_onA d5 hbq
                have d6 := cell_onA d6 hbq
                have ev0 := cell_onA ev0 hbq
                have ev1 := cell_onA ev1 hbq
                clear hbq
                clear hEq
                go_wp2_with fail
                go_quiet (first | (go_at_call_of 11 ao1; exact Calls.quiet_of_same (HC4.out _ (by first | exact HBr.out | exact belDrewN HBr.out _) (by first | exact HO.out | exact HO.out.on (belDrewN (Below.refl _ _) _)))) | (go_at_call_of 11 a0; exact Calls.quiet_of_same (HC1.out _ (by first | exact HBr.out | exact belDrewN HBr.out _))))
                have hbq := belDrewN (Below.refl w7.heap.size w7) nq
                have HB9 := hidK (bel3K HBr.out hbq)
                have HO9 := hidK (HO.out.on hbq)
                have HE9 := hidK (HE.out.on hbq)
                clear hbq HBr HO HE
                go_wp2
                go_roundw
                case rel => exact ⟨k + 1, by go_num, by omega, HB9.out, HO9.out, HE9.out⟩
                case measure => first | (simp [intOf]; done) | (simp [intOf]; omega)
              · have g1 : ((z3 : Int) == 0) = false := by simp; omega
                have g2 : decide ((z3 : Int) = 0) = false := by simp; omega
                have g3 : ¬ ((z3 : Int) = 0) := by omega
                go_wp2_with fail
                go_quiet (first | (go_at_call_of 11 b1; exact Calls.quiet_of_same (HC3.out _ (by first | exact HBr.out | exact belDrewN HBr.out _))))
                have hbq := belDrewN (Below.refl w4.heap.size w4) nq
                generalize w4.drewN nq = w5 at hbq ⊢
                have HBr := hidK (bel3K HBr.out hbq)
                have HO := hidK (HO.out.on hbq)
                have HE := hidK (HE.out.on hbq)
                have d0 := cell_onA d0 hbq
                have d1 := cell_onA d1 hbq
                have d2 := cell_onA d2 hbq
                have d3 := cell_onA d3 hbq
                have d4 := cell_onA d4 hbq
                have d5 := cell_onA d5 hbq
                have d6 := cell_onA d6 hbq
                have ev0 := cell_onA ev0 hbq
                have ev1 := cell_onA ev1 hbq
                clear hbq
                go_wp2_with fail
                go_quiet (first | (go_at_call_of 11 ao1; exact Calls.quiet_of_same (HC4.out _ (by first | exact HBr.out | exact belDrewN HBr.out _) (by first | exact HO.out | exact HO.out.on (belDrewN (Below.refl _ _) _)))) | (go_at_call_of 11 a0; exact Calls.quiet_of_same (HC1.out _ (by first | exact HBr.out | exact belDrewN HBr.out _))))
                have hbq := belDrewN (Below.refl w5.heap.size w5) nq
                have HB9 := hidK (bel3K HBr.out hbq)
                have HO9 := hidK (HO.out.on hbq)
                have HE9 := hidK (HE.out.on hbq)
                clear hbq HBr HO HE
                go_wp2
                go_roundw
                case rel => exact ⟨k + 1, by go_num, by omega, HB9.out, HO9.out, HE9.out⟩
                case measure => first | (simp [intOf]; done) | (simp [intOf]; omega)
        · have p0 : 0 < z1 := by omega
          have p1 : (0 : Int) < (z1 : Int) := by omega
          have p2 : decide ((0 : Int) < (z1 : Int)) = true := by simp; omega
          have p3 : decide ((z1 : Int) > 0) = true := by simp; omega
          rw [if_pos (by omega)] at ev0
          go_wp2_with fail
          go_quiet (first | (go_at_call_of 11 a0; exact Calls.quiet_of_same (HC1.out _ (by first | exact HBr.out | exact belDrewN HBr.out _))) | (go_at_call_of 11 b1; exact Calls.quiet_of_same (HC2.out _ (by first | exact HBr.out | exact belDrewN HBr.out _))))
          have hbq := belDrewN (Below.refl wr.heap.size wr) nq
          generalize wr.drewN nq = w3 at hbq ⊢
          have HBr := hidK (bel3K HBr.out hbq)
          have HO := hidK (HO.out.on hbq)
          have HE := hidK (HE.out.on hbq)
          have d0 := cell_onA d0 hbq
          have d1 := cell_onA d1 hbq
          have d2 := cell_onA d2 hbq
          have d3 := cell_onA d3 hbq
          have d4 := cell_onA d4 hbq
          have d5 := cell_onA d5 hbq
          have d6 := cell_onA d6 hbq
          have ev0 := cell_onA ev0 hbq
          have ev1 := cell_onA ev1 hbq
          clear hbq
          go_wp2
          go_quiet (fail)
          have hbq := belDrewN (Below.refl w3.heap.size w3) nq
          generalize w3.drewN nq = w4 at hbq ⊢
          have HBr := hidK (bel3K HBr.out hbq)
          have HO := hidK (HO.out.on hbq)
          have HE := hidK (HE.out.on hbq)
          have d0 := cell_onA d0 hbq
          have d1 := cell_onA d1 hbq
          have d2 := cell_onA d2 hbq
          have d3 := cell_onA d3 hbq
          have d4 := cell_onA d4 hbq
          have d5 := cell_onA d5 hbq
          have d6 := cell_onA d6 hbq
          have ev0 := cell_onA ev0 hbq
          have ev1 := cell_onA ev1 hbq
          clear hbq
          clear p1 p2 p3
          have p4 : (if (1 : Int) < (z1 : Int) then (z1 : Int) else 1) = (z1 : Int) := by split <;> omega
          have p5 : (if 1 < z1 then (z1 : Int) else 1) = (z1 : Int) := by split <;> omega
          have p6 : (if (z1 : Int) > 1 then (z1 : Int) else 1) = (z1 : Int) := by split <;> omega
          have HC4 : Hid (∀ W, Below w.heap.size w W → RowM W (.slice ao1 nx co1) X → Calls Try.prog 11 #[.slice ao1 nx co1, .string nn] W fun e w' => e = .returned (.int .i64 ((z1 : Nat))) ∧ w' = W) := fun W hb hr => by
            have h5 := members_c (.slice ao1 nx co1) X nn W hr (by have := HNX.out; omega)
            have h6 : max 1 (cnt (nms L) nn) = z1 := by have := HZ1.out; omega
            rw [HXE.out, out_count HSP.out HX.out, h6] at h5; exact h5
          have kw : IntKind.i64.wrap ((k : Int) + 1) = (k : Int) + 1 := by rw [IntKind.wrap_i64]; omega
          have kt : ((k : Int) + 1).toNat = k + 1 := by omega
          have k1 : (0 : Int) ≤ (k : Int) + 1 := by omega
          have k2 : (k : Int) + 1 ≤ (m : Int) := by omega
          obtain ⟨z3, hz3e⟩ : ∃ z3, z3 = cnt (nms (M.drop (k + 1))) nn := ⟨_, rfl⟩
          have HZ3 := hidK hz3e
          by_cases hcap : c2 = k + 1
          · have hdr : M.drop (k + 1) = [] := List.drop_eq_nil_of_le (by have := HM.out; omega)
            have HC3 : Hid (∀ W, Below w.heap.size w W → Calls Try.prog 11 #[.slice (some ⟨b1, o1, none⟩) 0 0, .string nn] W fun e w' => e = .returned (.int .i64 (z3 : Nat)) ∧ w' = W) := fun W hb => by
              rw [hz3e, hdr]; exact members_c _ [] nn W ⟨_, 0, rfl, Nat.le_refl _, by decide, (fun h => by cases h), fun h => by simp at h⟩ (by simp)
            have hmk : m = k + 1 := by omega
            have HDR := hidK (show cnt (nms (M.drop (k + 1))) nn = 0 by rw [hdr]; rfl)
            clear hdr hz3e
            subst hcap
            subst hmk
            by_cases hz3 : z3 = 0
            · subst hz3
              have HLS := hidK (lastOf HX.out HZ3.out.symm)
              go_wp2_with fail
              go_quiet (first | (go_at_call_of 11 b1; exact Calls.quiet_of_same (HC3.out _ (by first | exact HBr.out | exact belDrewN HBr.out _))))
              have hbq := belDrewN (Below.refl w4.heap.size w4) nq
              generalize w4.drewN nq = w5 at hbq ⊢
              have HBr := hidK (bel3K HBr.out hbq)
              have HO := hidK (HO.out.on hbq)
              have HE := hidK (HE.out.on hbq)
              have d0 := cell_onA d0 hbq
              have d1 := cell_onA d1 hbq
              have d2 := cell_onA d2 hbq
              have d3 := cell_onA d3 hbq
              have d4 := cell_onA d4 hbq
              have d5 := cell_onA d5 hbq
              have d6 := cell_onA d6 hbq
              have ev0 := cell_onA ev0 hbq
              have ev1 := cell_onA ev1 hbq
              clear hbq
              go_upto_region 14 with (go_at_call 20; refine (first_c _ X nn ⟨dd, uu, gg, mm, nn, zz, dt⟩ _ HO.out (by have := hXL.out; omega) (by rw [HXE.out]; exact out_first HSP.out HX.out HLS.out)).mono ?_; rintro e w6 ⟨rfl, hb6⟩)
              have d0 := cell_onA d0 (bel3K hb6 (bupK (Below.refl w6.heap.size w6) (.cells #[.int .i64 dd, .int .i64 uu, .int .i64 gg, .int .i64 mm, .string nn, .int .i64 zz, .string dt] 32)))
              have d1 := cell_onA d1 (bel3K hb6 (bupK (Below.refl w6.heap.size w6) (.cells #[.int .i64 dd, .int .i64 uu, .int .i64 gg, .int .i64 mm, .string nn, .int .i64 zz, .string dt] 32)))
              have d2 := cell_onA d2 (bel3K hb6 (bupK (Below.refl w6.heap.size w6) (.cells #[.int .i64 dd, .int .i64 uu, .int .i64 gg, .int .i64 mm, .string nn, .int .i64 zz, .string dt] 32)))
              have d3 := cell_onA d3 (bel3K hb6 (bupK (Below.refl w6.heap.size w6) (.cells #[.int .i64 dd, .int .i64 uu, .int .i64 gg, .int .i64 mm, .string nn, .int .i64 zz, .string dt] 32)))
              have d4 := cell_onA d4 (bel3K hb6 (bupK (Below.refl w6.heap.size w6) (.cells #[.int .i64 dd, .int .i64 uu, .int .i64 gg, .int .i64 mm, .string nn, .int .i64 zz, .string dt] 32)))
              have d5 := cell_onA d5 (bel3K hb6 (bupK (Below.refl w6.heap.size w6) (.cells #[.int .i64 dd, .int .i64 uu, .int .i64 gg, .int .i64 mm, .string nn, .int .i64 zz, .string dt] 32)))
              have d6 := cell_onA d6 (bel3K hb6 (bupK (Below.refl w6.heap.size w6) (.cells #[.int .i64 dd, .int .i64 uu, .int .i64 gg, .int .i64 mm, .string nn, .int .i64 zz, .string dt] 32)))
              have ev0 := cell_onA ev0 (bel3K hb6 (bupK (Below.refl w6.heap.size w6) (.cells #[.int .i64 dd, .int .i64 uu, .int .i64 gg, .int .i64 mm, .string nn, .int .i64 zz, .string dt] 32)))
              have ev1 := cell_onA ev1 (bel3K hb6 (bupK (Below.refl w6.heap.size w6) (.cells #[.int .i64 dd, .int .i64 uu, .int .i64 gg, .int .i64 mm, .string nn, .int .i64 zz, .string dt] 32)))
              have HBr := hidK (bupK2 (bel3K HBr.out hb6) (.cells #[.int .i64 dd, .int .i64 uu, .int .i64 gg, .int .i64 mm, .string nn, .int .i64 zz, .string dt] 32))
              have HO := hidK (HO.out.on (bel3K hb6 (bupK (Below.refl w6.heap.size w6) (.cells #[.int .i64 dd, .int .i64 uu, .int .i64 gg, .int .i64 mm, .string nn, .int .i64 zz, .string dt] 32))))
              have HE := hidK (HE.out.on (bel3K hb6 (bupK (Below.refl w6.heap.size w6) (.cells #[.int .i64 dd, .int .i64 uu, .int .i64 gg, .int .i64 mm, .string nn, .int .i64 zz, .string dt] 32))))
              have hEq := eqMx dd uu gg mm nn zz dt
              clear hb6
              go_wp2_with fail
              go_quiet (fail)
              have hbq := belDrewN (Below.refl (w6.alloc (.cells #[.int .i64 dd, .int .i64 uu, .int .i64 gg, .int .i64 mm, .string nn, .int .i64 zz, .string dt] 32)).heap.size (w6.alloc (.cells #[.int .i64 dd, .int .i64 uu, .int .i64 gg, .int .i64 mm, .string nn, .int .i64 zz, .string dt] 32))) nq
              generalize (w6.alloc (.cells #[.int .i64 dd, .int .i64 uu, .int .i64 gg, .int .i64 mm, .string nn, .int .i64 zz, .string dt] 32)).drewN nq = w7 at hbq ⊢
              have HBr := hidK (bel3K HBr.out hbq)
              have HO := hidK (HO.out.on hbq)
              have HE := hidK (HE.out.on hbq)
              have d0 := cell_onA d0 hbq
              have d1 := cell_onA d1 hbq
              have d2 := cell_onA d2 hbq
              have d3 := cell_onA d3 hbq
              have d4 := cell_onA d4 hbq
              have d5 := cell_onA d5 hbq
              have d6 := cell_onA d6 hbq
              have ev0 := cell_onA ev0 hbq
              have ev1 := cell_onA ev1 hbq
              clear hbq
              clear hEq
              go_wp2_with fail
              go_quiet (first | (go_at_call_of 11 ao1; exact Calls.quiet_of_same (HC4.out _ (by first | exact HBr.out | exact belDrewN HBr.out _) (by first | exact HO.out | exact HO.out.on (belDrewN (Below.refl _ _) _)))) | (go_at_call_of 11 a0; exact Calls.quiet_of_same (HC1.out _ (by first | exact HBr.out | exact belDrewN HBr.out _))))
              have hbq := belDrewN (Below.refl w7.heap.size w7) nq
              have HB9 := hidK (bel3K HBr.out hbq)
              have HO9 := hidK (HO.out.on hbq)
              have HE9 := hidK (HE.out.on hbq)
              clear hbq HBr HO HE
              go_wp2
              rw [show ((k : Int) + 1) = ((k + 1 : Nat) : Int) from by omega]
              go_roundw
              case rel => exact ⟨k + 1, by go_num, by omega, HB9.out, HO9.out, HE9.out⟩
              case measure => first | (simp [intOf]; done) | (simp [intOf]; omega)
            · exact absurd (by rw [HZ3.out]; exact HDR.out) hz3
          · have hcn : ¬ (c2 = k + 1) := hcap
            have HC3 : Hid (∀ W, Below w.heap.size w W → Calls Try.prog 11 #[.slice (some ⟨b1, o1 + (k + 1) * 7, none⟩) (m - (k + 1)) (c2 - (k + 1)), .string nn] W fun e w' => e = .returned (.int .i64 (z3 : Nat)) ∧ w' = W) := fun W hb => by
              rw [hz3e]; exact members_c _ (M.drop (k + 1)) nn W (row_drop (HU.out.on hb) HM.out.symm (by omega)) (by rw [List.length_drop]; have := HM.out; omega)
            clear hz3e
            by_cases hz3 : z3 = 0
            · subst hz3
              have HLS := hidK (lastOf HX.out HZ3.out.symm)
              go_wp2_with fail
              go_quiet (first | (go_at_call_of 11 b1; exact Calls.quiet_of_same (HC3.out _ (by first | exact HBr.out | exact belDrewN HBr.out _))))
              have hbq := belDrewN (Below.refl w4.heap.size w4) nq
              generalize w4.drewN nq = w5 at hbq ⊢
              have HBr := hidK (bel3K HBr.out hbq)
              have HO := hidK (HO.out.on hbq)
              have HE := hidK (HE.out.on hbq)
              have d0 := cell_onA d0 hbq
              have d1 := cell_onA d1 hbq
              have d2 := cell_onA d2 hbq
              have d3 := cell_onA d3 hbq
              have d4 := cell_onA d4 hbq
              have d5 := cell_onA d5 hbq
              have d6 := cell_onA d6 hbq
              have ev0 := cell_onA ev0 hbq
              have ev1 := cell_onA ev1 hbq
              clear hbq
              go_upto_region 14 with (go_at_call 20; refine (first_c _ X nn ⟨dd, uu, gg, mm, nn, zz, dt⟩ _ HO.out (by have := hXL.out; omega) (by rw [HXE.out]; exact out_first HSP.out HX.out HLS.out)).mono ?_; rintro e w6 ⟨rfl, hb6⟩)
              have d0 := cell_onA d0 (bel3K hb6 (bupK (Below.refl w6.heap.size w6) (.cells #[.int .i64 dd, .int .i64 uu, .int .i64 gg, .int .i64 mm, .string nn, .int .i64 zz, .string dt] 32)))
              have d1 := cell_onA d1 (bel3K hb6 (bupK (Below.refl w6.heap.size w6) (.cells #[.int .i64 dd, .int .i64 uu, .int .i64 gg, .int .i64 mm, .string nn, .int .i64 zz, .string dt] 32)))
              have d2 := cell_onA d2 (bel3K hb6 (bupK (Below.refl w6.heap.size w6) (.cells #[.int .i64 dd, .int .i64 uu, .int .i64 gg, .int .i64 mm, .string nn, .int .i64 zz, .string dt] 32)))
              have d3 := cell_onA d3 (bel3K hb6 (bupK (Below.refl w6.heap.size w6) (.cells #[.int .i64 dd, .int .i64 uu, .int .i64 gg, .int .i64 mm, .string nn, .int .i64 zz, .string dt] 32)))
              have d4 := cell_onA d4 (bel3K hb6 (bupK (Below.refl w6.heap.size w6) (.cells #[.int .i64 dd, .int .i64 uu, .int .i64 gg, .int .i64 mm, .string nn, .int .i64 zz, .string dt] 32)))
              have d5 := cell_onA d5 (bel3K hb6 (bupK (Below.refl w6.heap.size w6) (.cells #[.int .i64 dd, .int .i64 uu, .int .i64 gg, .int .i64 mm, .string nn, .int .i64 zz, .string dt] 32)))
              have d6 := cell_onA d6 (bel3K hb6 (bupK (Below.refl w6.heap.size w6) (.cells #[.int .i64 dd, .int .i64 uu, .int .i64 gg, .int .i64 mm, .string nn, .int .i64 zz, .string dt] 32)))
              have ev0 := cell_onA ev0 (bel3K hb6 (bupK (Below.refl w6.heap.size w6) (.cells #[.int .i64 dd, .int .i64 uu, .int .i64 gg, .int .i64 mm, .string nn, .int .i64 zz, .string dt] 32)))
              have ev1 := cell_onA ev1 (bel3K hb6 (bupK (Below.refl w6.heap.size w6) (.cells #[.int .i64 dd, .int .i64 uu, .int .i64 gg, .int .i64 mm, .string nn, .int .i64 zz, .string dt] 32)))
              have HBr := hidK (bupK2 (bel3K HBr.out hb6) (.cells #[.int .i64 dd, .int .i64 uu, .int .i64 gg, .int .i64 mm, .string nn, .int .i64 zz, .string dt] 32))
              have HO := hidK (HO.out.on (bel3K hb6 (bupK (Below.refl w6.heap.size w6) (.cells #[.int .i64 dd, .int .i64 uu, .int .i64 gg, .int .i64 mm, .string nn, .int .i64 zz, .string dt] 32))))
              have HE := hidK (HE.out.on (bel3K hb6 (bupK (Below.refl w6.heap.size w6) (.cells #[.int .i64 dd, .int .i64 uu, .int .i64 gg, .int .i64 mm, .string nn, .int .i64 zz, .string dt] 32))))
              have hEq := eqMx dd uu gg mm nn zz dt
              clear hb6
              go_wp2_with fail
              go_quiet (fail)
              have hbq := belDrewN (Below.refl (w6.alloc (.cells #[.int .i64 dd, .int .i64 uu, .int .i64 gg, .int .i64 mm, .string nn, .int .i64 zz, .string dt] 32)).heap.size (w6.alloc (.cells #[.int .i64 dd, .int .i64 uu, .int .i64 gg, .int .i64 mm, .string nn, .int .i64 zz, .string dt] 32))) nq
              generalize (w6.alloc (.cells #[.int .i64 dd, .int .i64 uu, .int .i64 gg, .int .i64 mm, .string nn, .int .i64 zz, .string dt] 32)).drewN nq = w7 at hbq ⊢
              have HBr := hidK (bel3K HBr.out hbq)
              have HO := hidK (HO.out.on hbq)
              have HE := hidK (HE.out.on hbq)
              have d0 := cell_onA d0 hbq
              have d1 := cell_onA d1 hbq
              have d2 := cell_onA d2 hbq
              have d3 := cell_onA d3 hbq
              have d4 := cell_onA d4 hbq
              have d5 := cell_onA d5 hbq
              have d6 := cell_onA d6 hbq
              have ev0 := cell_onA ev0 hbq
              have ev1 := cell_onA ev1 hbq
              clear hbq
              clear hEq
              go_wp2_with fail
              go_quiet (first | (go_at_call_of 11 ao1; exact Calls.quiet_of_same (HC4.out _ (by first | exact HBr.out | exact belDrewN HBr.out _) (by first | exact HO.out | exact HO.out.on (belDrewN (Below.refl _ _) _)))) | (go_at_call_of 11 a0; exact Calls.quiet_of_same (HC1.out _ (by first | exact HBr.out | exact belDrewN HBr.out _))))
              have hbq := belDrewN (Below.refl w7.heap.size w7) nq
              have HB9 := hidK (bel3K HBr.out hbq)
              have HO9 := hidK (HO.out.on hbq)
              have HE9 := hidK (HE.out.on hbq)
              clear hbq HBr HO HE
              go_wp2
              go_roundw
              case rel => exact ⟨k + 1, by go_num, by omega, HB9.out, HO9.out, HE9.out⟩
              case measure => first | (simp [intOf]; done) | (simp [intOf]; omega)
            · have g1 : ((z3 : Int) == 0) = false := by simp; omega
              have g2 : decide ((z3 : Int) = 0) = false := by simp; omega
              have g3 : ¬ ((z3 : Int) = 0) := by omega
              go_wp2_with fail
              go_quiet (first | (go_at_call_of 11 b1; exact Calls.quiet_of_same (HC3.out _ (by first | exact HBr.out | exact belDrewN HBr.out _))))
              have hbq := belDrewN (Below.refl w4.heap.size w4) nq
              generalize w4.drewN nq = w5 at hbq ⊢
              have HBr := hidK (bel3K HBr.out hbq)
              have HO := hidK (HO.out.on hbq)
              have HE := hidK (HE.out.on hbq)
              have d0 := cell_onA d0 hbq
              have d1 := cell_onA d1 hbq
              have d2 := cell_onA d2 hbq
              have d3 := cell_onA d3 hbq
              have d4 := cell_onA d4 hbq
              have d5 := cell_onA d5 hbq
              have d6 := cell_onA d6 hbq
              have ev0 := cell_onA ev0 hbq
              have ev1 := cell_onA ev1 hbq
              clear hbq
              go_wp2_with fail
              go_quiet (first | (go_at_call_of 11 ao1; exact Calls.quiet_of_same (HC4.out _ (by first | exact HBr.out | exact belDrewN HBr.out _) (by first | exact HO.out | exact HO.out.on (belDrewN (Below.refl _ _) _)))) | (go_at_call_of 11 a0; exact Calls.quiet_of_same (HC1.out _ (by first | exact HBr.out | exact belDrewN HBr.out _))))
              have hbq := belDrewN (Below.refl w5.heap.size w5) nq
              have HB9 := hidK (bel3K HBr.out hbq)
              have HO9 := hidK (HO.out.on hbq)
              have HE9 := hidK (HE.out.on hbq)
              clear hbq HBr HO HE
              go_wp2
              go_roundw
              case rel => exact ⟨k + 1, by go_num, by omega, HB9.out, HO9.out, HE9.out⟩
              case measure => first | (simp [intOf]; done) | (simp [intOf]; omega)
      · obtain rfl : k = m := by omega
        have HMC : Hid (∀ (q : ByteArray) (W : World), Below w.heap.size w W → Calls Try.prog 11 #[.slice a1 k c2, .string q] W fun e w' => e = .returned (.int .i64 (cnt (nms M) q : Nat)) ∧ w' = W) := fun q W hb => members_c _ M q W (HU.out.on hb) (by have := HM.out; omega)
        have HK0 := hidK (show keepM M (X.drop 0) = keepM M (L.drop 0) by rw [HXE.out]; exact keep_out HSP.out)
        clear HE hk hkn HXE HSP HU
        go_wp2
        go_loopw [14, 15] (fun kv iv wx => ∃ i q : Nat, kv = .int .i64 q ∧ iv = .int .i64 i ∧ i ≤ nx ∧ q ≤ n ∧ keepM M (X.drop i) = keepM M (L.drop q) ∧ Below w.heap.size w wx ∧ RowM wx (.slice ao1 nx co1) X) (fun _ iv _ => nx - (intOf iv).toNat)
        case atStart => exact ⟨0, 0, rfl, rfl, Nat.zero_le _, Nat.zero_le _, HK0.out, HBr.out, HO.out⟩
        case round =>
          clear HBr HO HK0
          obtain ⟨i, q, rfl, rfl, hin, hqn, hK, hB, hO⟩ := hrel
          have HK := hidK hK
          have HBr := hidK hB
          have HO := hidK hO
          clear hK hB hO
          by_cases hi : i < nx
          · have kI : (i : Int) < (nx : Int) := by omega
            have k0 : (0 : Int) ≤ (i : Int) := by omega
            have hkl : i < X.length := by have := HNX.out; omega
            obtain ⟨⟨dd, uu, gg, mm, nn, zz, dt⟩, hx⟩ : ∃ x, X[i]? = some x := ⟨_, List.getElem?_eq_getElem hkl⟩
            obtain ⟨b1, o1, p1, e1, d0, d1, d2, d3, d4, d5, d6⟩ := HO.out.mx hx
            have HX := hidK hx
            simp only [] at d0 d1 d2 d3 d4 d5 d6
            injection e1 with e1 e1b e1c
            subst e1
            obtain ⟨z5, hz5⟩ : ∃ z5, z5 = cnt (nms M) nn := ⟨_, rfl⟩
            have HZ5 := hidK hz5
            have HC5 := hidK (HMC.out nn)
            rw [← hz5] at HC5
            have iw : IntKind.i64.wrap ((i : Int) + 1) = (i : Int) + 1 := by rw [IntKind.wrap_i64]; omega
            clear hx hkl e1b e1c hz5
            by_cases hz : z5 = 0
            · subst hz
              go_wp2_with (go_at_call 11; refine (HC5.out _ HBr.out).mono ?_; rintro e w3 ⟨rfl, rfl⟩)
              have HB3 := HBr
              have HO3 := HO
              clear HBr HO d0 d1 d2 d3 d4 d5 d6
              go_loopw [14] (fun kv wx => ∃ q : Nat, kv = .int .i64 q ∧ q ≤ n ∧ keepM M (X.drop i) = keepM M (L.drop q) ∧ Below w.heap.size w wx ∧ RowM wx (.slice (some ⟨b1, o1, none⟩) nx co1) X) (fun kv _ => n - (intOf kv).toNat)
              case atStart => exact ⟨q, rfl, hqn, HK.out, HB3.out, HO3.out⟩
              case round =>
                clear HB3 HO3 HK hqn
                obtain ⟨q, rfl, hqn, hK, hB, hO⟩ := hrel
                have HK := hidK hK
                have HBs := hidK hB
                have HO := hidK hO
                clear hK hB hO
                by_cases hq : q < n
                · have qI : (q : Int) < (n : Int) := by omega
                  have q0 : (0 : Int) ≤ (q : Int) := by omega
                  have hql : q < L.length := by have := HN.out; omega
                  obtain ⟨⟨ed, eu, eg, em, en, ez, et⟩, hy⟩ : ∃ x, L[q]? = some x := ⟨_, List.getElem?_eq_getElem hql⟩
                  obtain ⟨b2, o2, p2, e2, f0, f1, f2, f3, f4, f5, f6⟩ := (HV.out.on HBs.out).mx hy
                  have HY := hidK hy
                  simp only [] at f0 f1 f2 f3 f4 f5 f6
                  injection e2 with e2 e2b e2c
                  subst e2
                  obtain ⟨z6, hz6⟩ : ∃ z6, z6 = cnt (nms M) en := ⟨_, rfl⟩
                  have HZ6 := hidK hz6
                  have HC6 := hidK (HMC.out en)
                  rw [← hz6] at HC6
                  have qw : IntKind.i64.wrap ((q : Int) + 1) = (q : Int) + 1 := by rw [IntKind.wrap_i64]; omega
                  clear hy hql e2b e2c hz6
                  by_cases hz : z6 = 0
                  · subst hz
                    have hh := HK.out
                    rw [keep_step HX.out, if_pos HZ5.out.symm, keep_step HY.out, if_pos HZ6.out.symm] at hh
                    injection hh with hh1 hh2
                    injection hh1 with g0 g1 g2 g3 g4 g5 g6
                    subst g0 g1 g2 g3 g4 g5 g6
                    have HK2 := hidK hh2
                    clear hh2
                    obtain ⟨b3, o3, p3, e3, d0, d1, d2, d3, d4, d5, d6⟩ := HO.out.mx HX.out
                    simp only [] at d0 d1 d2 d3 d4 d5 d6
                    injection e3 with e3 e3b e3c
                    injection e3 with e3
                    injection e3 with e3 e3d
                    subst e3 e3d
                    have hEq := eqMx dd uu gg mm nn zz dt
                    clear e3b e3c
                    go_wp2_with (go_at_call 11; refine (HC6.out _ HBs.out).mono ?_; rintro e w3 ⟨rfl, rfl⟩)
                    go_quiet (fail)
                    have hbq := belDrewN (Below.refl w3.heap.size w3) nq
                    have HB9 := hidK (bel3K HBs.out hbq)
                    have HO9 := hidK (HO.out.on hbq)
                    clear hbq
                    go_wp2
                    go_roundw
                    case rel => exact ⟨i + 1, q + 1, by go_num, by go_num, by omega, by omega, HK2.out, HB9.out, HO9.out⟩
                    case measure => first | (simp [intOf]; done) | (simp [intOf]; omega)
                  · have HK2 := hidK (show keepM M (X.drop i) = keepM M (L.drop (q + 1)) by rw [HK.out, keep_step HY.out, if_neg (by rw [← HZ6.out]; exact hz)])
                    have p0 : 0 < z6 := by omega
                    have p1 : (0 : Int) < (z6 : Int) := by omega
                    have p2 : decide ((0 : Int) < (z6 : Int)) = true := by simp; omega
                    have p3 : decide ((z6 : Int) > 0) = true := by simp; omega
                    go_wp2_with (go_at_call 11; refine (HC6.out _ HBs.out).mono ?_; rintro e w3 ⟨rfl, rfl⟩)
                    go_roundw
                    case rel => exact ⟨q + 1, by go_num, by omega, HK2.out, HBs.out, HO.out⟩
                    case measure => first | (simp [intOf]; done) | (simp [intOf]; omega)
                · exfalso
                  have hh := HK.out
                  have h5 := keep_end (M := M) (show L.length ≤ q by have := HN.out; omega)
                  rw [keep_step HX.out, if_pos HZ5.out.symm, h5] at hh
                  cases hh
            · have HK2 := hidK (show keepM M (X.drop (i + 1)) = keepM M (L.drop q) by rw [← HK.out, keep_step HX.out, if_neg (by rw [← HZ5.out]; exact hz)])
              have p0 : 0 < z5 := by omega
              have p1 : (0 : Int) < (z5 : Int) := by omega
              have p2 : decide ((0 : Int) < (z5 : Int)) = true := by simp; omega
              have p3 : decide ((z5 : Int) > 0) = true := by simp; omega
              go_wp2_with (go_at_call 11; refine (HC5.out _ HBr.out).mono ?_; rintro e w3 ⟨rfl, rfl⟩)
              go_roundw
              case rel => exact ⟨i + 1, q, by go_num, by go_num, by omega, hqn, HK2.out, HBr.out, HO.out⟩
              case measure => first | (simp [intOf]; done) | (simp [intOf]; omega)
          · obtain rfl : i = nx := by omega
            have HK4 := hidK (show keepM M (L.drop q) = [] by rw [← HK.out]; exact keep_end (by have := HNX.out; omega))
            have HB3 := HBr
            clear HBr HO HK hi hin
            go_wp2
            go_loopw [14] (fun kv wx => ∃ q : Nat, kv = .int .i64 q ∧ q ≤ n ∧ keepM M (L.drop q) = [] ∧ Below w.heap.size w wx) (fun kv _ => n - (intOf kv).toNat)
            case atStart => exact ⟨q, rfl, hqn, HK4.out, HB3.out⟩
            case round =>
              clear HB3 HK4 hqn
              obtain ⟨q, rfl, hqn, hK, hB⟩ := hrel
              have HK := hidK hK
              have HBs := hidK hB
              clear hK hB
              by_cases hq : q < n
              · have qI : (q : Int) < (n : Int) := by omega
                have q0 : (0 : Int) ≤ (q : Int) := by omega
                have hql : q < L.length := by have := HN.out; omega
                obtain ⟨⟨ed, eu, eg, em, en, ez, et⟩, hy⟩ : ∃ x, L[q]? = some x := ⟨_, List.getElem?_eq_getElem hql⟩
                obtain ⟨b2, o2, p2, e2, f0, f1, f2, f3, f4, f5, f6⟩ := (HV.out.on HBs.out).mx hy
                have HY := hidK hy
                simp only [] at f0 f1 f2 f3 f4 f5 f6
                injection e2 with e2 e2b e2c
                subst e2
                obtain ⟨z6, hz6⟩ : ∃ z6, z6 = cnt (nms M) en := ⟨_, rfl⟩
                have HZ6 := hidK hz6
                have HC6 := hidK (HMC.out en)
                rw [← hz6] at HC6
                have qw : IntKind.i64.wrap ((q : Int) + 1) = (q : Int) + 1 := by rw [IntKind.wrap_i64]; omega
                clear hy hql e2b e2c hz6
                by_cases hz : z6 = 0
                · exfalso
                  have hh := HK.out
                  rw [keep_step HY.out, if_pos (by rw [← HZ6.out]; exact hz)] at hh
                  cases hh
                · have HK2 := hidK (show keepM M (L.drop (q + 1)) = [] by rw [← HK.out, keep_step HY.out, if_neg (by rw [← HZ6.out]; exact hz)])
                  have p0 : 0 < z6 := by omega
                  have p1 : (0 : Int) < (z6 : Int) := by omega
                  have p2 : decide ((0 : Int) < (z6 : Int)) = true := by simp; omega
                  have p3 : decide ((z6 : Int) > 0) = true := by simp; omega
                  go_wp2_with (go_at_call 11; refine (HC6.out _ HBs.out).mono ?_; rintro e w3 ⟨rfl, rfl⟩)
                  go_roundw
                  case rel => exact ⟨q + 1, by go_num, by omega, HK2.out, HBs.out⟩
                  case measure => first | (simp [intOf]; done) | (simp [intOf]; omega)
              · obtain rfl : q = n := by omega
                clear hq hqn
                go_wp2
                go_ret
                exact ⟨by simp, HBs.out⟩
end Go.Proofs.Ytaaagdmhokgcjaa
