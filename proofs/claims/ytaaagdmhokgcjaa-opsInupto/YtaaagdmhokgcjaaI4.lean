
-- Insert: the contract.
import Derived.Test.YtaaagdmhokgcjaaI3
namespace Go.Proofs.Ytaaagdmhokgcjaa
open Go.ChangeShapes Go.WideShapes Go.ChangeAt Go.RowKit
set_option linter.unusedVariables false
set_option maxRecDepth 100000
set_option linter.unusedSimpArgs false
theorem emptyM (w : World) (ao : Option Addr) (cap : Nat) (hc : cap ≤ maxLen) (hn : ao = none → cap = 0) : RowM w (.slice ao 0 cap) [] := ⟨ao, cap, rfl, Nat.zero_le _, hc, hn, fun h => by simp at h⟩
theorem insAt_on {B ib gm : Nat} {w w' : World} {ms : List Mx} (h : InsAt B ib gm w ms) (hb : Below w.heap.size w w') : InsAt B ib gm w' ms := by
  obtain ⟨mv, h1, h2, h3, h4⟩ := h
  exact ⟨mv, hkeepK hb h1, h2.on hb, h3.on hb, Nat.le_trans h4 hb.size⟩
theorem insAt_kept {B ib gm g : Nat} {w w' : World} {ms : List Mx} (h : InsAt B ib gm w ms) (hg : w.grownBy w' (some g)) (h1 : ib ≠ g) (h2 : gm ≠ g) (h3 : ∃ cs t fr, w.heap[g]? = some (.cells cs t fr) ∧ t ≠ 32) : InsAt B ib gm w' ms := by
  obtain ⟨mv, q1, q2, q3, q4⟩ := h
  refine ⟨mv, (hg.block ib (Array.getElem?_eq_some_iff.1 q1).1 (fun e => h1 (by injection e))).trans q1, ?_, q3.keep (hg.block gm q3.lt (fun e => h2 (by injection e))), Nat.le_trans q4 hg.size⟩
  refine ownG_kept q2 (fun k hk => hg.block k (own_ltK q2 k hk) (fun e => ?_))
  injection e with e
  subst e
  obtain ⟨cs, t, fr, h5, h6⟩ := h3
  rcases q2.2 with ⟨rfl, _⟩ | ⟨g', cap, cur, rfl, _, r3, _⟩
  · cases hk
  · have e' : g' = k := by simpa [Value.ownBlock] using hk
    subst e'
    rw [r3] at h5; injection h5 with h5; injection h5 with _ h5 _; exact h6 h5.symm
set_option maxHeartbeats 16000000 in
theorem insert_some (v v2 : Value) (L M : List Mx) (pw : Int) (pa : ByteArray) (u : Bool) (p : Nat) (w : World) (h : RowM w v L) (h2 : RowM w v2 M) (hl : L.length ≤ 8388608) (hm : M.length ≤ 8388608) (hsp : spotO L pw pa = some p) :
    Calls Try.prog 18 #[v, v2, .agg #[.int .i64 pw, .string pa], .bool u] w fun e w' => ∃ x y, e = .returned (.tuple #[x, y, .int .i64 0]) ∧ OwnM w.heap.size w' x (((insL L M u M.length).take L.length).take p ++ ((insL L M u M.length).drop L.length ++ ((insL L M u M.length).take L.length).drop p)) ∧ OwnE w.heap.size w' y (insE L M u M.length) ∧ Below w.heap.size w w' := by
  obtain ⟨a1, c1, q1, _, _⟩ := h.form
  obtain ⟨a2, c2, q2, _, _⟩ := h2.form
  have HB0 := hidK (bupK (Below.refl w.heap.size w) (.cells #[.int .i64 pw, .string pa] 39))
  have hcw : (w.alloc (.cells #[.int .i64 pw, .string pa] 39)).cell? ⟨w.heap.size, 0, none⟩ = some (.int .i64 pw) := cell_rowK (heap_alloc_new w _) 0 _ rfl
  have hca : (w.alloc (.cells #[.int .i64 pw, .string pa] 39)).cell? ⟨w.heap.size, 1, none⟩ = some (.string pa) := cell_rowK (heap_alloc_new w _) 1 _ rfl
  have HP := hidK (placeOf_c v L pw pa (w.alloc (.cells #[.int .i64 pw, .string pa] 39)) (h.on HB0.out) (by omega))
  rw [hsp] at HP
  simp only [plN, plB] at HP
  have HPL := hidK (spotO_le hsp)
  have HV := hidK h
  have HV2 := hidK h2
  have HMK := mk_evs M.length (by omega)
  obtain ⟨n, hnn⟩ : ∃ n, n = L.length := ⟨_, rfl⟩
  obtain ⟨m, hmm⟩ : ∃ m, m = M.length := ⟨_, rfl⟩
  have HN := hidK hnn
  have HM := hidK hmm
  have HLEN : Hid (∀ k, n ≤ (insL L M u k).length ∧ (insL L M u k).length ≤ n + k) := by intro k; rw [hnn]; exact insL_len L M u k
  have HEL : Hid (∀ k, k ≤ m → (insE L M u k).length = k) := by intro k hk; exact insE_len L M u k (by omega)
  subst q1
  subst q2
  rw [← hnn] at hl HPL HV HP ⊢
  rw [← hmm] at hm HV2 HMK ⊢
  clear h h2 hsp hnn hmm
  go_enter Try.func18, Try.ntmps18
  go_upto_region 2 with (go_at_call 30; refine HP.out.mono ?_; rintro e w1 ⟨rfl, hb1⟩)
  have HB1 := hidK (bel3K HB0.out hb1)
  clear hcw hca HB0 hb1 HP
  go_upto_region 5 with (go_at_call 31; refine (newIns_c _ L _ (HV.out.on HB1.out) (by have := HN.out; omega)).mono ?_; rintro e w2 ⟨B, ib, gm, rfl, hI2, hB2, hib2, hgm2, hb2⟩)
  have HB2 := hidK (bel3K HB1.out hb2)
  have hs1 := HB1.out.size
  have hB0 : w.heap.size ≤ B := Nat.le_trans hs1 hB2
  have hib0 : w.heap.size ≤ ib := Nat.le_trans hs1 hib2
  have hgm0 : w.heap.size ≤ gm := Nat.le_trans hs1 hgm2
  have HI2 := hidK (insAt_on hI2 (bupK (Below.refl _ _) (.cells ((List.replicate m zEv).flatMap evL).toArray 46)))
  have HE2 := hidK (heap_alloc_new w2 (.cells ((List.replicate m zEv).flatMap evL).toArray 46))
  have HB3 := hidK (bupK2 HB2.out (.cells ((List.replicate m zEv).flatMap evL).toArray 46))
  have hs2 := HB2.out.size
  obtain ⟨eb, heb⟩ : ∃ eb, eb = w2.heap.size := ⟨_, rfl⟩
  have hebg : gm < eb := by rw [heb]; obtain ⟨_, _, _, h3, _⟩ := hI2; exact h3.lt
  have hebi : ib < eb := by rw [heb]; obtain ⟨_, h3, _⟩ := hI2; exact (Array.getElem?_eq_some_iff.1 h3).1
  have HEB := hidK heb
  rw [← heb] at HE2
  clear hI2 hB2 hib2 hgm2 hb2 HB1 HB2
  go_upto_region 6 with fail
  rw [← heb]
  clear heb
  go_wp2
  go_loopw [36] (fun i wx => ∃ k : Nat, i = .int .i64 k ∧ k ≤ m ∧ InsAt B ib gm wx (insL L M u k) ∧ (∃ R : List Ev, R.length = m ∧ R.take k = insE L M u k ∧ wx.heap[eb]? = some (.cells (R.flatMap evL).toArray 46 (0, 0))) ∧ Below w.heap.size w wx) (fun i _ => m - (intOf i).toNat)
  case atStart => exact ⟨0, rfl, Nat.zero_le _, HI2.out, ⟨_, List.length_replicate, rfl, HE2.out⟩, HB3.out⟩
  case round =>
    clear HI2 HE2 HB3
    obtain ⟨k, rfl, hkn, hI, ⟨R, hRn, hRk, hR⟩, hB⟩ := hrel
    have HI := hidK hI
    have HRN := hidK hRn
    have HRK := hidK hRk
    have HR := hidK hR
    clear hI hRn hRk hR
    by_cases hk : k < m
    · have kI : (k : Int) < (m : Int) := by omega
      have k0 : (0 : Int) ≤ (k : Int) := by omega
      have hkl : k < M.length := by have := HM.out; omega
      obtain ⟨⟨dd, uu, gg, mm, nn, zz, dt⟩, hx⟩ : ∃ x, M[k]? = some x := ⟨_, List.getElem?_eq_getElem hkl⟩
      obtain ⟨b1, o1, p1, e1, d0, d1, d2, d3, d4, d5, d6⟩ := (HV2.out.on hB).mx hx
      have HX := hidK hx
      injection e1 with e1 e1b e1c
      subst e1
      have HIa := hidK (insAt_on HI.out (bupK (Below.refl _ _) (.cells #[.int .i64 dd, .int .i64 uu, .int .i64 gg, .int .i64 mm, .string nn, .int .i64 zz, .string dt] 32)))
      have HRa := hidK (hupK HR.out (.cells #[.int .i64 dd, .int .i64 uu, .int .i64 gg, .int .i64 mm, .string nn, .int .i64 zz, .string dt] 32))
      have HXa := hidK (heap_alloc_new wr (.cells #[.int .i64 dd, .int .i64 uu, .int .i64 gg, .int .i64 mm, .string nn, .int .i64 zz, .string dt] 32))
      have HBa := hidK (bupK2 hB (.cells #[.int .i64 dd, .int .i64 uu, .int .i64 gg, .int .i64 mm, .string nn, .int .i64 zz, .string dt] 32))
      have hebs : eb < wr.heap.size := (Array.getElem?_eq_some_iff.1 HR.out).1
      have HAD := hidK (add_c B ib gm (insL L M u k) ⟨dd, uu, gg, mm, nn, zz, dt⟩ u (wr.alloc (.cells #[.int .i64 dd, .int .i64 uu, .int .i64 gg, .int .i64 mm, .string nn, .int .i64 zz, .string dt] 32)) HIa.out (by have := (HLEN.out k).2; omega))
      simp only [] at HAD
      have HSX : Hid (∀ mv', (wr.alloc (.cells #[.int .i64 dd, .int .i64 uu, .int .i64 gg, .int .i64 mm, .string nn, .int .i64 zz, .string dt] 32)).heap[ib]? = some (.cells #[mv', .map (some gm)] 68 (0, 0)) → mv'.ownBlock ≠ some wr.heap.size) := by
        intro mv' hm' e
        obtain ⟨mv, h3, h4, _⟩ := HI.out
        have h5 := hupK h3 (.cells #[.int .i64 dd, .int .i64 uu, .int .i64 gg, .int .i64 mm, .string nn, .int .i64 zz, .string dt] 32)
        rw [hm'] at h5
        injection h5 with h5
        injection h5 with h5 _ _
        have h6 : mv' = mv := by simpa using h5
        rw [h6] at e
        have := own_ltK h4 _ e
        omega
      have HKR : Hid (k < R.length) := by show _ < _; rw [HRN.out]; exact hk
      obtain ⟨aw, haw⟩ : ∃ aw, aw = addW (insL L M u k) ⟨dd, uu, gg, mm, nn, zz, dt⟩ u := ⟨_, rfl⟩
      have HAW := hidK haw
      rw [← haw] at HAD
      clear hx hkl e1b e1c HV HI HR haw
      go_upto_region 10 with (go_at_call 32; refine HAD.out.mono ?_; rintro e w4 ⟨rfl, hI4, hK4, hY4⟩)
      have HI4 := hidK hI4
      have HB4 := hidK (HBa.out.trans ((hK4.below hB0 hib0 hgm0 (Nat.le_trans HBa.out.size (Nat.le_refl _)))))
      have HR4 := hidK ((hK4.block eb (by rw [World.size_alloc]; omega) (by omega) (by omega) (.inr ⟨_, _, _, HRa.out, by decide⟩)).trans HRa.out)
      have HX4 : Hid (w4.heap[wr.heap.size]? = some (.cells #[.int .i64 dd, .int .i64 uu, .int .i64 gg, .int .i64 mm, .string nn, .int .i64 zz, .string dt] 32 (0, 0))) := by
        obtain ⟨mv, h3, _⟩ := HIa.out
        exact ((hY4 mv h3).block wr.heap.size (by rw [World.size_alloc]; omega) (by omega) (by omega) (HSX.out mv h3)).trans HXa.out
      have x4 := cell_rowK HX4.out 4 _ rfl
      have hs4 : eb < w4.heap.size := (Array.getElem?_eq_some_iff.1 HR4.out).1
      clear hI4 hK4 hY4 HAD HIa HRa HXa HBa HSX d0 d1 d2 d3 d4 d5 d6
      go_wp2_with (refine wpList_store_row_G rfl rfl 46 (.tmp 51) (.tmp 50) rfl eb (k * 2) (.agg #[.int .u8 aw, .string nn]) rfl rfl 46 (R.flatMap evL).toArray ((R.set k ⟨aw, nn⟩).flatMap evL).toArray HR4.out (by kernel_rfl) (fitG evL_len HKR.out) rfl (putG_flat evL 2 evL_len R k ⟨aw, nn⟩ HKR.out) ?_; intro W5 hW5 hG5; have HW5 := hidK hW5; have HB5 := hidK (below_some HB4.out hG5 (by omega) (Nat.le_refl _)); have HI5 := hidK (insAt_kept HI4.out (hG5) (by omega) (by omega) (by rw [HR4.out]; exact ⟨_, _, _, rfl, by decide⟩)); clear hW5 hG5)
      go_roundw
      case rel =>
        refine ⟨k + 1, by go_num, by omega, ?_, ⟨_, by rw [List.length_set]; exact HRN.out, ?_, HW5.out⟩, HB5.out⟩
        · rw [insL_step HX.out]; exact HI5.out
        · rw [setTake HKR.out, HRK.out, insE_step HX.out, HAW.out]
      case measure => simp [intOf]; omega
    · obtain rfl : k = m := by omega
      have HEF : Hid (OwnE w.heap.size wr (.slice (some ⟨eb, 0, none⟩) k k) (insE L M u k)) := by
        have e : R = insE L M u k := by
          have := HRK.out
          rw [List.take_of_length_le (by rw [HRN.out]; exact Nat.le_refl _)] at this
          exact this
        have h2 := HR.out
        rw [e] at h2
        exact own_wholeG evL_len (HEL.out k (Nat.le_refl _)) (by omega) (by unfold maxLen; omega) h2
      obtain ⟨mv, hi3, ho3, _, _⟩ := HI.out
      obtain ⟨ms, hms⟩ : ∃ ms, ms = insL L M u k := ⟨_, rfl⟩
      have hml := HLEN.out k
      have HMS := hidK hms
      rw [← hms] at ho3 hml
      obtain ⟨n2, hn2⟩ : ∃ n2, ms.length = n2 := ⟨_, rfl⟩
      have hom := ownM_form hn2 ho3
      rw [hn2] at hml
      obtain ⟨ao, cap, q4, hnc, hcm, hnone, hsome⟩ := ownG_form 7 hom
      subst q4
      have c0 := cell_rowK hi3 0 _ rfl
      have hnI : (n : Int) ≤ (n2 : Int) := by omega
      have hcm' : cap ≤ 9223372036854775807 := hcm
      have HOM := hidK hom
      have HN2 := hidK hn2
      have HBr := hidK hB
      have hnc2 : n ≤ cap := by omega
      have hncI : (n : Int) ≤ (cap : Int) := by omega
      have HLT : Hid ((ms.take n).length = n) := by show _ = _; exact lenTake (by omega)
      have HLD : Hid ((ms.drop n).length ≤ 16777216) := by show _ ≤ _; rw [List.length_drop]; omega
      clear HI HR HRK HRN hi3 ho3 hom hn2 HMK hms
      cases ao with
      | none =>
        obtain ⟨e1, e2⟩ := hnone rfl
        have e3 : n = 0 := by omega
        subst e1
        subst e2
        have HR1 : Hid (RowM wr (.slice none 0 0) (ms.take n)) := by
          have e : ms = [] := List.eq_nil_of_length_eq_zero HN2.out
          rw [e, List.take_nil]; exact emptyM wr none 0 (by decide) (fun _ => rfl)
        have HR2 : Hid (RowM wr (.slice none 0 0) (ms.drop n)) := by
          have e : ms = [] := List.eq_nil_of_length_eq_zero HN2.out
          rw [e, List.drop_nil]; exact emptyM wr none 0 (by decide) (fun _ => rfl)
        subst e3
        go_wp2
        go_quiet (fail)
        have HW := hidK (withBlock_c _ _ (ms.take 0) (ms.drop 0) p (wr.drewN nq) (HR1.out.on (belDrewN (Below.refl _ _) nq)) (HR2.out.on (belDrewN (Below.refl _ _) nq)) (by rw [HLT.out]; exact HPL.out) (by rw [HLT.out]; omega) HLD.out)
        go_wp2_with (go_at_call 28; refine HW.out.mono ?_; rintro e w5 ⟨z, rfl, ho5, hb5⟩)
        go_ret3
        exact ⟨_, _, rfl, by rw [← HMS.out]; exact ho5.le (Nat.le_trans hB.size (Nat.le_refl _)), (HEF.out.on (belDrewN (Below.refl _ _) nq)).on hb5, bel3K (belDrewN hB nq) hb5⟩
      | some a =>
        obtain ⟨g, e1, _⟩ := hsome a rfl
        subst e1
        obtain ⟨hr1, hr2⟩ := parts_row HOM.out HN2.out hml.1
        have HR1 := hidK hr1
        by_cases hcap : cap = n
        · subst hcap
          have e2 : n2 = cap := by omega
          subst e2
          have HR2 : Hid (RowM wr (.slice (some ⟨g, 0, none⟩) 0 0) (ms.drop n2)) := by
            rw [List.drop_eq_nil_of_le (by rw [HN2.out]; exact Nat.le_refl _)]
            exact emptyM wr _ 0 (by decide) (fun h => by cases h)
          clear hr1 hr2 hsome hnone HOM
          go_wp2
          go_quiet (fail)
          have HW := hidK (withBlock_c _ _ (ms.take n2) (ms.drop n2) p (wr.drewN nq) (HR1.out.on (belDrewN (Below.refl _ _) nq)) (HR2.out.on (belDrewN (Below.refl _ _) nq)) (by rw [HLT.out]; exact HPL.out) (by rw [HLT.out]; omega) HLD.out)
          go_wp2_with (go_at_call 28; refine HW.out.mono ?_; rintro e w5 ⟨z, rfl, ho5, hb5⟩)
          go_ret3
          exact ⟨_, _, rfl, by rw [← HMS.out]; exact ho5.le (Nat.le_trans hB.size (Nat.le_refl _)), (HEF.out.on (belDrewN (Below.refl _ _) nq)).on hb5, bel3K (belDrewN hB nq) hb5⟩
        · have HR2 := hidK (hr2 (by omega))
          clear hr1 hr2 hsome hnone HOM
          go_wp2
          go_quiet (fail)
          have HW := hidK (withBlock_c _ _ (ms.take n) (ms.drop n) p (wr.drewN nq) (HR1.out.on (belDrewN (Below.refl _ _) nq)) (HR2.out.on (belDrewN (Below.refl _ _) nq)) (by rw [HLT.out]; exact HPL.out) (by rw [HLT.out]; omega) HLD.out)
          go_wp2_with (go_at_call 28; refine HW.out.mono ?_; rintro e w5 ⟨z, rfl, ho5, hb5⟩)
          go_ret3
          exact ⟨_, _, rfl, by rw [← HMS.out]; exact ho5.le (Nat.le_trans hB.size (Nat.le_refl _)), (HEF.out.on (belDrewN (Below.refl _ _) nq)).on hb5, bel3K (belDrewN hB nq) hb5⟩
theorem insert_c (v v2 : Value) (L M : List Mx) (pw : Int) (pa : ByteArray) (u : Bool) (w : World) (h : RowM w v L) (h2 : RowM w v2 M) (hl : L.length ≤ 8388608) (hm : M.length ≤ 8388608) :
    Calls Try.prog 18 #[v, v2, .agg #[.int .i64 pw, .string pa], .bool u] w fun e w' => ∃ x y, e = .returned (.tuple #[x, y, .int .i64 (insC L M pw pa)]) ∧ OwnM w.heap.size w' x (insX L M pw pa u) ∧ OwnE w.heap.size w' y (insY L M pw pa u) ∧ Below w.heap.size w w' := by
  cases hsp : spotO L pw pa with
  | none =>
    refine (insert_none v v2 L M pw pa u w h h2 (by omega) hsp).mono ?_
    rintro e w' ⟨rfl, hb⟩
    unfold insX insY insC
    rw [hsp]
    exact ⟨_, _, rfl, ⟨rfl, .inl ⟨rfl, rfl⟩⟩, ⟨rfl, .inl ⟨rfl, rfl⟩⟩, hb⟩
  | some p =>
    refine (insert_some v v2 L M pw pa u p w h h2 hl hm hsp).mono ?_
    rintro e w' ⟨x, y, rfl, hx, hy, hb⟩
    unfold insX insY insC
    rw [hsp]
    exact ⟨_, _, rfl, hx, hy, hb⟩
end Go.Proofs.Ytaaagdmhokgcjaa
