
-- Move, on both sides.
import Derived.Test.YtaaagdmhokgcjabP1
namespace Go.Proofs.Ytaaagdmhokgcjab
open Go.ChangeShapes Go.WideShapes Go.ChangeAt Go.RowKit
set_option linter.unusedVariables false
set_option maxRecDepth 100000
set_option linter.unusedSimpArgs false
def movX (L : List Mx) (Q : List ByteArray) (pw : Int) (pa : ByteArray) : List Mx := match mis (nms L) Q Q.length with | [] => (match spotO (othersA L (fndN (nms L) Q Q.length)) pw pa with | some p => (othersA L (fndN (nms L) Q Q.length)).take p ++ (takenA L (fndN (nms L) Q Q.length) ++ (othersA L (fndN (nms L) Q Q.length)).drop p) | none => []) | _ :: _ => []
def movS (L : List Mx) (Q : List ByteArray) (pw : Int) (pa : ByteArray) : ByteArray := match mis (nms L) Q Q.length with | [] => (match spotO (othersA L (fndN (nms L) Q Q.length)) pw pa with | some _ => ⟨#[]⟩ | none => pa) | m :: _ => m
def movE (L : List Mx) (Q : List ByteArray) (pw : Int) (pa : ByteArray) : Int := match mis (nms L) Q Q.length with | [] => (match spotO (othersA L (fndN (nms L) Q Q.length)) pw pa with | some _ => 0 | none => 131) | _ :: _ => 130
theorem movX_len (L : List Mx) (Q : List ByteArray) (pw : Int) (pa : ByteArray) (h : L.length ≤ 16777216) (hq : Q.length ≤ 16777216) : (movX L Q pw pa).length ≤ 67108864 := by
  unfold movX
  split
  · split
    · have h1 : (othersA L (fndN (nms L) Q Q.length)).length ≤ 16777216 := Nat.le_trans (othersTo_len _ _ _) h
      have h2 : (takenA L (fndN (nms L) Q Q.length)).length ≤ 16777216 := by
        unfold takenA
        exact Nat.le_trans (List.length_filterMap_le _ _) (Nat.le_trans (fndN_len _ _ _) (by rw [List.length_map]; exact h))
      simp only [List.length_append, List.length_take, List.length_drop]
      omega
    · simp
  · simp
set_option maxHeartbeats 8000000 in
theorem move_c (v u : Value) (L : List Mx) (Q : List ByteArray) (pw : Int) (pa : ByteArray) (w : World) (h : RowM w v L) (hu : RowT w u Q) (hl : L.length ≤ 16777216) (hq : Q.length ≤ 16777216) :
    Calls Try.prog 11 #[v, u, .agg #[.int .i64 pw, .string pa]] w fun e w' => ∃ x, e = .returned (.tuple #[x, .string (movS L Q pw pa), .int .i64 (movE L Q pw pa)]) ∧ OwnM w.heap.size w' x (movX L Q pw pa) ∧ Below w.heap.size w w' := by
  obtain ⟨a1, c1, q1, _, _⟩ := h.form
  obtain ⟨a2, c2, q2, _, _⟩ := hu.form
  have HB0 := hidK (bupK (Below.refl w.heap.size w) (.cells #[.int .i64 pw, .string pa] 25))
  have HP0 := hidK (heap_alloc_new w (.cells #[.int .i64 pw, .string pa] 25))
  have HV := hidK (h.on HB0.out)
  have HU := hidK (hu.on HB0.out)
  have HL := hidK hl
  have HQ := hidK hq
  obtain ⟨ds, hds⟩ : ∃ ds, ds = movS L Q pw pa := ⟨_, rfl⟩
  obtain ⟨de, hde⟩ : ∃ de, de = movE L Q pw pa := ⟨_, rfl⟩
  have HDS := hidK hds
  have HDE := hidK hde
  rw [← hds, ← hde]
  obtain ⟨J, hJ⟩ : ∃ J, J = fndN (nms L) Q Q.length := ⟨_, rfl⟩
  have HJ := hidK hJ
  have HJL : Hid (∀ j ∈ J, j < L.length) := by rw [hJ]; exact (fun j hj => by have := fndN_lt hj; rwa [List.length_map] at this)
  have HJN : Hid (J.length ≤ L.length) := by rw [hJ]; exact (by have := fndN_len (nms L) Q Q.length; rwa [List.length_map] at this)
  subst q1
  subst q2
  clear h hu hl hq hds hde hJ
  go_enter Try.func11, Try.ntmps11
  go_upto_region 2 with (go_at_call 30; refine (select_c _ _ L Q _ HV.out HU.out HL.out HQ.out).mono ?_; rintro e w1 ⟨x, y, rfl, hx1, hy1, hb1⟩)
  have HX1 := hidK hx1.row
  rw [fnd_eq, ← HJ.out] at HX1
  have HB1 := hidK (bel3K HB0.out hb1)
  have HP1 := hidK (hkeepK hb1 HP0.out)
  have HV1 := hidK (HV.out.on hb1)
  obtain ⟨n, hnn⟩ : ∃ n, (mis (nms L) Q Q.length).length = n := ⟨_, rfl⟩
  have hnb : n ≤ 16777216 := by rw [← hnn]; exact Nat.le_trans (mis_len _ _ _) HQ.out
  cases hmi : mis (nms L) Q Q.length with
  | cons m r =>
    have HMI := hidK hmi
    rw [hmi] at hy1
    obtain ⟨b3, o3, c3, q3, hc3⟩ := hy1.row.tx (k := 0) (x := m) rfl
    rw [Nat.add_zero] at hc3
    have hn0 : 0 < n := by rw [← hnn, hmi]; simp
    have hn1 : (m :: r).length = n := by rw [← hnn, hmi]
    have hnI : (0 : Int) < (n : Int) := by omega
    rw [hn1] at q3
    subst q3
    have e0 : ds = m := by rw [HDS.out]; unfold movS; rw [hmi]
    have e1 : de = 130 := by rw [HDE.out]; unfold movE; rw [hmi]
    subst e0
    subst e1
    clear hx1 hy1 hmi hnn HX1 hn1 HP1 HV1 hb1
    go_wp2
    go_region
    go_wp2
    go_ret3
    refine ⟨_, rfl, ?_, HB1.out.drew⟩
    have e3 : movX L Q pw pa = [] := by unfold movX; rw [HMI.out]
    rw [e3]; exact ⟨rfl, .inl ⟨rfl, rfl⟩⟩
  | nil =>
    have HMI := hidK hmi
    rw [hmi] at hnn hy1
    obtain ⟨a3, c3, q3, _, _⟩ := hy1.row.form
    subst q3
    simp only [List.length_nil] at *
    have HSE : Hid (ds = (match spotO (othersA L J) pw pa with | some _ => ⟨#[]⟩ | none => pa)) := by rw [HDS.out]; unfold movS; rw [hmi, HJ.out]; exact rfl
    have HEE : Hid (de = (match spotO (othersA L J) pw pa with | some _ => 0 | none => 131)) := by rw [HDE.out]; unfold movE; rw [hmi, HJ.out]; exact rfl
    have HXE : Hid (movX L Q pw pa = (match spotO (othersA L J) pw pa with | some p => (othersA L J).take p ++ (takenA L J ++ (othersA L J).drop p) | none => [])) := by unfold movX; rw [hmi, HJ.out]; exact rfl
    have HOL : Hid ((othersA L J).length ≤ 16777216) := Nat.le_trans (othersTo_len _ _ _) HL.out
    have HTL : Hid ((takenA L J).length ≤ 16777216) := by show _ ≤ _; rw [takenA_len HJL.out]; exact Nat.le_trans HJN.out HL.out
    clear hx1 hy1 hmi hnn HV HU HP0 HDS HDE hb1
    go_upto_region 5 with (go_at_call 31; refine (without_c _ _ L J _ HV1.out HX1.out HL.out HJL.out HJN.out).mono ?_; rintro e w2 ⟨oo, rfl, ho2, hb2⟩)
    have HO2 := hidK ho2.row; have HB2 := hidK (bel3K HB1.out hb2); have HP2 := hidK (hkeepK hb2 HP1.out); have HV2 := hidK (HV1.out.on hb2); have HX2 := hidK (HX1.out.on hb2)
    have hcw := cell_rowK HP2.out 0 _ rfl
    have hca := cell_rowK HP2.out 1 _ rfl
    clear ho2 hb2 HB1 HP1 HV1 HX1
    go_upto_region 6 with (go_at_call 32; refine (placeOf_c _ _ pw pa _ HO2.out HOL.out).mono ?_; rintro e w3 ⟨rfl, hb3⟩)
    have HO3 := hidK (HO2.out.on hb3); have HB3 := hidK (bel3K HB2.out hb3); have HP3 := hidK (hkeepK hb3 HP2.out); have HV3 := hidK (HV2.out.on hb3); have HX3 := hidK (HX2.out.on hb3)
    clear hcw hca hb3 HB2 HP2 HV2 HX2 HO2
    cases hsp : spotO (othersA L J) pw pa with
    | none =>
      have e0 : ds = pa := by rw [HSE.out, hsp]
      have e1 : de = 131 := by rw [HEE.out, hsp]
      have e2 : movX L Q pw pa = [] := by rw [HXE.out, hsp]
      have HE2 := hidK e2
      have hca := cell_rowK HP3.out 1 _ rfl
      subst e0
      subst e1
      clear hsp e2 HSE HEE HXE
      simp only [plN, plB]
      go_wp2
      go_region
      go_wp2
      go_ret3
      exact ⟨_, rfl, by rw [HE2.out]; exact ⟨rfl, .inl ⟨rfl, rfl⟩⟩, HB3.out.drew⟩
    | some p =>
      have e0 : ds = ⟨#[]⟩ := by rw [HSE.out, hsp]
      have e1 : de = 0 := by rw [HEE.out, hsp]
      have e2 : movX L Q pw pa = (othersA L J).take p ++ (takenA L J ++ (othersA L J).drop p) := by rw [HXE.out, hsp]
      have HE2 := hidK e2
      have HPL := hidK (spotO_le hsp)
      subst e0
      subst e1
      clear hsp e2 HSE HEE HXE
      simp only [plN, plB]
      go_upto_region 9 with (go_at_call 33; refine (only_c _ _ L J _ HV3.out HX3.out HL.out HJL.out (Nat.le_trans HJN.out HL.out)).mono ?_; rintro e w4 ⟨tt, rfl, ho4, hb4⟩)
      have HO4 := hidK (HO3.out.on hb4); have HT4 := hidK ho4.row; have HB4 := hidK (bel3K HB3.out hb4)
      clear ho4 hb4 HB3 HP3 HV3 HX3 HO3
      go_wp2_with (go_at_call 34; refine (withBlock_c _ _ _ _ p _ HO4.out HT4.out HPL.out HOL.out HTL.out).mono ?_; rintro e w5 ⟨z, rfl, ho5, hb5⟩)
      go_ret3
      exact ⟨_, rfl, by rw [HE2.out]; exact ho5.le HB4.out.size, bel3K HB4.out hb5⟩
set_option maxHeartbeats 8000000 in
theorem rmove_c (v u : Value) (L : List Mx) (Q : List ByteArray) (pw : Int) (pa : ByteArray) (w : World) (h : RowM w v L) (hu : RowT w u Q) (hl : L.length ≤ 16777216) (hq : Q.length ≤ 16777216) :
    Calls Try.prog 22 #[v, u, .agg #[.int .i64 pw, .string pa]] w fun e w' => ∃ x, e = .returned (.tuple #[x, .string (movS L Q pw pa), .int .i64 (movE L Q pw pa)]) ∧ OwnM w.heap.size w' x (movX L Q pw pa) ∧ Below w.heap.size w w' := by
  obtain ⟨a1, c1, q1, _, _⟩ := h.form
  obtain ⟨a2, c2, q2, _, _⟩ := hu.form
  have HB0 := hidK (bupK (Below.refl w.heap.size w) (.cells #[.int .i64 pw, .string pa] 25))
  have HP0 := hidK (heap_alloc_new w (.cells #[.int .i64 pw, .string pa] 25))
  have HV := hidK (h.on HB0.out)
  have HU := hidK (hu.on HB0.out)
  have HL := hidK hl
  have HQ := hidK hq
  obtain ⟨ds, hds⟩ : ∃ ds, ds = movS L Q pw pa := ⟨_, rfl⟩
  obtain ⟨de, hde⟩ : ∃ de, de = movE L Q pw pa := ⟨_, rfl⟩
  have HDS := hidK hds
  have HDE := hidK hde
  rw [← hds, ← hde]
  obtain ⟨J, hJ⟩ : ∃ J, J = fndN (nms L) Q Q.length := ⟨_, rfl⟩
  have HJ := hidK hJ
  have HJL : Hid (∀ j ∈ J, j < L.length) := by rw [hJ]; exact (fun j hj => by have := fndN_lt hj; rwa [List.length_map] at this)
  have HJN : Hid (J.length ≤ L.length) := by rw [hJ]; exact (by have := fndN_len (nms L) Q Q.length; rwa [List.length_map] at this)
  subst q1
  subst q2
  clear h hu hl hq hds hde hJ
  go_enter Try.func22, Try.ntmps22
  go_upto_region 2 with (go_at_call 37; refine (rselect_c _ _ L Q _ HV.out HU.out HL.out HQ.out).mono ?_; rintro e w1 ⟨x, y, rfl, hx1, hy1, hb1⟩)
  have HX1 := hidK hx1.row
  rw [fnd_eq, ← HJ.out] at HX1
  have HB1 := hidK (bel3K HB0.out hb1)
  have HP1 := hidK (hkeepK hb1 HP0.out)
  have HV1 := hidK (HV.out.on hb1)
  obtain ⟨n, hnn⟩ : ∃ n, (mis (nms L) Q Q.length).length = n := ⟨_, rfl⟩
  have hnb : n ≤ 16777216 := by rw [← hnn]; exact Nat.le_trans (mis_len _ _ _) HQ.out
  cases hmi : mis (nms L) Q Q.length with
  | cons m r =>
    have HMI := hidK hmi
    rw [hmi] at hy1
    obtain ⟨b3, o3, c3, q3, hc3⟩ := hy1.row.tx (k := 0) (x := m) rfl
    rw [Nat.add_zero] at hc3
    have hn0 : 0 < n := by rw [← hnn, hmi]; simp
    have hn1 : (m :: r).length = n := by rw [← hnn, hmi]
    have hnI : (0 : Int) < (n : Int) := by omega
    rw [hn1] at q3
    subst q3
    have e0 : ds = m := by rw [HDS.out]; unfold movS; rw [hmi]
    have e1 : de = 130 := by rw [HDE.out]; unfold movE; rw [hmi]
    subst e0
    subst e1
    clear hx1 hy1 hmi hnn HX1 hn1 HP1 HV1 hb1
    go_wp2
    go_region
    go_wp2
    go_ret3
    refine ⟨_, rfl, ?_, HB1.out.drew⟩
    have e3 : movX L Q pw pa = [] := by unfold movX; rw [HMI.out]
    rw [e3]; exact ⟨rfl, .inl ⟨rfl, rfl⟩⟩
  | nil =>
    have HMI := hidK hmi
    rw [hmi] at hnn hy1
    obtain ⟨a3, c3, q3, _, _⟩ := hy1.row.form
    subst q3
    simp only [List.length_nil] at *
    have HSE : Hid (ds = (match spotO (othersA L J) pw pa with | some _ => ⟨#[]⟩ | none => pa)) := by rw [HDS.out]; unfold movS; rw [hmi, HJ.out]; exact rfl
    have HEE : Hid (de = (match spotO (othersA L J) pw pa with | some _ => 0 | none => 131)) := by rw [HDE.out]; unfold movE; rw [hmi, HJ.out]; exact rfl
    have HXE : Hid (movX L Q pw pa = (match spotO (othersA L J) pw pa with | some p => (othersA L J).take p ++ (takenA L J ++ (othersA L J).drop p) | none => [])) := by unfold movX; rw [hmi, HJ.out]; exact rfl
    have HOL : Hid ((othersA L J).length ≤ 16777216) := Nat.le_trans (othersTo_len _ _ _) HL.out
    have HTL : Hid ((takenA L J).length ≤ 16777216) := by show _ ≤ _; rw [takenA_len HJL.out]; exact Nat.le_trans HJN.out HL.out
    clear hx1 hy1 hmi hnn HV HU HP0 HDS HDE hb1
    go_upto_region 5 with (go_at_call 38; refine (parted_c _ _ L J _ HV1.out HX1.out HL.out HJL.out (Nat.le_trans HJN.out HL.out)).mono ?_; rintro e w2 ⟨tt, oo, rfl, ht2, ho2, hb2⟩)
    have HO2 := hidK ho2.row; have HT2 := hidK ht2.row; have HB2 := hidK (bel3K HB1.out hb2); have HP2 := hidK (hkeepK hb2 HP1.out)
    have hcw := cell_rowK HP2.out 0 _ rfl
    have hca := cell_rowK HP2.out 1 _ rfl
    clear ho2 ht2 hb2 HB1 HP1 HV1 HX1
    go_upto_region 6 with (go_at_call 39; refine (spot_c _ _ pw pa _ HO2.out HOL.out).mono ?_; rintro e w3 ⟨rfl, hb3⟩)
    have HO3 := hidK (HO2.out.on hb3); have HT3 := hidK (HT2.out.on hb3); have HB3 := hidK (bel3K HB2.out hb3); have HP3 := hidK (hkeepK hb3 HP2.out)
    clear hcw hca hb3 HB2 HP2 HO2 HT2
    cases hsp : spotO (othersA L J) pw pa with
    | none =>
      have e0 : ds = pa := by rw [HSE.out, hsp]
      have e1 : de = 131 := by rw [HEE.out, hsp]
      have e2 : movX L Q pw pa = [] := by rw [HXE.out, hsp]
      have HE2 := hidK e2
      have hca := cell_rowK HP3.out 1 _ rfl
      subst e0
      subst e1
      clear hsp e2 HSE HEE HXE
      simp only [spN]
      go_wp2
      go_region
      go_wp2
      go_ret3
      exact ⟨_, rfl, by rw [HE2.out]; exact ⟨rfl, .inl ⟨rfl, rfl⟩⟩, HB3.out.drew⟩
    | some p =>
      have e0 : ds = ⟨#[]⟩ := by rw [HSE.out, hsp]
      have e1 : de = 0 := by rw [HEE.out, hsp]
      have e2 : movX L Q pw pa = (othersA L J).take p ++ (takenA L J ++ (othersA L J).drop p) := by rw [HXE.out, hsp]
      have HE2 := hidK e2
      have HPL := hidK (spotO_le hsp)
      have p0 : ¬ ((p : Int) < 0) := by omega
      subst e0
      subst e1
      clear hsp e2 HSE HEE HXE
      simp only [spN]
      go_wp2_with (go_at_call 40; refine (placed_c _ _ _ _ p _ HO3.out HT3.out HPL.out HOL.out HTL.out).mono ?_; rintro e w5 ⟨z, rfl, ho5, hb5⟩)
      go_ret3
      exact ⟨_, rfl, by rw [HE2.out]; exact ho5.le HB3.out.size, bel3K HB3.out hb5⟩
end Go.Proofs.Ytaaagdmhokgcjab
