
-- OpsDet: the walk.
import Derived.Test.YtaaagdmhokgcjabPT
namespace Go.Proofs.Ytaaagdmhokgcjab
open Go.ChangeShapes Go.WideShapes Go.ChangeAt Go.RowKit
set_option linter.unusedVariables false
set_option maxRecDepth 100000
set_option linter.unusedSimpArgs false
theorem delX_len16 (L : List Mx) (Q : List ByteArray) (h : L.length ≤ 1048576) : (delX L Q).length ≤ 1048576 := by
  unfold delX
  split
  · exact Nat.le_trans (othersTo_len _ _ _) h
  · simp
theorem movX_len16 (L : List Mx) (Q : List ByteArray) (pw : Int) (pa : ByteArray) (h : L.length ≤ 1048576) : (movX L Q pw pa).length ≤ 16777216 := by
  unfold movX
  split
  · split
    · have h1 : (othersA L (fndN (nms L) Q Q.length)).length ≤ 1048576 := Nat.le_trans (othersTo_len _ _ _) h
      have h2 : (takenA L (fndN (nms L) Q Q.length)).length ≤ 1048576 := by
        unfold takenA
        exact Nat.le_trans (List.length_filterMap_le _ _) (Nat.le_trans (fndN_len _ _ _) (by rw [List.length_map]; exact h))
      simp only [List.length_append, List.length_take, List.length_drop]
      omega
    · simp
  · simp
theorem insX_len16 (L M : List Mx) (pw : Int) (pa : ByteArray) (u : Bool) (hl : L.length ≤ 1048576) (hm : M.length ≤ 1048576) : (insX L M pw pa u).length ≤ 16777216 := by
  unfold insX
  split
  · have := (insL_len L M u M.length).2
    simp only [List.length_append, List.length_take, List.length_drop]
    omega
  · simp
set_option maxHeartbeats 16000000 in
theorem det_head (v0 v1 v2 : Value) (L M : List Mx) (Q : List ByteArray) (pw : Int) (pa : ByteArray) (ta tb tc td : Int) (w : World) (h0 : RowM w v0 L) (h1 : RowM w v1 M) (h2 : RowT w v2 Q) (hl : L.length ≤ 1048576) (hm : M.length ≤ 1048576) (hq : Q.length ≤ 1048576) :
    Calls Try.prog 3 #[v0, v1, v2, .agg #[.int .i64 pw, .string pa], .agg #[.int .i64 ta, .int .i64 tb, .int .i64 tc, .int .i64 td]] w fun e w' => e = .returned (.bool true) ∧ Below w.heap.size w w' := by
  obtain ⟨a0, c0, q0, _, _⟩ := h0.form
  obtain ⟨a1, c1, q1, _, _⟩ := h1.form
  obtain ⟨a2, c2, q2, _, _⟩ := h2.form
  obtain ⟨i0, hi, hz0, hz1, hz2⟩ := info_parts infoMx
  obtain ⟨W0, hW0⟩ : ∃ W0, W0 = (w.alloc (.cells #[.int .i64 pw, .string pa] 25)).alloc (.cells #[.int .i64 ta, .int .i64 tb, .int .i64 tc, .int .i64 td] 27) := ⟨_, rfl⟩
  have hb0 : Below w.heap.size w W0 := by rw [hW0]; exact bupK2 (bupK (Below.refl _ _) _) _
  have hP0 : W0.heap[w.heap.size]? = some (.cells #[.int .i64 pw, .string pa] 25 (0, 0)) := by rw [hW0]; exact hupK (heap_alloc_new w _) _
  have hT0 : W0.heap[w.heap.size + 1]? = some (.cells #[.int .i64 ta, .int .i64 tb, .int .i64 tc, .int .i64 td] 27 (0, 0)) := by rw [hW0]; exact heap_new2K w _ _
  have HB0 := hidK hb0
  have HP0 := hidK hP0
  have HT0 := hidK hT0
  have HV := hidK (h0.on hb0)
  have HU := hidK (h1.on hb0)
  have HQ := hidK (h2.on hb0)
  have HM := hidK hm
  have HQL := hidK hq
  have HW0 := hidK hW0
  have hs0 : w.heap.size + 1 < W0.heap.size := (Array.getElem?_eq_some_iff.1 hT0).1
  obtain ⟨n, hnn⟩ : ∃ n, n = L.length := ⟨_, rfl⟩
  have HN := hidK hnn
  obtain ⟨mb, hmb⟩ : ∃ mb, mb = w.heap.size + 1 := ⟨_, rfl⟩
  have HMB := hidK hmb
  rw [← hmb] at HT0 hs0
  subst q0
  subst q1
  subst q2
  rw [← hnn] at hl HV ⊢
  clear h0 h1 h2 hm hq hb0 hP0 hT0 hnn hmb
  go_enter Try.func3, Try.ntmps3
  go_upto_region 1 with fail
  rw [← hW0, ← HMB.out]
  clear hW0
  go_wp2
  go_loopw [11, 12] (fun o i wx => ∃ k : Nat, i = .int .i64 k ∧ k ≤ n ∧ OwnM W0.heap.size wx o ((L.take k).map (wth ta tb tc td)) ∧ Below W0.heap.size W0 wx) (fun _ i _ => n - (intOf i).toNat)
  case atStart => exact ⟨0, rfl, Nat.zero_le _, ⟨rfl, .inl ⟨rfl, rfl⟩⟩, Below.refl _ _⟩
  case round =>
    obtain ⟨k, rfl, hkn, ho, hB⟩ := hrel
    have HO := hidK ho
    clear ho
    by_cases hk : k < n
    · have kI : (k : Int) < (n : Int) := by omega
      have k0 : (0 : Int) ≤ (k : Int) := by omega
      have hkl : k < L.length := by have := HN.out; omega
      obtain ⟨⟨dd, uu, gg, mm, nn, zz, dt⟩, hx⟩ : ∃ x, L[k]? = some x := ⟨_, List.getElem?_eq_getElem hkl⟩
      obtain ⟨b1, o1, p1, e1, d0, d1, d2, d3, d4, d5, d6⟩ := (HV.out.on hB).mx hx
      have HX := hidK hx
      injection e1 with e1 e1b e1c
      subst e1
      have HTr := hidK (hkeepK hB HT0.out)
      have m0 : (wr.alloc (.cells #[.int .i64 dd, .int .i64 uu, .int .i64 gg, .int .i64 mm, .string nn, .int .i64 zz, .string dt] 29)).cell? ⟨mb, 0, none⟩ = some (.int .i64 ta) := cell_rowK (hupK HTr.out _) 0 _ rfl
      have m1 : (wr.alloc (.cells #[.int .i64 dd, .int .i64 uu, .int .i64 gg, .int .i64 mm, .string nn, .int .i64 zz, .string dt] 29)).cell? ⟨mb, 1, none⟩ = some (.int .i64 tb) := cell_rowK (hupK HTr.out _) 1 _ rfl
      have m2 : (wr.alloc (.cells #[.int .i64 dd, .int .i64 uu, .int .i64 gg, .int .i64 mm, .string nn, .int .i64 zz, .string dt] 29)).cell? ⟨mb, 2, none⟩ = some (.int .i64 tc) := cell_rowK (hupK HTr.out _) 2 _ rfl
      have m3 : (wr.alloc (.cells #[.int .i64 dd, .int .i64 uu, .int .i64 gg, .int .i64 mm, .string nn, .int .i64 zz, .string dt] 29)).cell? ⟨mb, 3, none⟩ = some (.int .i64 td) := cell_rowK (hupK HTr.out _) 3 _ rfl
      clear hx hkl e1b e1c HV HU HQ
      have HL : Hid (((L.take k).map (wth ta tb tc td)).length = k) := by show _ = _; rw [List.length_map]; exact lenTake (by have := HN.out; omega)
      have ho : (wr.alloc (.cells (mxL (wth ta tb tc td ⟨dd, uu, gg, mm, nn, zz, dt⟩)).toArray 29)).ownsRow W0.heap.size 29 7 u11 k (((L.take k).map (wth ta tb tc td)).flatMap mxL) := own_upK (ownM_form HL.out HO.out) _
      have hB1 := bupK2 hB (.cells (mxL (wth ta tb tc td ⟨dd, uu, gg, mm, nn, zz, dt⟩)).toArray 29)
      clear HO
      go_wp2_with (refine wpList_append_own _ rfl (.tmp 53) (.tmp 55) 22 rfl (W0.heap.size) 29 i0 (.agg #[.int .i64 0, .int .i64 0, .int .i64 0, .int .i64 0, .string ⟨#[]⟩, .int .i64 0, .string ⟨#[]⟩]) 7 72 Try.underlying22 hi hz0 hz1 hz2 rfl (by decide) u11 k (((L.take k).map (wth ta tb tc td)).flatMap mxL) rfl (own_upK ho _) ⟨wr.heap.size + 1, 0, none⟩ 1 1 (mxL (wth ta tb tc td ⟨dd, uu, gg, mm, nn, zz, dt⟩)) rfl rfl (new_rowS (wr.alloc (.cells (mxL (wth ta tb tc td ⟨dd, uu, gg, mm, nn, zz, dt⟩)).toArray 29)) (wr.heap.size + 1) (by simp only [World.size_alloc]) (mxL (wth ta tb tc td ⟨dd, uu, gg, mm, nn, zz, dt⟩)).toArray 29 (mxL (wth ta tb tc td ⟨dd, uu, gg, mm, nn, zz, dt⟩)) rfl) (mxL_one (wth ta tb tc td ⟨dd, uu, gg, mm, nn, zz, dt⟩)) (by unfold maxLen; omega) (by omega) (by simp only [World.size_alloc]; have := (hB).size; omega) ?_; intro v2 w2 o2 g2 _; have HB2 := hidK (below_grow (bupK2 hB1 (.cells (mxL (wth ta tb tc td ⟨dd, uu, gg, mm, nn, zz, dt⟩)).toArray 29)) g2 (own_upK ho _) (Nat.le_refl _)); have HO2 := hidK o2; clear o2 g2 ho)
      go_roundw
      case rel =>
        refine ⟨k + 1, by go_num, by omega, ?_, HB2.out⟩
        rw [takeSucc HX.out, List.map_append]
        exact own_push HL.out.symm HO2.out
      case measure => simp [intOf]; omega
    · obtain rfl : k = n := by omega
      have hT := HO.out.row
      rw [List.take_of_length_le (by have := HN.out; omega)] at hT
      have HT1 := hidK hT
      have HB1 := hidK hB
      clear HO hT hB hk hkn HT0
      go_upto_region 9 with (go_at_call 8; refine (normal_c _ L _ (HV.out.on HB1.out) (by have := HN.out; omega)).mono ?_; rintro e wx2 ⟨xl, rfl, hol, hb⟩)
      have HT2 := hidK (HT1.out.on hb)
      have Hl2 := hidK (hol.row)
      have HB2 := hidK (bel3K HB1.out hb)
      clear hb HB1 HT1 
      clear hol
      go_upto_region 10 with (go_at_call 8; refine (normal_c _ (L.map (wth ta tb tc td)) _ HT2.out (by rw [List.length_map]; have := HN.out; omega)).mono ?_; rintro e wx3 ⟨xt, rfl, hot, hb⟩)
      have HT3 := hidK (HT2.out.on hb)
      have Hl3 := hidK (Hl2.out.on hb)
      have Ht3 := hidK ((show RowM _ _ (L.map nrm) by have := hot.row; rwa [nrm_wth] at this))
      have HB3 := hidK (bel3K HB2.out hb)
      clear hb HB2 HT2 Hl2 
      clear hot
      go_upto_region 11 with (go_at_call 8; refine (normal_c _ M _ (HU.out.on HB3.out) (by have := HM.out; omega)).mono ?_; rintro e wx4 ⟨xn, rfl, hon, hb⟩)
      have HT4 := hidK (HT3.out.on hb)
      have Hl4 := hidK (Hl3.out.on hb)
      have Ht4 := hidK (Ht3.out.on hb)
      have Hn4 := hidK (hon.row)
      have HB4 := hidK (bel3K HB3.out hb)
      clear hb HB3 HT3 Hl3 Ht3 
      clear hon
      go_upto_region 12 with (go_at_call 9; refine (same_c _ _ (L.map nrm) _ Hl4.out Ht4.out (by rw [List.length_map]; have := HN.out; omega)).mono ?_; rintro e wx5 ⟨rfl, hb⟩)
      have HT5 := hidK (HT4.out.on hb)
      have Hl5 := hidK (Hl4.out.on hb)
      have Ht5 := hidK (Ht4.out.on hb)
      have Hn5 := hidK (Hn4.out.on hb)
      have HB5 := hidK (bel3K HB4.out hb)
      clear hb HB4 HT4 Hl4 Ht4 Hn4 
      obtain ⟨al, cl, ql, _, _⟩ := Hl5.out.form
      obtain ⟨an, cn, qn, _, _⟩ := Hn5.out.form
      rw [List.length_map, ← HN.out] at ql
      rw [List.length_map] at qn
      subst ql
      subst qn
      have HWB := HB5
      clear HT5 Ht5
      go_wp2
      go_loopw [18] (fun i wx => ∃ k' : Nat, i = .int .i64 k' ∧ k' ≤ k ∧ Below W0.heap.size W0 wx ∧ RowM wx (.slice al k cl) (L.map nrm) ∧ RowM wx (.slice an M.length cn) (M.map nrm)) (fun i _ => k - (intOf i).toNat)
      case atStart => exact ⟨0, rfl, Nat.zero_le _, HWB.out, Hl5.out, Hn5.out⟩
      case round =>
        clear HWB Hl5 Hn5 HB5
        obtain ⟨j, rfl, hjn, hB, hl2, hn2⟩ := hrel
        have Hl0 := hidK hl2
        have Hn0 := hidK hn2
        clear hl2 hn2
        by_cases hj : j < k
        · have jI : (j : Int) < (k : Int) := by omega
          have j0 : (0 : Int) ≤ (j : Int) := by omega
          have hjl : j < L.length := by have := HN.out; omega
          obtain ⟨⟨dd, uu, gg, mm, nn, zz, dt⟩, hx⟩ : ∃ x, L[j]? = some x := ⟨_, List.getElem?_eq_getElem hjl⟩
          obtain ⟨b1, o1, p1, e1, d0, d1, d2, d3, d4, d5, d6⟩ := (HV.out.on hB).mx hx
          have hxn : (L.map nrm)[j]? = some (nrm ⟨dd, uu, gg, mm, nn, zz, dt⟩) := by rw [List.getElem?_map, hx]; rfl
          obtain ⟨b2, o2, p2, e2, f0, f1, f2, f3, f4, f5, f6⟩ := Hl0.out.mx hxn
          simp only [nrm] at f0 f1 f2 f3 f4 f5 f6
          injection e1 with e1 e1b e1c
          injection e2 with e2 e2b e2c
          subst e1
          subst e2
          have HBj := hidK hB
          clear hx hjl e1b e1c e2b e2c hxn HV HU HQ hB
          go_wp2_with fail
          go_quiet (fail)
          have HBq := hidK (belDrewN HBj.out nq)
          have Hlq := hidK (Hl0.out.on (belDrewN (Below.refl _ _) nq))
          have Hnq := hidK (Hn0.out.on (belDrewN (Below.refl _ _) nq))
          clear Hl0 Hn0 HBj
          go_wp2
          go_roundw
          case rel => exact ⟨j + 1, by go_num, by omega, HBq.out, Hlq.out, Hnq.out⟩
          case measure => simp [intOf]; omega
        · obtain rfl : j = k := by omega
          have HBa := hidK hB
          clear hj hjn hB
          obtain ⟨de, hde⟩ : ∃ de, de = delE L Q := ⟨_, rfl⟩
          have HDE := hidK hde
          obtain ⟨me, hme⟩ : ∃ me, me = movE L Q pw pa := ⟨_, rfl⟩
          have HME := hidK hme
          obtain ⟨ce, hce⟩ : ∃ ce, ce = insC L M pw pa := ⟨_, rfl⟩
          have HCE := hidK hce
          clear hde hme hce
          go_upto_region 20 with (go_at_call 10; refine (delete_c _ _ L Q _ (HV.out.on HBa.out) (HQ.out.on HBa.out) (by have := HN.out; omega) (by have := HQL.out; omega)).mono ?_; rintro e wx6 ⟨xa, rfl, ho, hb⟩; rw [← HDE.out])
          have Hl6 := hidK (Hl0.out.on hb)
          have Hn6 := hidK (Hn0.out.on hb)
          have Ha6 := hidK (ho.row)
          have HB6 := hidK (bel3K HBa.out hb)
          clear hb ho HBa Hl0 Hn0
          go_upto_region 21 with (go_at_call 10; refine (delete_c _ _ (L.map nrm) Q _ Hl6.out (HQ.out.on HB6.out) (by rw [List.length_map]; have := HN.out; omega) (by have := HQL.out; omega)).mono ?_; rintro e wx7 ⟨xb, rfl, ho, hb⟩; rw [delE_nrm, ← HDE.out])
          have Hl7 := hidK (Hl6.out.on hb)
          have Hn7 := hidK (Hn6.out.on hb)
          have Ha7 := hidK (Ha6.out.on hb)
          have Hb7 := hidK ((show RowM _ _ ((delX L Q).map nrm) by have := ho.row; rwa [delX_nrm] at this))
          have HB7 := hidK (bel3K HB6.out hb)
          clear hb ho HB6 Hl6 Hn6 Ha6
          have HPp := hidK (hkeepK HB7.out HP0.out); have hcw := cell_rowK HPp.out 0 _ rfl; have hca := cell_rowK HPp.out 1 _ rfl
          go_upto_region 22 with (go_at_call 11; refine (move_c _ _ L Q pw pa _ (HV.out.on HB7.out) (HQ.out.on HB7.out) (by have := HN.out; omega) (by have := HQL.out; omega)).mono ?_; rintro e wx8 ⟨xp, rfl, ho, hb⟩; rw [← HME.out])
          clear HPp hcw hca
          have Hl8 := hidK (Hl7.out.on hb)
          have Hn8 := hidK (Hn7.out.on hb)
          have Ha8 := hidK (Ha7.out.on hb)
          have Hb8 := hidK (Hb7.out.on hb)
          have Hp8 := hidK (ho.row)
          have HB8 := hidK (bel3K HB7.out hb)
          clear hb ho HB7 Hl7 Hn7 Ha7 Hb7
          have HPp := hidK (hkeepK HB8.out HP0.out); have hcw := cell_rowK HPp.out 0 _ rfl; have hca := cell_rowK HPp.out 1 _ rfl
          go_upto_region 23 with (go_at_call 11; refine (move_c _ _ (L.map nrm) Q pw pa _ Hl8.out (HQ.out.on HB8.out) (by rw [List.length_map]; have := HN.out; omega) (by have := HQL.out; omega)).mono ?_; rintro e wx9 ⟨xq, rfl, ho, hb⟩; rw [movE_nrm, ← HME.out])
          clear HPp hcw hca
          have Hl9 := hidK (Hl8.out.on hb)
          have Hn9 := hidK (Hn8.out.on hb)
          have Ha9 := hidK (Ha8.out.on hb)
          have Hb9 := hidK (Hb8.out.on hb)
          have Hp9 := hidK (Hp8.out.on hb)
          have Hq9 := hidK ((show RowM _ _ ((movX L Q pw pa).map nrm) by have := ho.row; rwa [movX_nrm] at this))
          have HB9 := hidK (bel3K HB8.out hb)
          clear hb ho HB8 Hl8 Hn8 Ha8 Hb8 Hp8
          have HPp := hidK (hkeepK HB9.out HP0.out); have hcw := cell_rowK HPp.out 0 _ rfl; have hca := cell_rowK HPp.out 1 _ rfl
          go_upto_region 24 with (go_at_call 12; refine (insert_c _ _ L M pw pa false _ (HV.out.on HB9.out) (HU.out.on HB9.out) (by have := HN.out; omega) (by have := HM.out; omega)).mono ?_; rintro e wx10 ⟨xu, xue, rfl, ho, _, hb⟩; rw [← HCE.out])
          clear HPp hcw hca
          have Hl10 := hidK (Hl9.out.on hb)
          have Hn10 := hidK (Hn9.out.on hb)
          have Ha10 := hidK (Ha9.out.on hb)
          have Hb10 := hidK (Hb9.out.on hb)
          have Hp10 := hidK (Hp9.out.on hb)
          have Hq10 := hidK (Hq9.out.on hb)
          have Hu10 := hidK (ho.row)
          have HB10 := hidK (bel3K HB9.out hb)
          clear hb ho HB9 Hl9 Hn9 Ha9 Hb9 Hp9 Hq9
          have HPp := hidK (hkeepK HB10.out HP0.out); have hcw := cell_rowK HPp.out 0 _ rfl; have hca := cell_rowK HPp.out 1 _ rfl
          go_upto_region 25 with (go_at_call 12; refine (insert_c _ _ (L.map nrm) (M.map nrm) pw pa false _ Hl10.out Hn10.out (by rw [List.length_map]; have := HN.out; omega) (by rw [List.length_map]; have := HM.out; omega)).mono ?_; rintro e wx11 ⟨xv, xve, rfl, ho, _, hb⟩; rw [insC_nrm, ← HCE.out])
          clear HPp hcw hca
          have Hl11 := hidK (Hl10.out.on hb)
          have Hn11 := hidK (Hn10.out.on hb)
          have Ha11 := hidK (Ha10.out.on hb)
          have Hb11 := hidK (Hb10.out.on hb)
          have Hp11 := hidK (Hp10.out.on hb)
          have Hq11 := hidK (Hq10.out.on hb)
          have Hu11 := hidK (Hu10.out.on hb)
          have Hv11 := hidK ((show RowM _ _ ((insX L M pw pa false).map nrm) by have := ho.row; rwa [insX_nrm] at this))
          have HB11 := hidK (bel3K HB10.out hb)
          clear hb ho HB10 Hl10 Hn10 Ha10 Hb10 Hp10 Hq10 Hu10
          have HBSHa : Hid ((delX L Q).length ≤ 16777216) := Nat.le_trans (delX_len16 L Q (by have := HN.out; omega)) (by omega)
          have HBSHp : Hid ((movX L Q pw pa).length ≤ 16777216) := movX_len16 L Q pw pa (by have := HN.out; omega)
          have HBSHu : Hid ((insX L M pw pa false).length ≤ 16777216) := insX_len16 L M pw pa false (by have := HN.out; omega) (by have := HM.out; omega)
          have HBD12 : Hid ((delX L Q).length ≤ 67108864) := Nat.le_trans HBSHa.out (by omega)
          have HNA12 := hidK (normal_c _ (delX L Q) _ Ha11.out (by have := HBSHa.out; omega))
          go_upto_region 26 with (first | (go_at_call 8; refine HNA12.out.mono ?_; rintro e wx12 ⟨xz12, rfl, ho, hb⟩; have Hl12 := hidK (Hl11.out.on hb); have Hn12 := hidK (Hn11.out.on hb); have Hb12 := hidK (Hb11.out.on hb); have Hp12 := hidK (Hp11.out.on hb); have Hq12 := hidK (Hq11.out.on hb); have Hu12 := hidK (Hu11.out.on hb); have Hv12 := hidK (Hv11.out.on hb); have HZ12 := hidK ho.row; have HB12 := hidK (bel3K HB11.out hb); clear ho hb) | (go_at_call 9; refine (same_c _ _ ((delX L Q).map nrm) _ HZ12.out Hb12.out (by rw [List.length_map]; exact HBD12.out)).mono ?_; rintro e wy12 ⟨rfl, hb2⟩))
          have Hl13 := hidK (Hl12.out.on hb2)
          have Hn13 := hidK (Hn12.out.on hb2)
          have Hp13 := hidK (Hp12.out.on hb2)
          have Hq13 := hidK (Hq12.out.on hb2)
          have Hu13 := hidK (Hu12.out.on hb2)
          have Hv13 := hidK (Hv12.out.on hb2)
          have HB13 := hidK (bel3K HB12.out hb2)
          clear hb2 HB12 HZ12 HNA12 HB11 Hl12 Hn12 Hb12 Hp12 Hq12 Hu12 Hv12 Hl11 Hn11 Ha11 Hb11 Hp11 Hq11 Hu11 Hv11
          have HBD14 : Hid ((movX L Q pw pa).length ≤ 67108864) := Nat.le_trans HBSHp.out (by omega)
          have HNA14 := hidK (normal_c _ (movX L Q pw pa) _ Hp13.out (by have := HBSHp.out; omega))
          go_upto_region 27 with (first | (go_at_call 8; refine HNA14.out.mono ?_; rintro e wx14 ⟨xz14, rfl, ho, hb⟩; have Hl14 := hidK (Hl13.out.on hb); have Hn14 := hidK (Hn13.out.on hb); have Hq14 := hidK (Hq13.out.on hb); have Hu14 := hidK (Hu13.out.on hb); have Hv14 := hidK (Hv13.out.on hb); have HZ14 := hidK ho.row; have HB14 := hidK (bel3K HB13.out hb); clear ho hb) | (go_at_call 9; refine (same_c _ _ ((movX L Q pw pa).map nrm) _ HZ14.out Hq14.out (by rw [List.length_map]; exact HBD14.out)).mono ?_; rintro e wy14 ⟨rfl, hb2⟩))
          have Hl15 := hidK (Hl14.out.on hb2)
          have Hn15 := hidK (Hn14.out.on hb2)
          have Hu15 := hidK (Hu14.out.on hb2)
          have Hv15 := hidK (Hv14.out.on hb2)
          have HB15 := hidK (bel3K HB14.out hb2)
          clear hb2 HB14 HZ14 HNA14 HB13 Hl14 Hn14 Hq14 Hu14 Hv14 Hl13 Hn13 Hp13 Hq13 Hu13 Hv13
          have HBD16 : Hid ((insX L M pw pa false).length ≤ 67108864) := Nat.le_trans HBSHu.out (by omega)
          have HNA16 := hidK (normal_c _ (insX L M pw pa false) _ Hu15.out (by have := HBSHu.out; omega))
          go_upto_region 28 with (first | (go_at_call 8; refine HNA16.out.mono ?_; rintro e wx16 ⟨xz16, rfl, ho, hb⟩; have Hl16 := hidK (Hl15.out.on hb); have Hn16 := hidK (Hn15.out.on hb); have Hv16 := hidK (Hv15.out.on hb); have HZ16 := hidK ho.row; have HB16 := hidK (bel3K HB15.out hb); clear ho hb) | (go_at_call 9; refine (same_c _ _ ((insX L M pw pa false).map nrm) _ HZ16.out Hv16.out (by rw [List.length_map]; exact HBD16.out)).mono ?_; rintro e wy16 ⟨rfl, hb2⟩))
          have Hl17 := hidK (Hl16.out.on hb2)
          have Hn17 := hidK (Hn16.out.on hb2)
          have HB17 := hidK (bel3K HB16.out hb2)
          clear hb2 HB16 HZ16 HNA16 HB15 Hl16 Hn16 Hv16 Hl15 Hn15 Hu15 Hv15
          have HA1 := hidK (append_c _ _ L M _ (HV.out.on HB17.out) (HU.out.on HB17.out) (by have := HN.out; omega) (by have := HM.out; omega))
          have HAB : Hid ((L ++ M).length ≤ 16777216) := by show _ ≤ _; rw [List.length_append]; have := HN.out; have := HM.out; omega
          go_wp2_with (first
            | (go_at_call 13; refine HA1.out.mono ?_; rintro e wa ⟨xa1, rfl, ho, hb⟩; have HZa := hidK ho.row; have Hla := hidK (Hl17.out.on hb); have Hna := hidK (Hn17.out.on hb); have HBa1 := hidK (bel3K HB17.out hb); clear ho hb HA1)
            | (go_at_call 8; refine (normal_c _ (L ++ M) _ HZa.out HAB.out).mono ?_; rintro e wb ⟨xa2, rfl, ho, hb⟩; have HZb := hidK ho.row; have Hlb := hidK (Hla.out.on hb); have Hnb := hidK (Hna.out.on hb); have HBb := hidK (bel3K HBa1.out hb); clear ho hb HZa)
            | (go_at_call 13; refine (append_c _ _ (L.map nrm) (M.map nrm) _ Hlb.out Hnb.out (by rw [List.length_map]; have := HN.out; omega) (by rw [List.length_map]; have := HM.out; omega)).mono ?_; rintro e wc ⟨xa3, rfl, ho, hb⟩; have HZc := hidK ho.row; rw [← List.map_append] at HZc; have HZd := hidK (HZb.out.on hb); have HBc := hidK (bel3K HBb.out hb); clear ho hb HZb)
            | (go_at_call 9; refine (same_c _ _ ((L ++ M).map nrm) _ HZd.out HZc.out (by rw [List.length_map]; have := HAB.out; omega)).mono ?_; rintro e wd ⟨rfl, hb⟩; have HBd := hidK (bel3K HBc.out hb); clear hb))
          go_ret
          exact ⟨by simp, bel3K HB0.out HBd.out⟩
theorem opsDet_w (v0 v1 v2 : Value) (L M : List Mx) (Q : List ByteArray) (pw : Int) (pa : ByteArray) (ta tb tc td : Int) (w : World) (h0 : RowM w v0 L) (h1 : RowM w v1 M) (h2 : RowT w v2 Q) (hl : L.length ≤ 1048576) (hm : M.length ≤ 1048576) (hq : Q.length ≤ 1048576) :
    Calls Try.prog 3 #[v0, v1, v2, .agg #[.int .i64 pw, .string pa], .agg #[.int .i64 ta, .int .i64 tb, .int .i64 tc, .int .i64 td]] w fun e w' => e = .returned (.bool true) ∧ Below w.heap.size w w' := det_head v0 v1 v2 L M Q pw pa ta tb tc td w h0 h1 h2 hl hm hq
end Go.Proofs.Ytaaagdmhokgcjab
