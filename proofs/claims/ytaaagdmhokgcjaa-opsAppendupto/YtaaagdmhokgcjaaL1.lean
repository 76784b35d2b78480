
-- OpsNormal, OpsAppend: the walks.
import Derived.Test.YtaaagdmhokgcjaaB3
namespace Go.Proofs.Ytaaagdmhokgcjaa
open Go.ChangeShapes Go.WideShapes Go.ChangeAt Go.RowKit
set_option linter.unusedVariables false
set_option maxRecDepth 100000
set_option maxHeartbeats 4000000 in
theorem opsNormal_w (v : Value) (L : List Mx) (w : World) (h : RowM w v L) (hn : L.length ≤ 1048576) :
    Calls Try.prog 4 #[v] w fun e w' => e = .returned (.bool true) ∧ Below w.heap.size w w' := by
  obtain ⟨a1, c1, q1, _, _⟩ := h.form
  have HV := hidK h
  have HL := hidK hn
  subst q1
  clear h hn
  go_enter Try.func4, Try.ntmps4
  go_upto_region 2 with (go_at_call 12; refine (twin_c _ L _ HV.out (by have := HL.out; omega)).mono ?_; rintro e w1 ⟨t, rfl, ho1, hb1⟩)
  have HO1 := hidK ho1; have HB1 := hidK hb1; clear ho1 hb1
  go_upto_region 3 with (go_at_call 13; refine (normal_c _ L _ (HV.out.on HB1.out) (by have := HL.out; omega)).mono ?_; rintro e w2 ⟨x, rfl, ho2, hb2⟩)
  have HO2 := hidK ho2; have HB2 := hidK (bel3K HB1.out hb2); have HT2 := hidK (HO1.out.row.on hb2); clear ho2 hb2 HO1 HB1
  go_upto_region 4 with (go_at_call 14; refine (rnormal_c _ L _ HT2.out (by have := HL.out; omega)).mono ?_; rintro e w3 ⟨y, rfl, ho3, hb3⟩)
  have HX3 := hidK (HO2.out.row.on hb3); have HY3 := hidK ho3.row; have HB3 := hidK (bel3K HB2.out hb3); have HT3 := hidK (HT2.out.on hb3); clear ho3 hb3 HO2 HB2 HT2
  go_upto_region 5 with (go_at_call 15; refine (same_c _ _ (L.map nrm) _ HX3.out HY3.out (by rw [List.length_map]; have := HL.out; omega)).mono ?_; rintro e w4 ⟨rfl, hb4⟩)
  have HB4 := hidK (bel3K HB3.out hb4); have HT4 := hidK (HT3.out.on hb4); clear hb4 HX3 HY3 HB3 HT3
  go_wp2_with (go_at_call 15; refine (same_c _ _ L _ (HV.out.on HB4.out) HT4.out (by have := HL.out; omega)).mono ?_; rintro e w5 ⟨rfl, hb5⟩)
  go_ret
  exact ⟨rfl, bel3K HB4.out hb5⟩
set_option maxHeartbeats 4000000 in
theorem opsAppend_w (v u : Value) (L M : List Mx) (w : World) (h : RowM w v L) (hu : RowM w u M) (hn : L.length ≤ 1048576) (hm : M.length ≤ 1048576) :
    Calls Try.prog 5 #[v, u] w fun e w' => e = .returned (.bool true) ∧ Below w.heap.size w w' := by
  obtain ⟨a1, c1, q1, _, _⟩ := h.form
  obtain ⟨a2, c2, q2, _, _⟩ := hu.form
  have HV := hidK h
  have HU := hidK hu
  have HL := hidK hn
  have HM := hidK hm
  subst q1
  subst q2
  clear h hn hu hm
  go_enter Try.func5, Try.ntmps5
  go_upto_region 2 with (go_at_call 12; refine (twin_c _ L _ HV.out (by have := HL.out; omega)).mono ?_; rintro e w1 ⟨t, rfl, ho1, hb1⟩)
  have HT1 := hidK ho1.row; have HB1 := hidK hb1; clear ho1 hb1
  go_upto_region 3 with (go_at_call 12; refine (twin_c _ M _ (HU.out.on HB1.out) (by have := HM.out; omega)).mono ?_; rintro e w2 ⟨t2, rfl, ho2, hb2⟩)
  have HT2 := hidK (HT1.out.on hb2); have HS2 := hidK ho2.row; have HB2 := hidK (bel3K HB1.out hb2); clear ho2 hb2 HT1 HB1
  go_upto_region 4 with (go_at_call 16; refine (append_c _ _ L M _ (HV.out.on HB2.out) (HU.out.on HB2.out) (by have := HL.out; omega) (by have := HM.out; omega)).mono ?_; rintro e w3 ⟨x, rfl, ho3, hb3⟩)
  have HX3 := hidK ho3.row; have HT3 := hidK (HT2.out.on hb3); have HS3 := hidK (HS2.out.on hb3); have HB3 := hidK (bel3K HB2.out hb3); clear ho3 hb3 HT2 HS2 HB2
  go_upto_region 5 with (go_at_call 17; refine (rappend_c _ _ L M _ HT3.out HS3.out (by have := HL.out; omega) (by have := HM.out; omega)).mono ?_; rintro e w4 ⟨y, rfl, ho4, hb4⟩)
  have HX4 := hidK (HX3.out.on hb4); have HY4 := hidK ho4.row; have HT4 := hidK (HT3.out.on hb4); have HS4 := hidK (HS3.out.on hb4); have HB4 := hidK (bel3K HB3.out hb4); clear ho4 hb4 HT3 HS3 HB3 HX3
  go_upto_region 6 with (go_at_call 15; refine (same_c _ _ (L ++ M) _ HX4.out HY4.out (by rw [List.length_append]; have := HL.out; have := HM.out; omega)).mono ?_; rintro e w5 ⟨rfl, hb5⟩)
  have HT5 := hidK (HT4.out.on hb5); have HS5 := hidK (HS4.out.on hb5); have HB5 := hidK (bel3K HB4.out hb5); clear hb5 HT4 HS4 HB4 HX4 HY4
  go_upto_region 7 with (go_at_call 15; refine (same_c _ _ L _ (HV.out.on HB5.out) HT5.out (by have := HL.out; omega)).mono ?_; rintro e w6 ⟨rfl, hb6⟩)
  have HS6 := hidK (HS5.out.on hb6); have HB6 := hidK (bel3K HB5.out hb6); clear hb6 HT5 HS5 HB5
  go_wp2_with (go_at_call 15; refine (same_c _ _ M _ (HU.out.on HB6.out) HS6.out (by have := HM.out; omega)).mono ?_; rintro e w7 ⟨rfl, hb7⟩)
  go_ret
  exact ⟨rfl, bel3K HB6.out hb7⟩
end Go.Proofs.Ytaaagdmhokgcjaa
