
-- OpsInsert: the walk.
import Derived.Test.YtaaagdmhokgcjaaI7
namespace Go.Proofs.Ytaaagdmhokgcjaa
open Go.ChangeShapes Go.WideShapes Go.ChangeAt Go.RowKit
set_option linter.unusedVariables false
set_option maxRecDepth 100000
set_option linter.unusedSimpArgs false
set_option maxHeartbeats 8000000 in
theorem opsInsert_w (v v2 : Value) (L M : List Mx) (pw : Int) (pa : ByteArray) (u : Bool) (w : World) (h : RowM w v L) (h2 : RowM w v2 M) (hl : L.length ≤ 1048576) (hm : M.length ≤ 1048576) :
    Calls Try.prog 8 #[v, v2, .agg #[.int .i64 pw, .string pa], .bool u] w fun e w' => e = .returned (.bool true) ∧ Below w.heap.size w w' := by
  obtain ⟨a1, c1, q1, _, _⟩ := h.form
  obtain ⟨a2, c2, q2, _, _⟩ := h2.form
  have HV := hidK h
  have HU := hidK h2
  have HL := hidK hl
  have HM := hidK hm
  obtain ⟨de, hde⟩ : ∃ de, de = insC L M pw pa := ⟨_, rfl⟩
  have HDE := hidK hde
  have HXL := hidK (insX_len L M pw pa u (by omega) (by omega))
  have HYL := hidK (insY_len L M pw pa u (by omega))
  subst q1
  subst q2
  clear h hl h2 hm hde
  have HB0 := hidK (bupK (Below.refl w.heap.size w) (.cells #[.int .i64 pw, .string pa] 39))
  have HP0 := hidK (heap_alloc_new w (.cells #[.int .i64 pw, .string pa] 39))
  go_enter Try.func8, Try.ntmps8
  go_upto_region 2 with (go_at_call 12; refine (twin_c _ L _ (HV.out.on HB0.out) (by have := HL.out; omega)).mono ?_; rintro e w1 ⟨t, rfl, ho1, hb1⟩)
  have HT1 := hidK ho1.row; have HB1 := hidK (bel3K HB0.out hb1); have HP1 := hidK (hkeepK hb1 HP0.out); clear ho1 hb1 HP0
  go_upto_region 3 with (go_at_call 12; refine (twin_c _ M _ (HU.out.on HB1.out) (by have := HM.out; omega)).mono ?_; rintro e w2 ⟨t2, rfl, ho2, hb2⟩)
  have HT2 := hidK (HT1.out.on hb2); have HS2 := hidK ho2.row; have HB2 := hidK (bel3K HB1.out hb2); have HP2 := hidK (hkeepK hb2 HP1.out); have hcw := cell_rowK HP2.out 0 _ rfl; have hca := cell_rowK HP2.out 1 _ rfl; clear ho2 hb2 HT1 HB1 HP1
  go_upto_region 4 with (go_at_call 18; refine (insert_c _ _ L M pw pa u _ (HV.out.on HB2.out) (HU.out.on HB2.out) (by have := HL.out; omega) (by have := HM.out; omega)).mono ?_; rintro e w3 ⟨x, ex, rfl, ho3, he3, hb3⟩; rw [← HDE.out])
  clear hcw hca
  have HX3 := hidK ho3.row; have HE3 := hidK he3.row; have HT3 := hidK (HT2.out.on hb3); have HS3 := hidK (HS2.out.on hb3); have HB3 := hidK (bel3K HB2.out hb3); have HP3 := hidK (hkeepK hb3 HP2.out); have hcw := cell_rowK HP3.out 0 _ rfl; have hca := cell_rowK HP3.out 1 _ rfl; clear ho3 he3 hb3 HT2 HS2 HB2 HP2
  go_upto_region 5 with (go_at_call 25; refine (rinsert_c _ _ L M pw pa u _ HT3.out HS3.out (by have := HL.out; omega) (by have := HM.out; omega)).mono ?_; rintro e w4 ⟨y, ey, rfl, ho4, he4, hb4⟩; rw [← HDE.out])
  have HX4 := hidK (HX3.out.on hb4); have HY4 := hidK ho4.row; have HE4 := hidK (HE3.out.on hb4); have HF4 := hidK he4.row; have HT4 := hidK (HT3.out.on hb4); have HS4 := hidK (HS3.out.on hb4); have HB4 := hidK (bel3K HB3.out hb4); clear ho4 he4 hb4 HT3 HS3 HB3 HX3 HE3 HP3 hcw hca
  go_upto_region 6 with (go_at_call 15; refine (same_c _ _ (insX L M pw pa u) _ HX4.out HY4.out HXL.out).mono ?_; rintro e w5 ⟨rfl, hb5⟩)
  have HE5 := hidK (HE4.out.on hb5); have HF5 := hidK (HF4.out.on hb5); have HT5 := hidK (HT4.out.on hb5); have HS5 := hidK (HS4.out.on hb5); have HB5 := hidK (bel3K HB4.out hb5); clear hb5 HT4 HS4 HB4 HX4 HY4 HE4 HF4
  go_upto_region 7 with (go_at_call 26; refine (sameEvents_c _ _ (insY L M pw pa u) _ HE5.out HF5.out HYL.out).mono ?_; rintro e w6 ⟨rfl, hb6⟩)
  have HT6 := hidK (HT5.out.on hb6); have HS6 := hidK (HS5.out.on hb6); have HB6 := hidK (bel3K HB5.out hb6); clear hb6 HT5 HS5 HB5 HE5 HF5
  go_upto_region 8 with (go_at_call 15; refine (same_c _ _ L _ (HV.out.on HB6.out) HT6.out (by have := HL.out; omega)).mono ?_; rintro e w7 ⟨rfl, hb7⟩)
  have HS7 := hidK (HS6.out.on hb7); have HB7 := hidK (bel3K HB6.out hb7); clear hb7 HT6 HS6 HB6
  go_wp2_with (go_at_call 15; refine (same_c _ _ M _ (HU.out.on HB7.out) HS7.out (by have := HM.out; omega)).mono ?_; rintro e w8 ⟨rfl, hb8⟩)
  go_ret
  exact ⟨by simp, bel3K HB7.out hb8⟩
end Go.Proofs.Ytaaagdmhokgcjaa
