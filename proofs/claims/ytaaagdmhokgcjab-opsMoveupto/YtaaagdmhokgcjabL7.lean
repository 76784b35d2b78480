
-- OpsMove: the walk.
import Derived.Test.YtaaagdmhokgcjabD4
namespace Go.Proofs.Ytaaagdmhokgcjab
open Go.ChangeShapes Go.WideShapes Go.ChangeAt Go.RowKit
set_option linter.unusedVariables false
set_option maxRecDepth 100000
set_option linter.unusedSimpArgs false
set_option maxHeartbeats 8000000 in
theorem opsMove_w (v u : Value) (L : List Mx) (Q : List ByteArray) (pw : Int) (pa : ByteArray) (w : World) (h : RowM w v L) (hu : RowT w u Q) (hl : L.length ≤ 1048576) (hq : Q.length ≤ 1048576) :
    Calls Try.prog 6 #[v, u, .agg #[.int .i64 pw, .string pa]] w fun e w' => e = .returned (.bool true) ∧ Below w.heap.size w w' := by
  obtain ⟨a1, c1, q1, _, _⟩ := h.form
  obtain ⟨a2, c2, q2, _, _⟩ := hu.form
  have HV := hidK h
  have HU := hidK hu
  have HL := hidK hl
  have HQ := hidK hq
  obtain ⟨ds, hds⟩ : ∃ ds, ds = movS L Q pw pa := ⟨_, rfl⟩
  obtain ⟨de, hde⟩ : ∃ de, de = movE L Q pw pa := ⟨_, rfl⟩
  have HDS := hidK hds
  have HDE := hidK hde
  have HXL : Hid ((movX L Q pw pa).length ≤ 67108864) := movX_len L Q pw pa (by omega) (by omega)
  subst q1
  subst q2
  clear h hl hu hq hds hde
  have HB0 := hidK (bupK (Below.refl w.heap.size w) (.cells #[.int .i64 pw, .string pa] 25))
  have HP0 := hidK (heap_alloc_new w (.cells #[.int .i64 pw, .string pa] 25))
  go_enter Try.func6, Try.ntmps6
  go_upto_region 2 with (go_at_call 14; refine (twin_c _ L _ (HV.out.on HB0.out) (by have := HL.out; omega)).mono ?_; rintro e w1 ⟨t, rfl, ho1, hb1⟩)
  have HT1 := hidK ho1.row; have HB1 := hidK (bel3K HB0.out hb1); have HP1 := hidK (hkeepK hb1 HP0.out); have hcw := cell_rowK HP1.out 0 _ rfl; have hca := cell_rowK HP1.out 1 _ rfl; clear ho1 hb1 HP0
  go_upto_region 3 with (go_at_call 15; refine (twinTexts_c _ Q _ (HU.out.on HB1.out) (by have := HQ.out; omega)).mono ?_; rintro e w2 ⟨t2, rfl, ho2, hb2⟩)
  clear hcw hca; have HT2 := hidK (HT1.out.on hb2); have HS2 := hidK ho2.row; have HB2 := hidK (bel3K HB1.out hb2); have HP2 := hidK (hkeepK hb2 HP1.out); have hcw := cell_rowK HP2.out 0 _ rfl; have hca := cell_rowK HP2.out 1 _ rfl; clear ho2 hb2 HT1 HB1 HP1
  go_upto_region 4 with (go_at_call 11; refine (move_c _ _ L Q pw pa _ (HV.out.on HB2.out) (HU.out.on HB2.out) (by have := HL.out; omega) (by have := HQ.out; omega)).mono ?_; rintro e w3 ⟨x, rfl, ho3, hb3⟩; rw [← HDS.out, ← HDE.out])
  clear hcw hca; have HX3 := hidK ho3.row; have HT3 := hidK (HT2.out.on hb3); have HS3 := hidK (HS2.out.on hb3); have HB3 := hidK (bel3K HB2.out hb3); have HP3 := hidK (hkeepK hb3 HP2.out); have hcw := cell_rowK HP3.out 0 _ rfl; have hca := cell_rowK HP3.out 1 _ rfl; clear ho3 hb3 HT2 HS2 HB2 HP2
  go_upto_region 5 with (go_at_call 22; refine (rmove_c _ _ L Q pw pa _ HT3.out HS3.out (by have := HL.out; omega) (by have := HQ.out; omega)).mono ?_; rintro e w4 ⟨y, rfl, ho4, hb4⟩; rw [← HDS.out, ← HDE.out])
  have HX4 := hidK (HX3.out.on hb4); have HY4 := hidK ho4.row; have HT4 := hidK (HT3.out.on hb4); have HS4 := hidK (HS3.out.on hb4); have HB4 := hidK (bel3K HB3.out hb4); clear ho4 hb4 HT3 HS3 HB3 HX3 HP3 hcw hca
  go_upto_region 6 with (go_at_call 9; refine (same_c _ _ (movX L Q pw pa) _ HX4.out HY4.out HXL.out).mono ?_; rintro e w5 ⟨rfl, hb5⟩)
  have HT5 := hidK (HT4.out.on hb5); have HS5 := hidK (HS4.out.on hb5); have HB5 := hidK (bel3K HB4.out hb5); clear hb5 HT4 HS4 HB4 HX4 HY4
  go_upto_region 7 with (go_at_call 9; refine (same_c _ _ L _ (HV.out.on HB5.out) HT5.out (by have := HL.out; omega)).mono ?_; rintro e w6 ⟨rfl, hb6⟩)
  have HS6 := hidK (HS5.out.on hb6); have HB6 := hidK (bel3K HB5.out hb6); clear hb6 HT5 HS5 HB5
  go_wp2_with (go_at_call 17; refine (sameTexts_c _ _ Q _ (HU.out.on HB6.out) HS6.out (by have := HQ.out; omega)).mono ?_; rintro e w7 ⟨rfl, hb7⟩)
  go_ret
  exact ⟨by simp, bel3K HB6.out hb7⟩
end Go.Proofs.Ytaaagdmhokgcjab
