
-- OpsSelect: the walk.
import Derived.Test.YtaaagdmhokgcjaaS2
namespace Go.Proofs.Ytaaagdmhokgcjaa
open Go.ChangeShapes Go.WideShapes Go.ChangeAt Go.RowKit
set_option linter.unusedVariables false
set_option maxRecDepth 100000
set_option linter.unusedSimpArgs false
theorem fitT {R : List ByteArray} {k cap : Nat} {cur : Array Value} (hk : k < cap) (hs : cur.size = cap * 1) : Nat.ble (k + 1) cur.size = true := by
  rw [hs, Nat.mul_one]; exact Nat.ble_eq_true_of_le hk
set_option maxHeartbeats 8000000 in
theorem opsSelect_w (v u : Value) (L : List Mx) (Q : List ByteArray) (w : World) (h : RowM w v L) (hu : RowT w u Q) (hl : L.length ≤ 1048576) (hq : Q.length ≤ 1048576) :
    Calls Try.prog 7 #[v, u] w fun e w' => e = .returned (.bool true) ∧ Below w.heap.size w w' := by
  obtain ⟨a1, c1, q1, _, _⟩ := h.form
  obtain ⟨a2, c2, q2, _, _⟩ := hu.form
  obtain ⟨is, hsi, hs0, hs1, hs2⟩ := info_parts infoTx
  have HV := hidK h
  have HU := hidK hu
  have HL := hidK hl
  have HQ := hidK hq
  subst q1
  subst q2
  clear h hl hu hq
  go_enter Try.func7, Try.ntmps7
  go_upto_region 2 with (go_at_call 12; refine (twin_c _ L _ HV.out (by have := HL.out; omega)).mono ?_; rintro e w1 ⟨t, rfl, ho1, hb1⟩)
  have HT1 := hidK ho1.row; have HB1 := hidK hb1; clear ho1 hb1
  go_upto_region 3 with (go_at_call 21; refine (twinTexts_c _ Q _ (HU.out.on HB1.out) (by have := HQ.out; omega)).mono ?_; rintro e w2 ⟨t2, rfl, ho2, hb2⟩)
  have HT2 := hidK (HT1.out.on hb2); have HS2 := hidK ho2.row; have HB2 := hidK (bel3K HB1.out hb2); clear ho2 hb2 HT1 HB1
  have HV2 := hidK (HV.out.on HB2.out); have HU2 := hidK (HU.out.on HB2.out); clear HV HU
  go_upto_region 4 with (go_at_call 9; refine (select_c _ _ L Q _ HV2.out HU2.out (by have := HL.out; omega) (by have := HQ.out; omega)).mono ?_; rintro e w3 ⟨x, y, rfl, hx3, hy3, hb3⟩)
  have HX3 := hidK hx3.row; have HY3 := hidK hy3; have HB3 := hidK hb3; clear hx3 hy3 hb3
  go_upto_region 5 with (go_at_call 22; refine (rselect_c _ _ L Q _ (HT2.out.on HB3.out) (HS2.out.on HB3.out) (by have := HL.out; omega) (by have := HQ.out; omega)).mono ?_; rintro e w4 ⟨x', y', rfl, hx4, hy4, hb4⟩)
  have HX4 := hidK (HX3.out.on hb4); have HY4 := hidK (HY3.out.on hb4); have HP4 := hidK hx4.row; have HR4 := hidK hy4.row; have HB4 := hidK (bel3K HB3.out hb4); clear hx4 hy4 hb4 HX3 HY3 HB3
  have HNF : Hid ((fnd (nms L) Q Q.length).length ≤ 1048576) := Nat.le_trans (fnd_len _ _ _) HQ.out
  have HNM : Hid ((mis (nms L) Q Q.length).length ≤ 1048576) := Nat.le_trans (mis_len _ _ _) HQ.out
  go_upto_region 6 with (go_at_call 23; refine (sameInts_c _ _ _ _ HX4.out HP4.out (by have := HNF.out; omega)).mono ?_; rintro e w5 ⟨rfl, hb5⟩)
  have HY5 := hidK (HY4.out.on hb5); have HR5 := hidK (HR4.out.on hb5); have HB5 := hidK (bel3K HB4.out hb5); clear hb5 HX4 HP4 HY4 HR4 HB4
  go_upto_region 7 with (go_at_call 24; refine (sameTexts_c _ _ _ _ HY5.out.row HR5.out (by have := HNM.out; omega)).mono ?_; rintro e w6 ⟨rfl, hb6⟩)
  have HY6 := hidK (HY5.out.on hb6); have HR6 := hidK (HR5.out.on hb6); have HB6 := hidK (bel3K HB5.out hb6); clear hb6 HY5 HR5 HB5
  go_upto_region 8 with (go_at_call 15; refine (same_c _ _ L _ (HV2.out.on HB6.out) (HT2.out.on HB6.out) (by have := HL.out; omega)).mono ?_; rintro e w7 ⟨rfl, hb7⟩)
  have HY7 := hidK (HY6.out.on hb7); have HR7 := hidK (HR6.out.on hb7); have HB7 := hidK (bel3K HB6.out hb7); clear hb7 HY6 HR6 HB6
  go_upto_region 9 with (go_at_call 24; refine (sameTexts_c _ _ Q _ (HU2.out.on HB7.out) (HS2.out.on HB7.out) (by have := HQ.out; omega)).mono ?_; rintro e w8 ⟨rfl, hb8⟩)
  have HY8 := hidK (HY7.out.on hb8); have HR8 := hidK (HR7.out.on hb8); have HB8 := hidK (bel3K HB7.out hb8); clear hb8 HY7 HR7 HB7
  obtain ⟨n, hnn⟩ : ∃ n, (mis (nms L) Q Q.length).length = n := ⟨_, rfl⟩
  have hyo := ownT_form hnn HY8.out
  obtain ⟨a3, c3, q3, _, _⟩ := HR8.out.form
  rw [hnn] at q3
  obtain ⟨ao, cap, q4, hnc, hcm, hnone, hsome⟩ := ownG_form 1 hyo
  have HO8 : Hid (∃ R : List ByteArray, R.length = n ∧ w8.ownsRow w2.heap.size 9 1 y n (R.flatMap txL)) := ⟨_, hnn, hyo⟩
  have hnb : n ≤ 1048576 := by rw [← hnn]; exact HNM.out
  subst q3
  subst q4
  have HNONE := hidK hnone
  have HSOME := hidK hsome
  clear hyo HY8 HR8 hnn HNM HNF hnone hsome
  go_wp2
  go_loopw [15] (fun i wx => ∃ k : Nat, i = .int .i64 k ∧ k ≤ n ∧ (∃ R : List ByteArray, R.length = n ∧ wx.ownsRow w2.heap.size 9 1 (.slice ao n cap) n (R.flatMap txL)) ∧ Below w2.heap.size w2 wx) (fun i _ => n - (intOf i).toNat)
  case atStart => exact ⟨0, rfl, Nat.zero_le _, HO8.out, HB8.out⟩
  case round =>
    clear HO8 HB8
    obtain ⟨k, rfl, hkn, ⟨R, hRn, ho⟩, hB⟩ := hrel
    by_cases hk : k < n
    · have kI : (k : Int) < (n : Int) := by omega
      have k0 : (0 : Int) ≤ (k : Int) := by omega
      obtain ⟨g, rfl⟩ : ∃ g, ao = some ⟨g, 0, none⟩ := by
        cases ao with
        | none => have := (HNONE.out rfl).1; omega
        | some a => obtain ⟨g, e, _⟩ := HSOME.out a rfl; exact ⟨g, by rw [e]⟩
      obtain ⟨cur, r1, r2, r3, r4, r5, r6, r7⟩ := ownG_cur txL 1 (by decide) txL_len ho
      have HR1 := hidK r1
      have HPU := hidK (fun (W : World) hW => ownG_put txL 1 (W := W) (e := 9) txL_len ⟨#[47, 109, 97, 114, 107]⟩ hk r2 r3 r4 r5 r6 r7 hW)
      have HFI := hidK (fitT (R := R) (Nat.lt_of_lt_of_le hk r3) r5)
      have HGE := hidK r2
      have HRN := hidK hRn
      clear r1 r2 r3 r4 r5 r6 r7 ho hRn HNONE HSOME
      go_wp2_with (refine wpList_store_row_G rfl rfl 9 (.tmp 67) (.const (.string ⟨#[47, 109, 97, 114, 107]⟩)) rfl g k (.string ⟨#[47, 109, 97, 114, 107]⟩) rfl rfl 9 cur (putG cur k #[.string ⟨#[47, 109, 97, 114, 107]⟩]) HR1.out (by kernel_rfl) HFI.out rfl rfl ?_; intro W3 hW3 hG3; have HW3 := hidK hW3; have HB3 := hidK (below_some hB hG3 HGE.out (Nat.le_refl _)); clear hW3 hG3)
      go_roundw
      case rel =>
        refine ⟨k + 1, by go_num, by omega, ⟨R.set k ⟨#[47, 109, 97, 114, 107]⟩, by rw [List.length_set]; exact HRN.out, ?_⟩, HB3.out⟩
        have h2 := HPU.out W3
        rw [Nat.mul_one] at h2
        exact h2 HW3.out
      case measure => simp [intOf]; omega
    · obtain rfl : k = n := by omega
      have HRN := hidK hRn
      clear hRn HNONE HSOME
      go_upto_region 16 with (refine wpList_append_own _ rfl (.tmp 68) (.tmp 69) 23 rfl (w2.heap.size) 9 is (.string ⟨#[]⟩) 1 16 Try.underlying23 hsi hs0 hs1 hs2 rfl (by decide) (.slice ao k cap) k (R.flatMap txL) rfl (own_upK ho _) ⟨wr.heap.size, 0, none⟩ 1 1 (txL ⟨#[47, 109, 97, 114, 107]⟩) rfl rfl (new_rowK wr (txL ⟨#[47, 109, 97, 114, 107]⟩).toArray 9 (txL ⟨#[47, 109, 97, 114, 107]⟩) rfl) (txL_one ⟨#[47, 109, 97, 114, 107]⟩) (by unfold maxLen; omega) (by omega) (by rw [World.size_alloc]; have := (hB).size; omega) ?_; intro v2 w9 o2 g2 _; have HB9 := hidK (below_row (bupK2 hB (.cells (txL ⟨#[47, 109, 97, 114, 107]⟩).toArray 9)) g2 (own_upK ho (.cells (txL ⟨#[47, 109, 97, 114, 107]⟩).toArray 9)) (Nat.le_refl _) (Nat.le_refl _)); obtain ⟨ao2, cap2, rfl, _, _, _, _⟩ := ownG_form 1 o2; clear o2 g2 ho)
      go_upto_region 17 with (go_at_call 15; refine (same_c _ _ L _ (HV2.out.on HB9.out) (HT2.out.on HB9.out) (by have := HL.out; omega)).mono ?_; rintro e w10 ⟨rfl, hb10⟩)
      have HB10 := hidK (bel3K HB9.out hb10); clear hb10 HB9 hB
      have hw1 : IntKind.i64.wrap ((k : Int) + 1) = (k : Int) + 1 := by rw [IntKind.wrap_i64]; omega
      go_wp2_with (go_at_call 24; refine (sameTexts_c _ _ Q _ (HU2.out.on HB10.out) (HS2.out.on HB10.out) (by have := HQ.out; omega)).mono ?_; rintro e w11 ⟨rfl, hb11⟩)
      go_ret
      exact ⟨by simp, bel3K HB2.out (bel3K HB10.out hb11)⟩
end Go.Proofs.Ytaaagdmhokgcjaa
