
-- commandOf (4): a verb with a name.
import Derived.Test.YtdamhdceajmdfaaDoorCP
import Derived.Deep.RegionWith
namespace Go.Proofs.YtdamhdceajmdfaaDoor
open Go.ChangeShapes Go.WideShapes Go.ChangeAt Go.RowKit Go.MapKept
set_option linter.unusedVariables false
set_option maxRecDepth 100000
set_option linter.unusedSimpArgs false

set_option maxHeartbeats 16000000 in
theorem cmd_named (x : ByteArray) (r : List ByteArray) (m b off cap k kd : Nat) (w : World) (hT : VT w) (hx : x.size ≤ 33554432) (hk : verbN x = k) (hk0 : 0 < k) (hk14 : k < 14) (hkd : kindV k = kd) (hnb : namedV k = true) (hv : RowT w (.slice (some ⟨b, off, none⟩) (m + 1) cap) (x :: r)) (hm : r.length = m) (hn : m ≤ 16777216) :
    Calls Tryd.prog 25 #[.slice (some ⟨b, off, none⟩) (m + 1) cap] w fun e w' => CmSays (cmdA (x :: r)) w e w' := by
  have d1 : w.cell? ⟨b, off, none⟩ = some (.string x) := by
    obtain ⟨b', off', c', e1, e2⟩ := RowG.tx hv (k := 0) (x := x) rfl
    injection e1 with e1 _ _
    injection e1 with e1
    injection e1 with e3 e4 _
    subst e3; subst e4
    rw [Nat.add_zero] at e2; exact e2
  have hcap : m + 1 ≤ cap := by obtain ⟨ao, c, q, z1, _⟩ := hv; injection q with _ _ q; simp only [List.length_cons] at z1; omega
  have HN : Hid (∀ wx : World, Below w.heap.size w wx → Calls Tryd.prog 40 #[.string x] wx fun e w' => e = .returned (.int .i64 (k : Nat)) ∧ Below wx.heap.size wx w') := fun wx hb => by
    have := numberOf_c x wx (hT.up hb) hx
    rw [hk] at this
    exact this
  have HI : Hid (∀ wx, Calls Tryd.prog 32 #[.int .i64 (k : Nat)] wx fun e w' => e = .returned (.bool true) ∧ w' = wx) := fun wx => by
    have := isVerb_c (k : Int) wx
    rw [show decide ((0 : Int) < (k : Int) ∧ (k : Int) < 14) = true by simp; omega] at this
    exact this
  have HT := hidK hT
  have HK1 := hidK hk0
  have HKD : Hid (kd = 0 ∨ kd = 1 ∨ kd = 2) := by have := kindV_cases k; rw [hkd] at this; exact this
  have m1 : (0 : Int) < (m : Int) + 1 := by omega
  have d2 := cell_onG d1 (bupK (Below.refl _ w) (.cells zMr 28))
  have HV1 : Hid (RowT w (.slice (if cap = 1 then some ⟨b, off, none⟩ else some ⟨b, off + 1, none⟩) m (cap - 1)) r) := rowT_tail hm hv
  have hs1 := sliceTail b off m cap hcap
  obtain ⟨ao1, hao1⟩ : ∃ ao1, ao1 = (if cap = 1 then some (⟨b, off, none⟩ : Addr) else some ⟨b, off + 1, none⟩) := ⟨_, rfl⟩
  rw [← hao1] at HV1 hs1
  obtain ⟨cap1, hcap1⟩ : ∃ cap1, cap1 = cap - 1 := ⟨_, rfl⟩
  rw [← hcap1] at HV1 hs1
  have HCE : Hid (cmdA (x :: r) = cmdN k kd r) := cmdA_named hk hk0 hkd hnb
  have HC1 : Hid (∀ wx, Below w.heap.size w wx → wx.cell? ⟨2, k * 3 + 1, none⟩ = some (.bool true) ∧ wx.cell? ⟨2, k * 3 + 2, none⟩ = some (.int .i64 (kd : Nat))) := fun wx hb => by
    have := VT.cells (HT.out.up hb) k hk14
    rw [hnb, hkd] at this
    exact ⟨this.2.1, this.2.2⟩
  unfold zMr at d2
  have kI0 : (0 : Int) ≤ (k : Int) := by omega
  have kI : (k : Int) < 14 := by omega
  have HMm := hidK hm
  clear hk hT hx hk0 hkd hnb hao1 hcap1 hcap hv hm
  go_enter Tryd.func25, Tryd.ntmps25
  go_upto_region 6 with first | (go_at_call 40; refine (HN.out _ (bupK (Below.refl _ _) _)).mono ?_; rintro e w1 ⟨rfl, h1⟩) | (go_at_call 32; refine (HI.out _).mono ?_; rintro e w2 ⟨rfl, h2⟩; rw [h2]; clear h2)
  have R1 : w1.heap[w.heap.size]? = some (.cells zMr 28 (0, 0)) := hkeepK h1 (heap_alloc_new w _)
  have B1 : Below w.heap.size w w1 := bel3K (bupK (Below.refl _ _) _) h1
  obtain ⟨g, hg⟩ : ∃ g, g = w1.heap.size := ⟨_, rfl⟩
  have hgw : w.heap.size < g := by rw [hg]; exact (Array.getElem?_eq_some_iff.1 R1).1
  obtain ⟨W2, hW2⟩ : ∃ W2, W2 = w1.alloc (.cells #[.int .i64 (k : Int), .string ⟨#[]⟩, .slice none 0 0] 28) := ⟨_, rfl⟩
  have R2 : Hid (W2.heap[w.heap.size]? = some (.cells zMr 28 (0, 0))) := by rw [hW2]; exact hupK R1 _
  have G2 : Hid (W2.heap[g]? = some (.cells #[.int .i64 (k : Int), .string ⟨#[]⟩, .slice none 0 0] 28 (0, 0))) := by rw [hW2, hg]; exact heap_alloc_new w1 _
  have B2 : Hid (Below w.heap.size w W2) := by rw [hW2]; exact bupK B1 _
  rw [← hW2, ← hg]
  obtain ⟨c1, c2⟩ := HC1.out W2 B2.out
  clear h1 d1 d2 HN HI R1 B1 hW2 hg
  cases r with
  | nil =>
    have m0 : m = 0 := by have := HMm.out; simpa using this.symm
    subst m0
    have HCM : Hid (cmdA [x] = .inl 192) := HCE.out
    clear HCE HV1 HMm
    go_upto_region 8 with fail
    go_wp2_with (refine wpList_store_kz rfl rfl _ _ _ rfl w.heap.size 0 (.agg zMr) rfl rfl _ _ zMr R2.out info28 rfl rfl rfl ?_; intro W7 R7 q7)
    refine bodyPost_ret (results_cell_tmp_row19 rfl _ _ w.heap.size _ _ _ _ _ rfl rfl R7 Tryd.underlying28 rfl (by kernel_rfl)) rfl ?_
    exact ⟨q7.belowN B2.out (Nat.le_refl _) (Nat.le_refl _), mr0, 192, .slice none 0 0, rfl, ownT_nil _ _, .inr ⟨by decide, HCM.out, rfl⟩⟩
  | cons y q =>
    obtain ⟨j, hj⟩ : ∃ j, m = j + 1 := ⟨q.length, by have := HMm.out; simpa using this.symm⟩
    subst hj
    have hj2 : q.length = j := by have := HMm.out; simpa using this
    obtain ⟨b1, o1, c1', e1, d1⟩ := RowG.tx (HV1.out.on B2.out) (k := 0) (x := y) rfl
    rw [Nat.add_zero] at d1
    injection e1 with e1 e2 e3
    subst e1
    clear e2
    have hcp : j + 1 ≤ cap1 := by obtain ⟨ao, c, qq, z1, _⟩ := HV1.out; injection qq with _ _ qq; simp only [List.length_cons] at z1; omega
    have hs2 := sliceTail b1 o1 j cap1 hcp
    have HV2 : Hid (RowT w (.slice (if cap1 = 1 then some ⟨b1, o1, none⟩ else some ⟨b1, o1 + 1, none⟩) j (cap1 - 1)) q) := rowT_tail hj2 HV1.out
    obtain ⟨ao2, hao2⟩ : ∃ ao2, ao2 = (if cap1 = 1 then some (⟨b1, o1, none⟩ : Addr) else some ⟨b1, o1 + 1, none⟩) := ⟨_, rfl⟩
    rw [← hao2] at HV2 hs2
    obtain ⟨cap2, hcap2⟩ : ∃ cap2, cap2 = cap1 - 1 := ⟨_, rfl⟩
    rw [← hcap2] at HV2 hs2
    have HB := hidK (isBracket_c y W2)
    have n0 : (((j : Int) + 1) == 0) = false := by simp; omega
    have n1 : (0 : Int) < (j : Int) + 1 := by omega
    clear hao2 hcap2 e3 HV1 hs1 hcp m1
    cases hbr : isBr y
    · rw [hbr] at HB
      have HCE2 : Hid (cmdA (x :: y :: q) = cmdB k kd y q) := HCE.out.trans (cmdN_no hbr)
      clear HCE hbr
      go_upto_region 9 with (go_at_call 41; refine HB.out.mono ?_; rintro e w9 ⟨rfl, h9⟩; rw [h9]; clear h9)
      obtain ⟨W4, hW4⟩ : ∃ W4, W4 = (W2.setCell ⟨g, 1, none⟩ (.string y)).drew := ⟨_, rfl⟩
      have G4 : Hid (W4.heap[g]? = some (.cells #[.int .i64 (k : Int), .string y, .slice none 0 0] 28 (0, 0))) := by rw [hW4]; exact blk_set G2.out _
      have Q4 : Kq g W2 W4 := by rw [hW4]; have q := kq_set W2 g 1 (.string y); exact ⟨q.os, q.tape, q.output, q.size, q.block⟩
      have R4 : Hid (W4.heap[w.heap.size]? = some (.cells zMr 28 (0, 0))) := Q4.keeps (by omega) R2.out
      have B4 : Hid (Below w.heap.size w W4) := Q4.belowN B2.out (by omega) (Nat.le_refl _)
      have f4 := Lib.frozen_of_heap G2.out 1
      have f5 := cell_rowK G2.out 1 _ rfl
      obtain ⟨_, c2⟩ := HC1.out W4 B4.out
      clear Q4
      go_region_with (fail)
      rw [← hW4]
      clear hW4 f4 f5 G2 R2 B2
      have HNI := hidK (namesIn_c kd HKD.out (.slice ao2 j cap2) q W4 (HV2.out.on B4.out) (by have := HMm.out; (try simp only [List.length_cons] at this); omega))
      go_upto_region 11 with (go_at_call 42; refine HNI.out.mono ?_; rintro e w3 ⟨h3, u, rfl, hu⟩)
      have R3 : Hid (w3.heap[w.heap.size]? = some (.cells zMr 28 (0, 0))) := hkeepK h3 R4.out
      have G3 : Hid (w3.heap[g]? = some (.cells #[.int .i64 (k : Int), .string y, .slice none 0 0] 28 (0, 0))) := hkeepK h3 G4.out
      have B3 : Hid (Below w.heap.size w w3) := bel3K B4.out h3
      have HU : Hid (OwnT w.heap.size w3 u ((namesA q kd).getD [])) := hu.le B4.out.size
      obtain ⟨ua, uc, hus⟩ := hu.sl
      clear h3 hu c2 HNI
      cases hq : namesA q kd with
      | none =>
        have HCM : Hid (cmdA (x :: y :: q) = .inl 192) := HCE2.out.trans (cmdB_no hq)
        simp only [Option.isSome]
        clear HCE2 hq HU
        go_upto_region 12 with fail
        go_wp2_with (refine wpList_store_kz rfl rfl _ _ _ rfl w.heap.size 0 (.agg zMr) rfl rfl _ _ zMr R3.out info28 rfl rfl rfl ?_; intro W7 R7 q7)
        refine bodyPost_ret (results_cell_tmp_row19 rfl _ _ w.heap.size _ _ _ _ _ rfl rfl R7 Tryd.underlying28 rfl (by kernel_rfl)) rfl ?_
        exact ⟨q7.belowN B3.out (Nat.le_refl _) (Nat.le_refl _), mr0, 192, .slice none 0 0, rfl, ownT_nil _ _, .inr ⟨by decide, HCM.out, rfl⟩⟩
      | some ns =>
        have HCM : Hid (cmdA (x :: y :: q) = .inr ⟨k, y, ns⟩) := HCE2.out.trans (cmdB_yes hq)
        rw [hq] at HU hus
        simp only [Option.getD] at HU hus
        obtain ⟨un, hun⟩ : ∃ un, un = ns.length := ⟨_, rfl⟩
        rw [← hun] at hus
        subst hus
        simp only [Option.isSome]
        clear HCE2 hq hun
        go_upto_region 13 with fail
        go_upto_region 14 with (refine wpList_store_kz rfl rfl _ _ _ rfl g 2 (.slice ua un uc) rfl rfl _ _ #[.int .i64 (k : Int), .string y, .slice ua un uc] G3.out info26c rfl rfl rfl ?_; intro W5 R5 q5)
        have P5 : Hid (W5.heap[w.heap.size]? = some (.cells zMr 28 (0, 0))) := q5.keeps (by omega) R3.out
        have e0 := cell_rowK R5 0 _ rfl
        have e1 := cell_rowK R5 1 _ rfl
        have e2 := cell_rowK R5 2 _ rfl
        have H5 := hidK q5
        clear R5 q5
        go_wp2_with (refine wpList_store_kz rfl rfl _ _ _ rfl w.heap.size 0 (.agg #[.int .i64 (k : Int), .string y, .slice ua un uc]) rfl rfl _ _ #[.int .i64 (k : Int), .string y, .slice ua un uc] P5.out info28 rfl rfl rfl ?_; intro W7 R7 q7)
        refine bodyPost_ret (results_cell_tmp_row19 rfl _ _ w.heap.size _ _ _ _ _ rfl rfl R7 Tryd.underlying28 rfl (by kernel_rfl)) rfl ?_
        have hU7 : OwnT w.heap.size W7 (.slice ua un uc) ns := own_kqK (own_kqK HU.out H5.out G3.out (by decide)) q7 P5.out (by decide)
        exact ⟨q7.belowN (H5.out.belowN B3.out (by omega) (Nat.le_refl _)) (Nat.le_refl _) (Nat.le_refl _), ⟨k, y, ns⟩, 0, _, rfl, hU7, .inl ⟨rfl, HCM.out⟩⟩
    · rw [hbr] at HB
      have HCM : Hid (cmdA (x :: y :: q) = .inl 192) := HCE.out.trans (cmdN_br hbr)
      clear HCE hbr
      go_upto_region 8 with (go_at_call 41; refine HB.out.mono ?_; rintro e w9 ⟨rfl, h9⟩; rw [h9]; clear h9)
      go_wp2_with (refine wpList_store_kz rfl rfl _ _ _ rfl w.heap.size 0 (.agg zMr) rfl rfl _ _ zMr R2.out info28 rfl rfl rfl ?_; intro W7 R7 q7)
      refine bodyPost_ret (results_cell_tmp_row19 rfl _ _ w.heap.size _ _ _ _ _ rfl rfl R7 Tryd.underlying28 rfl (by kernel_rfl)) rfl ?_
      exact ⟨q7.belowN B2.out (Nat.le_refl _) (Nat.le_refl _), mr0, 192, .slice none 0 0, rfl, ownT_nil _ _, .inr ⟨by decide, HCM.out, rfl⟩⟩
end Go.Proofs.YtdamhdceajmdfaaDoor
