
-- lay.encode.
import Derived.Test.YtmlnnbinbbmmhaaDoorYC
namespace Go.Proofs.YtmlnnbinbbmmhaaDoor
open Go.ChangeShapes Go.WideShapes Go.ChangeAt Go.RowKit
set_option linter.unusedVariables false
set_option maxRecDepth 100000
theorem strL_back (s : ByteArray) : strL s.data.toList = s := by apply ByteArray.ext; simp [strL]
theorem putAt_at (old : Array Value) (i : Nat) (v : Value) (h : i < old.size) : putAt old i #[v] = old.setIfInBounds i v := by
  apply Array.ext'
  unfold putAt
  rw [Array.toList_setIfInBounds, List.set_eq_take_append_cons_drop, if_pos (by rw [Array.length_toList]; exact h)]
  simp
def phS (S : List Sp) (j : Nat) : List UInt8 := ((nmS S).getD j .empty).data.toList
theorem phS_at {S : List Sp} {j : Nat} {x : Sp} (h : S[j]? = some x) : phS S j = x.1.data.toList := by
  unfold phS nmS
  rw [List.getD_eq_getElem?_getD, List.getElem?_map, h]; rfl
theorem row_put {S : List Sp} {n j : Nat} {x : Sp} (hx : S[j]? = some x) (hj : j < n) : putAt (rowAt (phS S) n j) j #[.string x.1] = rowAt (phS S) n (j + 1) := by
  rw [putAt_at _ _ _ (by rw [rowAt_size]; exact hj), ← rowAt_set (phS S) n j hj, phS_at hx, strL_back]
theorem row_all {S : List Sp} {w : World} {g n : Nat} (hn : n = S.length) (hm : n ≤ 1100000) (h : w.heap[g]? = some (.cells (rowAt (phS S) n n) 9 (0, 0))) : RowT w (.slice (some ⟨g, 0, none⟩) n n) (nmS S) := by
  have hl : (nmS S).length = n := by unfold nmS; rw [List.length_map, hn]
  refine ⟨some ⟨g, 0, none⟩, n, by rw [hl], by rw [hl]; exact Nat.le_refl _, by unfold maxLen; omega, (fun e => by cases e), fun _ => ⟨g, 0, rfl, fun j u hu => ?_⟩⟩
  rw [Nat.zero_add]
  refine cell_rowK h j u ?_
  have e : (nmS S).flatMap txL = (nmS S).map .string := by
    generalize nmS S = l
    induction l with
    | nil => rfl
    | cons a r ih => rw [List.flatMap_cons, List.map_cons, ih]; rfl
  rw [e, List.getElem?_map] at hu
  cases hy : (nmS S)[j]? with
  | none => rw [hy] at hu; cases hu
  | some y =>
    rw [hy] at hu
    injection hu with hu
    subst hu
    have hj : j < n := by rw [← hl]; exact (List.getElem?_eq_some_iff.1 hy).1
    unfold rowAt
    simp only [List.getElem?_toArray, List.getElem?_map, List.getElem?_range hj, Option.map_some]
    rw [if_pos hj]
    unfold phS
    rw [List.getD_eq_getElem?_getD, hy]
    simp [strL_back]
theorem rowS_of {w : World} {v : Value} {L : List ByteArray} (h : RowT w v L) : RowS w v L := by
  obtain ⟨ao, cap, e, _, _, _, hc⟩ := h
  by_cases hl : 0 < L.length
  · obtain ⟨b, off, e2, hcl⟩ := hc hl
    subst e2
    refine .inr ⟨b, off, cap, e, fun j hj => ?_⟩
    have hx : L[j]? = some L[j] := List.getElem?_eq_getElem hj
    have := flatG_get (c := txL) (z := 1) txL_len L j 0 L[j] hx (by decide)
    rw [Nat.mul_one, Nat.add_zero] at this
    rw [List.getD_eq_getElem?_getD, hx]
    exact hcl j _ this
  · have : L = [] := List.length_eq_zero_iff.1 (by omega)
    subst this
    exact .inl ⟨rfl, ao, cap, e⟩
theorem nm_at {S : List Sp} {j : Nat} {x : Sp} (h : S[j]? = some x) : (nmS S)[j]? = some x.1 := by unfold nmS; rw [List.getElem?_map, h]; rfl
theorem all_bad {S : List Sp} {j : Nat} {x : Sp} (h : S[j]? = some x) (hv : validL x.1.data.toList = false) : allV (nmS S) = false := by
  unfold allV
  rw [List.all_eq_false]
  exact ⟨x.1, List.mem_of_getElem? (nm_at h), by rw [hv]; decide⟩
theorem all_good {S : List Sp} (h : ∀ (j : Nat) (x : Sp), S[j]? = some x → validL x.1.data.toList = true) : allV (nmS S) = true := by
  unfold allV
  rw [List.all_eq_true]
  intro s hs
  obtain ⟨j, hj⟩ := List.getElem?_of_mem hs
  unfold nmS at hj
  rw [List.getElem?_map] at hj
  cases hx : S[j]? with
  | none => rw [hx] at hj; cases hj
  | some x => rw [hx] at hj; injection hj with hj; subst hj; exact h j x hx
set_option maxHeartbeats 4000000 in
theorem encode_c (k : Int) (v : Value) (S : List Sp) (w : World) (hk : kindB k = true) (hv : RowG enL w v S) (ht : tot (nmS S) ≤ 1099999) (hT : Tabs w) :
    Calls Tryd.prog 22 #[.int .i64 k, v] w fun e w' => EncSays (encA k (nmS S)) w e w' := by
  obtain ⟨a1, c1, q1, hcap, hmx⟩ := hv.form
  obtain ⟨n, hnn⟩ : ∃ n, n = S.length := ⟨_, rfl⟩
  have hlt := tot_len (nmS S)
  have hln : (nmS S).length = n := by unfold nmS; rw [List.length_map, hnn]
  rw [hln] at hlt
  rw [← hnn] at q1 hcap
  subst q1
  have hn : n ≤ 1099999 := Nat.le_trans hlt ht
  have HN := hidK hnn
  have HV : Hid (∀ W, Below w.heap.size w W → RowG enL W (.slice a1 n c1) S) := fun W hb => hv.on hb
  have hmk := mk_strs n (by omega)
  have HVA : Hid (∀ (s : ByteArray) (w : World), Calls Tryd.prog 25 #[.string s] w fun e w' => e = .returned (.bool (validL s.data.toList)) ∧ w' = w) := pvalid_c
  have HTL : Hid (∀ (u : Value) (W : World), Below w.heap.size w W → RowT W u (nmS S) → Calls Tryd.prog 45 #[.int .i64 k, u] W fun e w' => e = .returned (.bool false) ∧ Below W.heap.size W w') := fun u W hb hu => tooLong_c k u (nmS S) W hu ht (hT.on hb)
  have HEN : Hid (∀ (u : Value) (W : World), Below w.heap.size w W → RowS W u (nmS S) → Calls Tryd.prog 10 #[.int .i64 k, u] W fun e w' => EncSays (encA k (nmS S)) W e w') := fun u W hb hu => pencA_c k u (nmS S) W hu ht (hT.on hb)
  have HNO : Hid (allV (nmS S) = false → encA k (nmS S) = ⟨[], [], ⟨#[]⟩, 80⟩) := fun h => by
    unfold encA
    rw [if_pos (kindB_iff.1 hk), if_neg (by rw [h]; decide)]
  obtain ⟨W0, hW0⟩ : ∃ x, x = (w.alloc (.cells names0 36)).alloc (.cells (rowAt (fun _ => []) n 0) 9) := ⟨_, rfl⟩
  have HB0 : Hid (Below w.heap.size w W0) := by rw [hW0]; exact bupK (bupK (Below.refl _ w) _) _
  have HX0 : Hid (W0.heap[w.heap.size]? = some (.cells names0 36 (0, 0))) := by rw [hW0]; exact hupK (heap_alloc_new w _) _
  have HR0 : Hid (W0.heap[w.heap.size + 1]? = some (.cells (rowAt (phS S) n 0) 9 (0, 0))) := by rw [hW0, rowAt_any (phS S) (fun _ => []) n]; exact heap_new2K w _ _
  clear hv ht hT hnn hk hlt hln
  go_enter Tryd.func22, Tryd.ntmps22
  go_upto_region 2 with fail
  rw [← hW0]
  clear hW0 hmk
  go_wp2
  go_loopw [14] (fun i wx => ∃ j : Nat, i = .int .i64 j ∧ j ≤ n ∧ (∀ (i : Nat) (x : Sp), i < j → S[i]? = some x → validL x.1.data.toList = true) ∧ wx.heap[w.heap.size]? = some (.cells names0 36 (0, 0)) ∧ wx.heap[w.heap.size + 1]? = some (.cells (rowAt (phS S) n j) 9 (0, 0)) ∧ Below w.heap.size w wx) (fun i _ => n - (intOf i).toNat)
  case atStart => exact ⟨0, rfl, Nat.zero_le _, (fun i x hi => absurd hi (Nat.not_lt_zero _)), HX0.out, HR0.out, HB0.out⟩
  case round =>
    obtain ⟨j, rfl, hjn, hok, hx0, hr0, hB⟩ := hrel
    obtain ⟨wo, hwo⟩ : ∃ y, y = wr := ⟨_, rfl⟩
    subst hwo
    have HB := hidK hB
    have HOK := hidK hok
    have HX := hidK hx0
    have HR := hidK hr0
    clear hok hx0 hr0 HX0 HR0 HB0
    by_cases hj : j < n
    · have jI : (j : Int) < (n : Int) := by omega
      have j0 : (0 : Int) ≤ (j : Int) := by omega
      have jw : IntKind.i64.wrap ((j : Int) + 1) = (j : Int) + 1 := by rw [IntKind.wrap_i64]; omega
      obtain ⟨⟨nm, z⟩, hx⟩ : ∃ x, S[j]? = some x := ⟨_, List.getElem?_eq_getElem (by have := HN.out; omega)⟩
      obtain ⟨b1, o1, p1, e1, d0, d1⟩ := (HV.out wo hB).en hx
      injection e1 with e1 e1b e1c
      subst e1
      simp only at d0 d1
      have HXJ := hidK hx
      obtain ⟨W4, hW4⟩ : ∃ W4, W4 = wo.alloc (.cells #[.string nm, .int .i64 z] 24) := ⟨_, rfl⟩
      have b4 : Below wo.heap.size wo W4 := by rw [hW4]; exact (Below.refl _ wo).alloc (Nat.le_refl _) _
      have e4 : W4.heap[wo.heap.size]? = some (.cells #[.string nm, .int .i64 z] 24 (0, 0)) := by rw [hW4]; exact heap_alloc_new _ _
      have f0 := cell_rowK e4 0 _ rfl
      have HB4 : Hid (Below w.heap.size w W4) := hB.trans (b4.mono hB.size)
      have HX4 := hidK (hkeepK b4 HX.out)
      have HR4 := hidK (hkeepK b4 HR.out)
      clear hx e1b e1c b4 e4 hB HX HR HEN HTL
      go_upto_region 5 with fail
      rw [← hW4]
      clear hW4 d0 d1
      cases hva : validL nm.data.toList with
      | false =>
        have HVF : Hid (Calls Tryd.prog 25 #[.string nm] W4 fun e w' => e = .returned (.bool false) ∧ w' = W4) := by
          have := HVA.out nm W4
          rw [hva] at this
          exact this
        have HANS := hidK (HNO.out (all_bad HXJ.out hva))
        clear hva HVA HNO HOK
        have hx4 := HX4.out
        go_wp2_with (first
          | (go_at_call 25; refine HVF.out.mono ?_; rintro e w5 ⟨rfl, hw5⟩; subst w5)
          | (refine wpList_store_kz rfl rfl _ _ _ rfl w.heap.size 0 (.agg #[.slice none 0 0, .slice none 0 0, .string ⟨#[]⟩]) rfl rfl _ _ #[.slice none 0 0, .slice none 0 0, .string ⟨#[]⟩] HX4.out (by kernel_rfl) rfl rfl rfl ?_; intro Wz hWz qz; have hBz := qz.belowN HB4.out (Nat.le_refl _) (Nat.le_refl _)))
        refine bodyPost_ret (results_cell_tmp_rowR rfl _ _ w.heap.size _ _ _ _ _ rfl rfl hWz Tryd.underlying36 rfl (by kernel_rfl)) rfl ?_
        rw [HANS.out]
        exact ⟨none, 0, 0, none, 0, 0, rfl, rowS_nil _, rowS_nil _, hBz, newV_nil _, newV_nil _⟩
      | true =>
        have HVF : Hid (Calls Tryd.prog 25 #[.string nm] W4 fun e w' => e = .returned (.bool true) ∧ w' = W4) := by
          have := HVA.out nm W4
          rw [hva] at this
          exact this
        have HVT := hidK hva
        have hfit : Nat.ble (j + 1) (rowAt (phS S) n j).size = true := Nat.ble_eq_true_of_le (by rw [rowAt_size]; omega)
        clear hva HVA HNO
        go_wp2_with (first
          | (go_at_call 25; refine HVF.out.mono ?_; rintro e w5 ⟨rfl, hw5⟩; subst w5)
          | (refine wpList_store_kz rfl rfl _ _ _ rfl (w.heap.size + 1) j (.string nm) rfl rfl _ _ _ HR4.out (by kernel_rfl) hfit rfl (row_put HXJ.out hj) ?_; intro Wz hWz qz; have HWZ := hidK hWz; have HQZ := hidK qz; clear hWz qz))
        go_roundw
        case rel => exact ⟨j + 1, by go_num, by omega, (fun i x hi hx => by
            by_cases hij : i < j
            · exact HOK.out i x hij hx
            · obtain rfl : i = j := by omega
              rw [HXJ.out] at hx
              injection hx with hx
              subst hx
              exact HVT.out), HQZ.out.keeps (by omega) HX4.out, HWZ.out, HQZ.out.belowN HB4.out (by omega) (Nat.le_refl _)⟩
        case measure => simp [intOf]; omega
    · obtain rfl : j = n := by omega
      have hrow := row_all HN.out (by omega) HR.out
      have HT2 := hidK (HTL.out _ wo hB hrow)
      have HROW := hidK hrow
      clear HTL hj HVA hrow
      go_upto_region 11 with (go_at_call 45; refine HT2.out.mono ?_; rintro e w5 ⟨rfl, hb5⟩; have HB5 := hidK hb5; clear hb5)
      have HBW5 : Hid (Below w.heap.size w w5) := HB.out.trans (HB5.out.mono HB.out.size)
      have HX5 := hidK (hkeepK HB5.out HX.out)
      have HE2 := hidK (HEN.out _ w5 HBW5.out (rowS_of (HROW.out.on HB5.out)))
      have hsz5 : w.heap.size < w5.heap.size := (Array.getElem?_eq_some_iff.1 HX5.out).1
      have HSZ5 := hidK hsz5
      clear HEN HT2 HROW HR HOK HNO hsz5
      go_wp2_with (first
        | (go_at_call 10; refine HE2.out.mono ?_; rintro e w6 ⟨fa, fl, fc, ia, il, ic, rfl, q1, q2, hb6, q3, q4⟩; have HQ1 := hidK q1; have HQ2 := hidK q2; have HQ3 := hidK q3; have HQ4 := hidK q4; have HB6 := hidK hb6; have HX6 := hidK (hkeepK hb6 HX5.out); clear q1 q2 q3 q4 hb6)
        | (refine wpList_store_kz rfl rfl _ _ _ rfl w.heap.size 0 (.agg #[.slice fa fl fc, .slice ia il ic, .string (encA k (nmS S)).t]) rfl rfl _ _ #[.slice fa fl fc, .slice ia il ic, .string (encA k (nmS S)).t] HX6.out (by kernel_rfl) rfl rfl rfl ?_; intro Wz hWz qz; have HWZ := hidK hWz; have HQZ := hidK qz; clear qz))
      refine bodyPost_ret (results_cell_tmp_rowR rfl _ _ w.heap.size _ _ _ _ _ rfl rfl hWz Tryd.underlying36 rfl (by kernel_rfl)) rfl ?_
      exact ⟨fa, fl, fc, ia, il, ic, rfl, RowS.kq HQ1.out HQ3.out HSZ5.out HQZ.out, RowS.kq HQ2.out HQ4.out HSZ5.out HQZ.out, HQZ.out.belowN (HBW5.out.trans (HB6.out.mono HBW5.out.size)) (Nat.le_refl _) (Nat.le_refl _), fun ad l c h => Nat.le_trans (Nat.le_of_lt HSZ5.out) (HQ3.out ad l c h), fun ad l c h => Nat.le_trans (Nat.le_of_lt HSZ5.out) (HQ4.out ad l c h)⟩
end Go.Proofs.YtmlnnbinbbmmhaaDoor
