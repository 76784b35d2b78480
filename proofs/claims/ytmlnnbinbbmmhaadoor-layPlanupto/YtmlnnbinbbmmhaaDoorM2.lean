import Derived.Test.YtmlnnbinbbmmhaaDoorYB0
import Derived.Test.YtmlnnbinbbmmhaaDoorYP

-- lay.isTableTooLong: no list that is handed in here has a table so long.
namespace Go.Proofs.YtmlnnbinbbmmhaaDoor
open Go.ChangeShapes Go.WideShapes Go.ChangeAt Go.RowKit
set_option linter.unusedVariables false
set_option maxRecDepth 100000
theorem tot_next {L : List ByteArray} {k : Nat} {s : ByteArray} (h : L[k]? = some s) : tot (L.take (k + 1)) = tot (L.take k) + (s.size + 1) := by
  have hl := (List.getElem?_eq_some_iff.1 h).1
  rw [List.take_add_one, h]
  unfold tot
  simp
set_option maxHeartbeats 4000000 in
theorem tooLong_c (k : Int) (v : Value) (L : List ByteArray) (w : World) (hv : RowT w v L) (ht : tot L ≤ 1099999) (hT : Tabs w) :
    Calls Tryd.prog 45 #[.int .i64 k, v] w fun e w' => e = .returned (.bool false) ∧ Below w.heap.size w w' := by
  obtain ⟨a1, c1, q1, hcap, hmx⟩ := hv.form
  obtain ⟨n, hnn⟩ : ∃ n, n = L.length := ⟨_, rfl⟩
  have hlt := tot_len L
  rw [← hnn] at q1 hcap hlt
  subst q1
  have hn : n ≤ 1099999 := Nat.le_trans hlt ht
  have HN := hidK hnn
  have HV : Hid (∀ W, Below w.heap.size w W → RowT W (.slice a1 n c1) L) := fun W hb => hv.on hb
  have HTK : Hid (∀ j, tot (L.take j) ≤ tot L) := fun j => tot_take L j
  have HT := hidK ht
  have HE : Hid (∀ (u : Value) (s : ByteArray) (W : World), Below w.heap.size w W → RowS W u [s] → s.size ≤ 1099998 → Calls Tryd.prog 10 #[.int .i64 k, u] W fun e w' => ∃ fa fl fc ia il ic t z, e = .returned (.tuple #[.agg #[.slice fa fl fc, .slice ia il ic, .string t], .int .i64 z]) ∧ t.size ≤ 2 * (s.size + 1) ∧ Below w.heap.size w w') := fun u s W hb hr hs => (pencA_c k u [s] W hr (by unfold tot; simp; omega) (hT.on hb)).mono (by
    rintro e w' ⟨fa, fl, fc, ia, il, ic, rfl, _, _, h3, _⟩
    refine ⟨fa, fl, fc, ia, il, ic, _, _, rfl, ?_, hb.trans (h3.mono hb.size)⟩
    have := encA_t_le k [s]
    unfold tot at this
    simpa using this)
  clear hv ht hT hnn
  go_enter Tryd.func45, Tryd.ntmps45
  go_wp2
  go_loopw [5, 11] (fun t i wx => ∃ (k : Nat) (m : Nat), i = .int .i64 k ∧ k ≤ n ∧ t = .int .i64 m ∧ m ≤ 2 * tot (L.take k) ∧ Below w.heap.size w wx) (fun _ i _ => n - (intOf i).toNat)
  case atStart => exact ⟨0, 0, rfl, Nat.zero_le _, rfl, Nat.zero_le _, Below.refl _ _⟩
  case round =>
    obtain ⟨j, m, rfl, hjn, rfl, hm, hB⟩ := hrel
    obtain ⟨wo, hwo⟩ : ∃ y, y = wr := ⟨_, rfl⟩
    subst hwo
    have HB := hidK hB
    by_cases hj : j < n
    · have jI : (j : Int) < (n : Int) := by omega
      have j0 : (0 : Int) ≤ (j : Int) := by omega
      have jw : IntKind.i64.wrap ((j : Int) + 1) = (j : Int) + 1 := by rw [IntKind.wrap_i64]; omega
      obtain ⟨s, hs⟩ : ∃ x, L[j]? = some x := ⟨_, List.getElem?_eq_getElem (by have := HN.out; omega)⟩
      obtain ⟨b1, o1, p1, e1, d0⟩ := (HV.out wo hB).tx hs
      injection e1 with e1 e1b e1c
      subst e1
      have hnx := tot_next hs
      have hmx2 := HTK.out (j + 1)
      have HM : Hid (m ≤ 2 * tot (L.take j) ∧ tot (L.take (j + 1)) = tot (L.take j) + (s.size + 1) ∧ tot (L.take (j + 1)) ≤ 1099999) := ⟨hm, hnx, by have := HT.out; omega⟩
      have jc : (j : Int) ≤ (c1 : Int) := by omega
      have jc1 : (j : Int) + 1 ≤ (c1 : Int) := by omega
      have jj : (j : Int) ≤ (j : Int) + 1 := by omega
      have hss : s.size ≤ 1099998 := by have := HT.out; omega
      have HC : Hid (∀ u, RowS wo u [s] → Calls Tryd.prog 10 #[.int .i64 k, u] wo fun e w' => ∃ fa fl fc ia il ic t z, e = .returned (.tuple #[.agg #[.slice fa fl fc, .slice ia il ic, .string t], .int .i64 z]) ∧ t.size ≤ 2 * (s.size + 1) ∧ Below w.heap.size w w') := fun u hr => HE.out u s wo hB hr hss
      have HRS : Hid (∀ cc, RowS wo (.slice (some ⟨b1, o1 + j, none⟩) 1 cc) [s]) := fun cc => .inr ⟨b1, o1 + j, cc, rfl, fun i hi => by
        obtain rfl : i = 0 := by simpa using hi
        exact d0⟩
      clear hs e1b e1c hm hnx hmx2 hss d0
      go_upto_region 5 with fail
      go_upto_region 6 with (go_at_call 10; refine (HC.out _ (HRS.out _)).mono ?_; rintro e w2 ⟨fa, fl, fc, ia, il, ic, t, z, rfl, hts, hb⟩; have HTS := hidK hts; have HB2 := hidK hb; clear hts hb)
      obtain ⟨w3, hw3⟩ : ∃ x, x = w2.alloc (.cells #[.slice fa fl fc, .slice ia il ic, .string t] 36) := ⟨_, rfl⟩
      have hb3 : Below w2.heap.size w2 w3 := by rw [hw3]; exact (Below.refl _ _).alloc (Nat.le_refl _) _
      have hz3 : w3.heap[w2.heap.size]? = some (.cells #[.slice fa fl fc, .slice ia il ic, .string t] 36 (0, 0)) := by rw [hw3]; exact heap_alloc_new _ _
      have z2 := cell_rowK hz3 2 _ rfl
      have HB3 : Hid (Below w.heap.size w w3) := HB2.out.trans (hb3.mono HB2.out.size)
      rw [← hw3]
      obtain ⟨h1, h2, h3⟩ := HM.out
      have h4 := HTS.out
      have mw : IntKind.i64.wrap ((m : Int) + (t.size : Int)) = ((m + t.size : Nat) : Int) := by rw [IntKind.wrap_i64]; omega
      have mn : ¬ (((m + t.size : Nat) : Int) > 67108864) := by omega
      have HM2 : Hid (m + t.size ≤ 2 * tot (L.take (j + 1))) := by show _ ≤ _; omega
      clear hw3 hb3 hz3 h1 h2 h3 h4 HE HC HRS
      go_wp2
      go_roundw
      case rel => exact ⟨j + 1, m + t.size, by go_num, by omega, by go_num, HM2.out, HB3.out⟩
      case measure => simp [intOf]; omega
    · obtain rfl : j = n := by omega
      clear HE hm
      go_wp2
      go_ret
      exact ⟨rfl, hB⟩
end Go.Proofs.YtmlnnbinbbmmhaaDoor

-- lay.encode.
namespace Go.Proofs.YtmlnnbinbbmmhaaDoor
open Go.ChangeShapes Go.WideShapes Go.ChangeAt Go.RowKit
set_option linter.unusedVariables false
set_option maxRecDepth 100000
theorem strL_back (s : ByteArray) : strL s.data.toList = s := by apply ByteArray.ext; simp [strL]
theorem putAt_at (old : Array Value) (i : Nat) (v : Value) (h : i < old.size) : putAt old i #[v] = old.setIfInBounds i v := by
  apply Array.ext'
  unfold putAt
  rw [Array.toList_setIfInBounds, List.set_eq_take_append_cons_drop, if_pos (by rw [Array.length_toList]; exact h)]
  simp
def phS (S : List Sp) (j : Nat) : List UInt8 := ((nmS S).getD j .empty).data.toList
theorem phS_at {S : List Sp} {j : Nat} {x : Sp} (h : S[j]? = some x) : phS S j = x.1.data.toList := by
  unfold phS nmS
  rw [List.getD_eq_getElem?_getD, List.getElem?_map, h]; rfl
theorem row_put {S : List Sp} {n j : Nat} {x : Sp} (hx : S[j]? = some x) (hj : j < n) : putAt (rowAt (phS S) n j) j #[.string x.1] = rowAt (phS S) n (j + 1) := by
  rw [putAt_at _ _ _ (by rw [rowAt_size]; exact hj), ← rowAt_set (phS S) n j hj, phS_at hx, strL_back]
theorem row_all {S : List Sp} {w : World} {g n : Nat} (hn : n = S.length) (hm : n ≤ 1100000) (h : w.heap[g]? = some (.cells (rowAt (phS S) n n) 9 (0, 0))) : RowT w (.slice (some ⟨g, 0, none⟩) n n) (nmS S) := by
  have hl : (nmS S).length = n := by unfold nmS; rw [List.length_map, hn]
  refine ⟨some ⟨g, 0, none⟩, n, by rw [hl], by rw [hl]; exact Nat.le_refl _, by unfold maxLen; omega, (fun e => by cases e), fun _ => ⟨g, 0, rfl, fun j u hu => ?_⟩⟩
  rw [Nat.zero_add]
  refine cell_rowK h j u ?_
  have e : (nmS S).flatMap txL = (nmS S).map .string := by
    generalize nmS S = l
    induction l with
    | nil => rfl
    | cons a r ih => rw [List.flatMap_cons, List.map_cons, ih]; rfl
  rw [e, List.getElem?_map] at hu
  cases hy : (nmS S)[j]? with
  | none => rw [hy] at hu; cases hu
  | some y =>
    rw [hy] at hu
    injection hu with hu
    subst hu
    have hj : j < n := by rw [← hl]; exact (List.getElem?_eq_some_iff.1 hy).1
    unfold rowAt
    simp only [List.getElem?_toArray, List.getElem?_map, List.getElem?_range hj, Option.map_some]
    rw [if_pos hj]
    unfold phS
    rw [List.getD_eq_getElem?_getD, hy]
    simp [strL_back]
theorem rowS_of {w : World} {v : Value} {L : List ByteArray} (h : RowT w v L) : RowS w v L := by
  obtain ⟨ao, cap, e, _, _, _, hc⟩ := h
  by_cases hl : 0 < L.length
  · obtain ⟨b, off, e2, hcl⟩ := hc hl
    subst e2
    refine .inr ⟨b, off, cap, e, fun j hj => ?_⟩
    have hx : L[j]? = some L[j] := List.getElem?_eq_getElem hj
    have := flatG_get (c := txL) (z := 1) txL_len L j 0 L[j] hx (by decide)
    rw [Nat.mul_one, Nat.add_zero] at this
    rw [List.getD_eq_getElem?_getD, hx]
    exact hcl j _ this
  · have : L = [] := List.length_eq_zero_iff.1 (by omega)
    subst this
    exact .inl ⟨rfl, ao, cap, e⟩
theorem nm_at {S : List Sp} {j : Nat} {x : Sp} (h : S[j]? = some x) : (nmS S)[j]? = some x.1 := by unfold nmS; rw [List.getElem?_map, h]; rfl
theorem all_bad {S : List Sp} {j : Nat} {x : Sp} (h : S[j]? = some x) (hv : validL x.1.data.toList = false) : allV (nmS S) = false := by
  unfold allV
  rw [List.all_eq_false]
  exact ⟨x.1, List.mem_of_getElem? (nm_at h), by rw [hv]; decide⟩
theorem all_good {S : List Sp} (h : ∀ (j : Nat) (x : Sp), S[j]? = some x → validL x.1.data.toList = true) : allV (nmS S) = true := by
  unfold allV
  rw [List.all_eq_true]
  intro s hs
  obtain ⟨j, hj⟩ := List.getElem?_of_mem hs
  unfold nmS at hj
  rw [List.getElem?_map] at hj
  cases hx : S[j]? with
  | none => rw [hx] at hj; cases hj
  | some x => rw [hx] at hj; injection hj with hj; subst hj; exact h j x hx
set_option maxHeartbeats 4000000 in
theorem encode_c (k : Int) (v : Value) (S : List Sp) (w : World) (hk : kindB k = true) (hv : RowG enL w v S) (ht : tot (nmS S) ≤ 1099999) (hT : Tabs w) :
    Calls Tryd.prog 22 #[.int .i64 k, v] w fun e w' => EncSays (encA k (nmS S)) w e w' := by
  obtain ⟨a1, c1, q1, hcap, hmx⟩ := hv.form
  obtain ⟨n, hnn⟩ : ∃ n, n = S.length := ⟨_, rfl⟩
  have hlt := tot_len (nmS S)
  have hln : (nmS S).length = n := by unfold nmS; rw [List.length_map, hnn]
  rw [hln] at hlt
  rw [← hnn] at q1 hcap
  subst q1
  have hn : n ≤ 1099999 := Nat.le_trans hlt ht
  have HN := hidK hnn
  have HV : Hid (∀ W, Below w.heap.size w W → RowG enL W (.slice a1 n c1) S) := fun W hb => hv.on hb
  have hmk := mk_strs n (by omega)
  have HVA : Hid (∀ (s : ByteArray) (w : World), Calls Tryd.prog 25 #[.string s] w fun e w' => e = .returned (.bool (validL s.data.toList)) ∧ w' = w) := pvalid_c
  have HTL : Hid (∀ (u : Value) (W : World), Below w.heap.size w W → RowT W u (nmS S) → Calls Tryd.prog 45 #[.int .i64 k, u] W fun e w' => e = .returned (.bool false) ∧ Below W.heap.size W w') := fun u W hb hu => tooLong_c k u (nmS S) W hu ht (hT.on hb)
  have HEN : Hid (∀ (u : Value) (W : World), Below w.heap.size w W → RowS W u (nmS S) → Calls Tryd.prog 10 #[.int .i64 k, u] W fun e w' => EncSays (encA k (nmS S)) W e w') := fun u W hb hu => pencA_c k u (nmS S) W hu ht (hT.on hb)
  have HNO : Hid (allV (nmS S) = false → encA k (nmS S) = ⟨[], [], ⟨#[]⟩, 80⟩) := fun h => by
    unfold encA
    rw [if_pos (kindB_iff.1 hk), if_neg (by rw [h]; decide)]
  obtain ⟨W0, hW0⟩ : ∃ x, x = (w.alloc (.cells names0 36)).alloc (.cells (rowAt (fun _ => []) n 0) 9) := ⟨_, rfl⟩
  have HB0 : Hid (Below w.heap.size w W0) := by rw [hW0]; exact bupK (bupK (Below.refl _ w) _) _
  have HX0 : Hid (W0.heap[w.heap.size]? = some (.cells names0 36 (0, 0))) := by rw [hW0]; exact hupK (heap_alloc_new w _) _
  have HR0 : Hid (W0.heap[w.heap.size + 1]? = some (.cells (rowAt (phS S) n 0) 9 (0, 0))) := by rw [hW0, rowAt_any (phS S) (fun _ => []) n]; exact heap_new2K w _ _
  clear hv ht hT hnn hk hlt hln
  go_enter Tryd.func22, Tryd.ntmps22
  go_upto_region 2 with fail
  rw [← hW0]
  clear hW0 hmk
  go_wp2
  go_loopw [14] (fun i wx => ∃ j : Nat, i = .int .i64 j ∧ j ≤ n ∧ (∀ (i : Nat) (x : Sp), i < j → S[i]? = some x → validL x.1.data.toList = true) ∧ wx.heap[w.heap.size]? = some (.cells names0 36 (0, 0)) ∧ wx.heap[w.heap.size + 1]? = some (.cells (rowAt (phS S) n j) 9 (0, 0)) ∧ Below w.heap.size w wx) (fun i _ => n - (intOf i).toNat)
  case atStart => exact ⟨0, rfl, Nat.zero_le _, (fun i x hi => absurd hi (Nat.not_lt_zero _)), HX0.out, HR0.out, HB0.out⟩
  case round =>
    obtain ⟨j, rfl, hjn, hok, hx0, hr0, hB⟩ := hrel
    obtain ⟨wo, hwo⟩ : ∃ y, y = wr := ⟨_, rfl⟩
    subst hwo
    have HB := hidK hB
    have HOK := hidK hok
    have HX := hidK hx0
    have HR := hidK hr0
    clear hok hx0 hr0 HX0 HR0 HB0
    by_cases hj : j < n
    · have jI : (j : Int) < (n : Int) := by omega
      have j0 : (0 : Int) ≤ (j : Int) := by omega
      have jw : IntKind.i64.wrap ((j : Int) + 1) = (j : Int) + 1 := by rw [IntKind.wrap_i64]; omega
      obtain ⟨⟨nm, z⟩, hx⟩ : ∃ x, S[j]? = some x := ⟨_, List.getElem?_eq_getElem (by have := HN.out; omega)⟩
      obtain ⟨b1, o1, p1, e1, d0, d1⟩ := (HV.out wo hB).en hx
      injection e1 with e1 e1b e1c
      subst e1
      simp only at d0 d1
      have HXJ := hidK hx
      obtain ⟨W4, hW4⟩ : ∃ W4, W4 = wo.alloc (.cells #[.string nm, .int .i64 z] 24) := ⟨_, rfl⟩
      have b4 : Below wo.heap.size wo W4 := by rw [hW4]; exact (Below.refl _ wo).alloc (Nat.le_refl _) _
      have e4 : W4.heap[wo.heap.size]? = some (.cells #[.string nm, .int .i64 z] 24 (0, 0)) := by rw [hW4]; exact heap_alloc_new _ _
      have f0 := cell_rowK e4 0 _ rfl
      have HB4 : Hid (Below w.heap.size w W4) := hB.trans (b4.mono hB.size)
      have HX4 := hidK (hkeepK b4 HX.out)
      have HR4 := hidK (hkeepK b4 HR.out)
      clear hx e1b e1c b4 e4 hB HX HR HEN HTL
      go_upto_region 5 with fail
      rw [← hW4]
      clear hW4 d0 d1
      cases hva : validL nm.data.toList with
      | false =>
        have HVF : Hid (Calls Tryd.prog 25 #[.string nm] W4 fun e w' => e = .returned (.bool false) ∧ w' = W4) := by
          have := HVA.out nm W4
          rw [hva] at this
          exact this
        have HANS := hidK (HNO.out (all_bad HXJ.out hva))
        clear hva HVA HNO HOK
        have hx4 := HX4.out
        go_wp2_with (first
          | (go_at_call 25; refine HVF.out.mono ?_; rintro e w5 ⟨rfl, hw5⟩; subst w5)
          | (refine wpList_store_kz rfl rfl _ _ _ rfl w.heap.size 0 (.agg #[.slice none 0 0, .slice none 0 0, .string ⟨#[]⟩]) rfl rfl _ _ #[.slice none 0 0, .slice none 0 0, .string ⟨#[]⟩] HX4.out (by kernel_rfl) rfl rfl rfl ?_; intro Wz hWz qz; have hBz := qz.belowN HB4.out (Nat.le_refl _) (Nat.le_refl _)))
        refine bodyPost_ret (results_cell_tmp_rowR rfl _ _ w.heap.size _ _ _ _ _ rfl rfl hWz Tryd.underlying36 rfl (by kernel_rfl)) rfl ?_
        rw [HANS.out]
        exact ⟨none, 0, 0, none, 0, 0, rfl, rowS_nil _, rowS_nil _, hBz, newV_nil _, newV_nil _⟩
      | true =>
        have HVF : Hid (Calls Tryd.prog 25 #[.string nm] W4 fun e w' => e = .returned (.bool true) ∧ w' = W4) := by
          have := HVA.out nm W4
          rw [hva] at this
          exact this
        have HVT := hidK hva
        have hfit : Nat.ble (j + 1) (rowAt (phS S) n j).size = true := Nat.ble_eq_true_of_le (by rw [rowAt_size]; omega)
        clear hva HVA HNO
        go_wp2_with (first
          | (go_at_call 25; refine HVF.out.mono ?_; rintro e w5 ⟨rfl, hw5⟩; subst w5)
          | (refine wpList_store_kz rfl rfl _ _ _ rfl (w.heap.size + 1) j (.string nm) rfl rfl _ _ _ HR4.out (by kernel_rfl) hfit rfl (row_put HXJ.out hj) ?_; intro Wz hWz qz; have HWZ := hidK hWz; have HQZ := hidK qz; clear hWz qz))
        go_roundw
        case rel => exact ⟨j + 1, by go_num, by omega, (fun i x hi hx => by
            by_cases hij : i < j
            · exact HOK.out i x hij hx
            · obtain rfl : i = j := by omega
              rw [HXJ.out] at hx
              injection hx with hx
              subst hx
              exact HVT.out), HQZ.out.keeps (by omega) HX4.out, HWZ.out, HQZ.out.belowN HB4.out (by omega) (Nat.le_refl _)⟩
        case measure => simp [intOf]; omega
    · obtain rfl : j = n := by omega
      have hrow := row_all HN.out (by omega) HR.out
      have HT2 := hidK (HTL.out _ wo hB hrow)
      have HROW := hidK hrow
      clear HTL hj HVA hrow
      go_upto_region 11 with (go_at_call 45; refine HT2.out.mono ?_; rintro e w5 ⟨rfl, hb5⟩; have HB5 := hidK hb5; clear hb5)
      have HBW5 : Hid (Below w.heap.size w w5) := HB.out.trans (HB5.out.mono HB.out.size)
      have HX5 := hidK (hkeepK HB5.out HX.out)
      have HE2 := hidK (HEN.out _ w5 HBW5.out (rowS_of (HROW.out.on HB5.out)))
      have hsz5 : w.heap.size < w5.heap.size := (Array.getElem?_eq_some_iff.1 HX5.out).1
      have HSZ5 := hidK hsz5
      clear HEN HT2 HROW HR HOK HNO hsz5
      go_wp2_with (first
        | (go_at_call 10; refine HE2.out.mono ?_; rintro e w6 ⟨fa, fl, fc, ia, il, ic, rfl, q1, q2, hb6, q3, q4⟩; have HQ1 := hidK q1; have HQ2 := hidK q2; have HQ3 := hidK q3; have HQ4 := hidK q4; have HB6 := hidK hb6; have HX6 := hidK (hkeepK hb6 HX5.out); clear q1 q2 q3 q4 hb6)
        | (refine wpList_store_kz rfl rfl _ _ _ rfl w.heap.size 0 (.agg #[.slice fa fl fc, .slice ia il ic, .string (encA k (nmS S)).t]) rfl rfl _ _ #[.slice fa fl fc, .slice ia il ic, .string (encA k (nmS S)).t] HX6.out (by kernel_rfl) rfl rfl rfl ?_; intro Wz hWz qz; have HWZ := hidK hWz; have HQZ := hidK qz; clear qz))
      refine bodyPost_ret (results_cell_tmp_rowR rfl _ _ w.heap.size _ _ _ _ _ rfl rfl hWz Tryd.underlying36 rfl (by kernel_rfl)) rfl ?_
      exact ⟨fa, fl, fc, ia, il, ic, rfl, RowS.kq HQ1.out HQ3.out HSZ5.out HQZ.out, RowS.kq HQ2.out HQ4.out HSZ5.out HQZ.out, HQZ.out.belowN (HBW5.out.trans (HB6.out.mono HBW5.out.size)) (Nat.le_refl _) (Nat.le_refl _), fun ad l c h => Nat.le_trans (Nat.le_of_lt HSZ5.out) (HQ3.out ad l c h), fun ad l c h => Nat.le_trans (Nat.le_of_lt HSZ5.out) (HQ4.out ad l c h)⟩
end Go.Proofs.YtmlnnbinbbmmhaaDoor

-- lay.place: what lies in memory meanwhile.
namespace Go.Proofs.YtmlnnbinbbmmhaaDoor
open Go.ChangeShapes Go.WideShapes Go.ChangeAt Go.RowKit
set_option linter.unusedVariables false
set_option maxRecDepth 100000
theorem setY_at {w : World} {b : Nat} {c : Array Value} {t : TypeId} {fr : Nat × Nat} (h : w.heap[b]? = some (.cells c t fr)) {k : Nat} (v : Value) : (w.setCell ⟨b, k, none⟩ v).heap[b]? = some (.cells (c.setIfInBounds k v) t fr) := by
  obtain ⟨hb, he⟩ := Array.getElem?_eq_some_iff.1 h
  simp [World.setCell, hb, Array.getElem_modify, he]
theorem setY_kq (w : World) (b k : Nat) (v : Value) : Kq b w (w.setCell ⟨b, k, none⟩ v) := by
  refine ⟨rfl, rfl, rfl, by simp [World.setCell], fun j hj hl => ?_⟩
  have : ¬ b = j := fun e => hj e.symm
  simp [World.setCell, Array.getElem?_modify, this]
/-- a made row of numbers, the first j of them put -/
def intAt (f : Nat → Int) (n j : Nat) : Array Value := ((List.range n).map fun i => Value.int .i64 (if i < j then f i else 0)).toArray
theorem intAt_size (f : Nat → Int) (n j : Nat) : (intAt f n j).size = n := by simp [intAt]
theorem intAt_any (f g : Nat → Int) (n : Nat) : intAt f n 0 = intAt g n 0 := by simp [intAt]
theorem intAt_put (f : Nat → Int) (n j : Nat) (hj : j < n) : putAt (intAt f n j) j #[.int .i64 (f j)] = intAt f n (j + 1) := by
  rw [putAt_at _ _ _ (by rw [intAt_size]; exact hj)]
  apply Array.ext
  · simp [intAt]
  · intro i h1 h2
    rw [Array.getElem_setIfInBounds]
    · by_cases e : j = i
      · subst e; simp [intAt]
      · simp only [e, if_false, intAt, List.getElem_toArray, List.getElem_map, List.getElem_range]
        by_cases h3 : i < j
        · rw [if_pos h3, if_pos (by omega)]
        · rw [if_neg h3, if_neg (by omega)]
    · simpa [intAt] using h1
theorem intAt_row {f : Nat → Int} {w : World} {g n : Nat} (hm : n ≤ 1100000) (h : w.heap[g]? = some (.cells (intAt f n n) 3 (0, 0))) : RowI w (.slice (some ⟨g, 0, none⟩) n n) ((List.range n).map f) := by
  refine ⟨some ⟨g, 0, none⟩, n, by simp, by simp, by unfold maxLen; omega, (fun e => by cases e), fun _ => ⟨g, 0, rfl, fun j u hu => ?_⟩⟩
  rw [Nat.zero_add]
  refine cell_rowK h j u ?_
  have e : ((List.range n).map f).flatMap nmL = (List.range n).map fun i => Value.int .i64 (f i) := by
    generalize List.range n = l
    induction l with
    | nil => rfl
    | cons a r ih => rw [List.map_cons, List.flatMap_cons, List.map_cons, ih]; rfl
  rw [e, List.getElem?_map] at hu
  cases hy : (List.range n)[j]? with
  | none => rw [hy] at hu; cases hu
  | some y =>
    have hj : j < n := by have := (List.getElem?_eq_some_iff.1 hy).1; simpa using this
    rw [List.getElem?_range hj] at hy
    injection hy with hy
    subst hy
    rw [List.getElem?_range hj] at hu
    injection hu with hu
    subst hu
    unfold intAt
    simp only [List.getElem?_toArray, List.getElem?_map, List.getElem?_range hj, Option.map_some]
    rw [if_pos hj]
theorem infoInt : (Tryd.prog.info? 3).map (fun i => (i.zero, i.size, i.bytes)) = some (some (.int .i64 0), 1, 8) := by kernel_rfl
theorem made_ints (n : Nat) : madeCells #[Value.int .i64 0] (n * 1) = intAt (fun _ => 0) n 0 := by
  apply Array.ext
  · simp [intAt, madeCells]
  · intro i h1 h2
    have e : i % 1 = 0 := Nat.mod_one i
    simp [intAt, madeCells, e]
theorem mk_ints (n : Nat) (hn : n ≤ 1100000) (W : World) : (Instr.makeSlice 25 (.int .i64 n) (.int .i64 n)).run Tryd.prog W = .ok (.slice (some ⟨W.heap.size, 0, none⟩) n n) (W.alloc (.cells (intAt (fun _ => 0) n 0) 3)) := by
  obtain ⟨i0, hi, hz0, hz1, hz2⟩ := info_parts infoInt
  rw [run_makeSlice W 25 3 i0 (.int .i64 0) Tryd.underlying25 hi hz0 .i64 .i64 n n (by omega) (by omega) (by rw [hz1, Int.toNat_natCast]; omega) (by rw [hz2]; omega) (by omega), hz1, Int.toNat_natCast, ← made_ints]
  rfl
abbrev lay0 : Array Value := #[.slice none 0 0, .int .i64 0, .int .i64 0]
/-- what place has laid -/
structure PSt (w : World) (gl gr : Nat) (ns : Array Value) (n : Nat) (f : Nat → Int) (j : Nat) (tb T : Int) (wx : World) : Prop where
  b : Below w.heap.size w wx
  n0 : wx.heap[w.heap.size]? = some (.cells ns 36 (0, 0))
  r0 : wx.heap[w.heap.size + 1]? = some (.cells lay0 27 (0, 0))
  l : wx.heap[gl]? = some (.cells #[.slice (some ⟨gr, 0, none⟩) n n, .int .i64 tb, .int .i64 T] 27 (0, 0))
  a : wx.heap[gr]? = some (.cells (intAt f n j) 3 (0, 0))
  g1 : w.heap.size + 1 < gl
  g2 : w.heap.size + 1 < gr
  ne : gl ≠ gr
section
variable {w : World} {gl gr : Nat} {ns : Array Value} {n : Nat} {f : Nat → Int} {j : Nat} {tb T : Int} {wx wy : World}
theorem PSt.on (h : PSt w gl gr ns n f j tb T wx) (hb : Below wx.heap.size wx wy) : PSt w gl gr ns n f j tb T wy := ⟨h.b.trans (hb.mono h.b.size), hkeepK hb h.n0, hkeepK hb h.r0, hkeepK hb h.l, hkeepK hb h.a, h.g1, h.g2, h.ne⟩
theorem PSt.drewN (h : PSt w gl gr ns n f j tb T wx) (k : Nat) : PSt w gl gr ns n f j tb T (wx.drewN k) := h.on (below_drewY (Below.refl _ _) k)
theorem PSt.drew (h : PSt w gl gr ns n f j tb T wx) : PSt w gl gr ns n f j tb T wx.drew := h.on (Below.refl _ _).drew
theorem PSt.tot (h : PSt w gl gr ns n f j tb T wx) (T' : Int) : PSt w gl gr ns n f j tb T' (wx.setCell ⟨gl, 2, none⟩ (.int .i64 T')) := by
  have q := setY_kq wx gl 2 (.int .i64 T')
  have g1 := h.g1
  exact ⟨q.belowN h.b (by omega) (Nat.le_refl _), q.keeps (by omega) h.n0, q.keeps (by omega) h.r0, setY_at h.l _, q.keeps (fun e => h.ne e.symm) h.a, h.g1, h.g2, h.ne⟩
theorem PSt.put (h : PSt w gl gr ns n f j tb T wx) (hg : wy.heap[gr]? = some (.cells (intAt f n (j + 1)) 3 (0, 0))) (q : Kq gr wx wy) : PSt w gl gr ns n f (j + 1) tb T wy := by
  have g2 := h.g2
  exact ⟨q.belowN h.b (by omega) (Nat.le_refl _), q.keeps (by omega) h.n0, q.keeps (by omega) h.r0, q.keeps h.ne h.l, hg, h.g1, h.g2, h.ne⟩
theorem PSt.c0 (h : PSt w gl gr ns n f j tb T wx) : wx.cell? ⟨gl, 0, none⟩ = some (.slice (some ⟨gr, 0, none⟩) n n) ∧ wx.cell? ⟨gl, 1, none⟩ = some (.int .i64 tb) ∧ wx.cell? ⟨gl, 2, none⟩ = some (.int .i64 T) := ⟨cell_rowK h.l 0 _ rfl, cell_rowK h.l 1 _ rfl, cell_rowK h.l 2 _ rfl⟩
theorem PSt.fz (h : PSt w gl gr ns n f j tb T wx) (k : Nat) : wx.frozen? ⟨gl, k, none⟩ = false := by
  have := h.l
  simp [World.frozen?, this]
end
end Go.Proofs.YtmlnnbinbbmmhaaDoor

-- What Plan answers.
namespace Go.Proofs.YtmlnnbinbbmmhaaDoor
open Go.ChangeShapes Go.WideShapes Go.ChangeAt Go.RowKit
set_option linter.unusedVariables false
set_option maxRecDepth 100000
/-- what Plan answers -/
def PlanSays (A : Pa) (w : World) (e : Ending) (w' : World) : Prop := ∃ ao n c, e = .returned (.tuple #[.agg #[.slice ao n c, .int .i64 A.tb, .int .i64 A.tt], .int .i64 A.e]) ∧ w'.ownsRow w.heap.size 3 1 (.slice ao n c) A.a.length (A.a.flatMap nmL) ∧ n = A.a.length ∧ Below w.heap.size w w'
theorem planNo (x : Int) {w w' : World} (hb : Below w.heap.size w w') : PlanSays ⟨[], 0, 0, x⟩ w (.returned (.tuple #[.agg #[.slice none 0 0, .int .i64 0, .int .i64 0], .int .i64 x])) w' := ⟨none, 0, 0, rfl, ⟨rfl, .inl ⟨rfl, rfl⟩⟩, rfl, hb⟩
theorem intAt_own {f : Nat → Int} {w : World} {B g n : Nat} (hm : n ≤ 1100000) (hB : B ≤ g) (h : w.heap[g]? = some (.cells (intAt f n n) 3 (0, 0))) : w.ownsRow B 3 1 (.slice (some ⟨g, 0, none⟩) n n) ((List.range n).map f).length (((List.range n).map f).flatMap nmL) := by
  have e : ((List.range n).map f).flatMap nmL = (List.range n).map fun i => Value.int .i64 (f i) := by
    generalize List.range n = l
    induction l with
    | nil => rfl
    | cons a r ih => rw [List.map_cons, List.flatMap_cons, List.map_cons, ih]; rfl
  have hl : ((List.range n).map f).length = n := by simp
  rw [hl, e]
  refine ⟨by simp, .inr ⟨g, n, intAt f n n, rfl, hB, h, Nat.le_refl _, by unfold maxLen; omega, by rw [intAt_size, Nat.mul_one], ?_⟩⟩
  unfold intAt
  rw [List.toList_toArray, Nat.mul_one, List.take_of_length_le (by simp)]
  refine List.map_congr_left fun i hi => ?_
  rw [if_pos (List.mem_range.1 hi)]
theorem inl_size (k : Int) (LL : List ByteArray) (j : Nat) : isz (encA k LL).i j ≤ tot LL := by
  unfold isz encA
  split
  · split
    · show ((iL k LL).getD j ⟨#[]⟩).size ≤ _
      unfold iL
      by_cases hj : j < LL.length
      · rw [List.getD_eq_getElem?_getD, List.getElem?_map, List.getElem?_range hj]
        show (strL _).size ≤ _
        rw [strL_size]
        have h := size_tot LL j hj
        unfold iAt inlOf
        have e : ((LL.map (·.data.toList)).getD j []).length = (LL.getD j .empty).size := by
          rw [List.getD_eq_getElem?_getD, List.getD_eq_getElem?_getD, List.getElem?_map, List.getElem?_eq_getElem hj]
          simp
        split
        · omega
        · simp
      · rw [List.getD_eq_getElem?_getD, List.getElem?_eq_none (by simp; omega)]
        exact Nat.zero_le _
    · exact Nat.zero_le _
  · exact Nat.zero_le _
end Go.Proofs.YtmlnnbinbbmmhaaDoor
