
-- The document's holds, parted.
import Derived.Test.YtaaagdmhokgcjabD1
namespace Go.Proofs.Ytaaagdmhokgcjab
open Go.ChangeShapes Go.WideShapes Go.ChangeAt Go.RowKit
set_option linter.unusedVariables false
set_option maxRecDepth 100000
set_option linter.unusedSimpArgs false
set_option maxHeartbeats 4000000 in
theorem holds_c (u : Value) (J : List Nat) (i : Nat) (w : World) (hu : RowI w u (J.map Int.ofNat)) (hjl : J.length ≤ 16777216) :
    Calls Try.prog 55 #[u, .int .i64 i] w fun e w' => e = .returned (.bool (decide (i ∈ J))) ∧ Below w.heap.size w w' := by
  obtain ⟨a2, c2, q2, _, _⟩ := hu.form
  rw [List.length_map] at q2
  obtain ⟨m, hmm⟩ : ∃ m, m = J.length := ⟨_, rfl⟩
  have HM := hidK hmm
  have HU := hidK hu
  obtain ⟨R, hR⟩ : ∃ R, R = decide (i ∈ J) := ⟨_, rfl⟩
  have HR := hidK hR
  rw [← hR]
  subst q2
  rw [← hmm] at ⊢ HU hjl
  clear hu hmm hR
  go_enter Try.func55, Try.ntmps55
  go_wp2
  go_loopw [5] (fun c wx => ∃ k : Nat, c = .int .i64 k ∧ k ≤ m ∧ i ∉ J.take k ∧ Below w.heap.size w wx) (fun c _ => m - (intOf c).toNat)
  case atStart => exact ⟨0, rfl, Nat.zero_le _, by simp, Below.refl _ _⟩
  case round =>
    obtain ⟨k, rfl, hkn, hno, hB⟩ := hrel
    have HNO := hidK hno
    clear hno
    by_cases hk : k < m
    · have kI : (k : Int) < (m : Int) := by omega
      have k0 : (0 : Int) ≤ (k : Int) := by omega
      have hkl : k < (J.map Int.ofNat).length := by rw [List.length_map]; have := HM.out; omega
      obtain ⟨x, hx⟩ : ∃ x, (J.map Int.ofNat)[k]? = some x := ⟨_, List.getElem?_eq_getElem hkl⟩
      obtain ⟨b1, o1, p1, e1, d0⟩ := (HU.out.on hB).nm hx
      obtain ⟨j, hjx, rfl⟩ := natList hx
      have HX := hidK hjx
      rw [List.length_map, ← HM.out] at e1
      injection e1 with e1 e1b e1c
      subst e1
      clear hx hkl e1b e1c HU hjx
      by_cases hq : j = i
      · subst hq
        have HE : Hid (R = true) := by show _ = _; rw [HR.out, decide_eq_true (List.mem_of_getElem? HX.out)]
        go_wp2
        go_ret
        exact ⟨by rw [HE.out]; rfl, hB⟩
      · have hq2 : ¬ ((j : Int) = (i : Int)) := by omega
        have HQ := hidK hq
        clear hq
        go_wp2
        go_roundw
        case rel =>
          refine ⟨k + 1, by go_num, by omega, ?_, hB⟩
          rw [takeSucc HX.out, List.mem_append]
          rintro (e | e)
          · exact HNO.out e
          · exact HQ.out (List.mem_singleton.1 e).symm
        case measure => simp [intOf]; omega
    · obtain rfl : k = m := by omega
      have HE : Hid (R = false) := by
        show _ = _
        have := HNO.out
        rw [List.take_of_length_le (by have := HM.out; omega)] at this
        rw [HR.out, decide_eq_false this]
      clear HU
      go_wp2
      go_ret
      exact ⟨by rw [HE.out]; rfl, hB⟩
set_option maxHeartbeats 8000000 in
theorem parted_c (v u : Value) (L : List Mx) (J : List Nat) (w : World) (h : RowM w v L) (hu : RowI w u (J.map Int.ofNat)) (hl : L.length ≤ 16777216) (hj : ∀ j ∈ J, j < L.length) (hjl : J.length ≤ 16777216) :
    Calls Try.prog 38 #[v, u] w fun e w' => ∃ x y, e = .returned (.tuple #[x, y]) ∧ OwnM w.heap.size w' x (takenA L J) ∧ OwnM w.heap.size w' y (othersA L J) ∧ Below w.heap.size w w' := by
  obtain ⟨a1, c1, q1, _, _⟩ := h.form
  obtain ⟨a2, c2, q2, _, _⟩ := hu.form
  rw [List.length_map] at q2
  obtain ⟨i0, hi, hz0, hz1, hz2⟩ := info_parts infoMx
  obtain ⟨n, hnn⟩ : ∃ n, n = L.length := ⟨_, rfl⟩
  obtain ⟨m, hmm⟩ : ∃ m, m = J.length := ⟨_, rfl⟩
  have HN := hidK hnn
  have HM := hidK hmm
  have HV := hidK h
  have HU := hidK hu
  have HJ := hidK hj
  subst q1
  subst q2
  rw [← hnn] at hl ⊢ HV
  rw [← hmm] at ⊢ HU hjl
  clear h hu hnn hmm hj
  go_enter Try.func38, Try.ntmps38
  go_wp2
  go_loopw [6, 8] (fun o i wx => ∃ k : Nat, i = .int .i64 k ∧ k ≤ m ∧ OwnM w.heap.size wx o (takenA L (J.take k)) ∧ Below w.heap.size w wx) (fun _ i _ => m - (intOf i).toNat)
  case atStart => exact ⟨0, rfl, Nat.zero_le _, ⟨rfl, .inl ⟨rfl, rfl⟩⟩, Below.refl _ _⟩
  case round =>
    obtain ⟨k, rfl, hkn, ho, hB⟩ := hrel
    have HO := hidK ho
    clear ho
    by_cases hk : k < m
    · have kI : (k : Int) < (m : Int) := by omega
      have k0 : (0 : Int) ≤ (k : Int) := by omega
      have hkl : k < (J.map Int.ofNat).length := by rw [List.length_map]; have := HM.out; omega
      obtain ⟨x, hx⟩ : ∃ x, (J.map Int.ofNat)[k]? = some x := ⟨_, List.getElem?_eq_getElem hkl⟩
      obtain ⟨b1, o1, p1, e1, d0⟩ := (HU.out.on hB).nm hx
      obtain ⟨j, hjx, rfl⟩ := natList hx
      have hjn : j < n := by have := HJ.out j (List.mem_of_getElem? hjx); have := HN.out; omega
      have HX := hidK hjx
      have j0 : (0 : Int) ≤ (j : Int) := by omega
      have jI : (j : Int) < (n : Int) := by omega
      rw [List.length_map, ← HM.out] at e1
      injection e1 with e1 e1b e1c
      subst e1
      have hjl2 : j < L.length := by have := HN.out; omega
      obtain ⟨⟨dd, uu, gg, mm, nn, zz, dt⟩, hy⟩ : ∃ x, L[j]? = some x := ⟨_, List.getElem?_eq_getElem hjl2⟩
      obtain ⟨b2, o2, p2, e2, f0, f1, f2, f3, f4, f5, f6⟩ := (HV.out.on hB).mx hy
      have HY := hidK hy
      injection e2 with e2 e2b e2c
      subst e2
      have HL : Hid ((takenA L (J.take k)).length = k) := by
        show _ = _
        rw [takenA_len (fun i hi => HJ.out i (List.mem_of_mem_take hi)), lenTake (by have := HM.out; omega)]
      have ho : wr.ownsRow w.heap.size 29 7 u6 k ((takenA L (J.take k)).flatMap mxL) := ownM_form HL.out HO.out
      clear hx hkl e1b e1c e2b e2c HV HU hjx hy hjl2 HO
      go_wp2_with (refine wpList_append_own _ rfl (.tmp 17) (.tmp 25) 22 rfl (w.heap.size) 29 i0 (.agg #[.int .i64 0, .int .i64 0, .int .i64 0, .int .i64 0, .string ⟨#[]⟩, .int .i64 0, .string ⟨#[]⟩]) 7 72 Try.underlying22 hi hz0 hz1 hz2 rfl (by decide) u6 k ((takenA L (J.take k)).flatMap mxL) rfl (own_upK ho _) ⟨wr.heap.size, 0, none⟩ 1 1 (mxL ⟨dd, uu, gg, mm, nn, zz, dt⟩) rfl rfl (new_rowK wr (mxL ⟨dd, uu, gg, mm, nn, zz, dt⟩).toArray 29 (mxL ⟨dd, uu, gg, mm, nn, zz, dt⟩) rfl) (mxL_one ⟨dd, uu, gg, mm, nn, zz, dt⟩) (by unfold maxLen; omega) (by omega) (by rw [World.size_alloc]; have := (hB).size; omega) ?_; intro v2 w2 o2 g2 _; have HB2 := hidK (below_grow (bupK hB (.cells (mxL ⟨dd, uu, gg, mm, nn, zz, dt⟩).toArray 29)) g2 (own_upK ho _) (Nat.le_refl _)); have HO2 := hidK o2; clear o2 g2 ho)
      go_roundw
      case rel =>
        refine ⟨k + 1, by go_num, by omega, ?_, HB2.out⟩
        rw [takeSucc HX.out, takenA_snoc HY.out]
        exact own_push HL.out.symm HO2.out
      case measure => simp [intOf]; omega
    · obtain rfl : k = m := by omega
      have HT : Hid (OwnM w.heap.size wr u6 (takenA L J)) := by
        have := HO.out
        rwa [List.take_of_length_le (by have := HM.out; omega)] at this
      obtain ⟨B2, hB2⟩ : ∃ B2, B2 = wr.heap.size := ⟨_, rfl⟩
      have HS2 : Hid (B2 ≤ wr.heap.size) := by rw [hB2]; exact Nat.le_refl _
      have hWB : w.heap.size ≤ B2 := by rw [hB2]; exact hB.size
      have HTL : Hid (∀ g, u6.ownBlock = some g → g < B2) := by
        intro g hg; rw [hB2]; exact own_ltK HT.out g hg
      have HB0 := hidK hB
      clear HO hB hB2
      go_wp2
      go_loopw [7, 9] (fun o i wx => ∃ k : Nat, i = .int .i64 k ∧ k ≤ n ∧ OwnM w.heap.size wx u6 (takenA L J) ∧ OwnM B2 wx o (othersTo L J k) ∧ B2 ≤ wx.heap.size ∧ Below w.heap.size w wx) (fun _ i _ => n - (intOf i).toNat)
      case atStart => exact ⟨0, rfl, Nat.zero_le _, HT.out, ⟨rfl, .inl ⟨rfl, rfl⟩⟩, HS2.out, HB0.out⟩
      case round =>
        clear HT HS2 HB0 hk hkn
        rename_i kq _
        obtain ⟨k, rfl, hkn, ht, ho, hB2, hB⟩ := hrel
        have HO := hidK ho
        have HT := hidK ht
        clear ho ht
        by_cases hk : k < n
        · have kI : (k : Int) < (n : Int) := by omega
          have k0 : (0 : Int) ≤ (k : Int) := by omega
          have hkl : k < L.length := by have := HN.out; omega
          have HH := hidK (holds_c _ J k wr (HU.out.on hB) (by have := HM.out; omega))
          go_upto_region 11 with (go_at_call 55; refine HH.out.mono ?_; rintro e w3 ⟨rfl, hb3⟩)
          obtain ⟨⟨dd, uu, gg, mm, nn, zz, dt⟩, hx⟩ : ∃ x, L[k]? = some x := ⟨_, List.getElem?_eq_getElem hkl⟩
          have hB3 := bel3K hB hb3
          obtain ⟨b1, o1, p1, e1, d0, d1, d2, d3, d4, d5, d6⟩ := (HV.out.on hB3).mx hx
          have HX := hidK hx
          injection e1 with e1 e1b e1c
          subst e1
          obtain ⟨lo, hlo⟩ : ∃ lo, (othersTo L J k).length = lo := ⟨_, rfl⟩
          have hlb : lo ≤ 16777216 := by rw [← hlo]; exact Nat.le_trans (othersTo_len _ _ _) (by omega)
          have HLO := hidK hlo
          have hB23 : B2 ≤ w3.heap.size := Nat.le_trans hB2 hb3.size
          have ho : w3.ownsRow B2 29 7 u7 lo ((othersTo L J k).flatMap mxL) := ownM_form hlo (HO.out.on hb3)
          have HT3 := hidK (HT.out.on hb3)
          clear hx hkl e1b e1c HV hlo HO HT hb3 hB HH hB2
          by_cases hin : k ∈ J
          · have HI := hidK (othersTo_in (L := L) hin)
            rw [decide_eq_true hin]
            clear hin
            go_wp2
            go_roundw
            case rel =>
              refine ⟨k + 1, by go_num, by omega, HT3.out, ?_, hB23, hB3⟩
              rw [HI.out]; unfold OwnM; rw [HLO.out]; exact ho
            case measure => simp [intOf]; omega
          · have HI := hidK (othersTo_out hin HX.out)
            rw [decide_eq_false hin]
            clear hin
            go_wp2_with (refine wpList_append_own _ rfl (.tmp 38) (.tmp 43) 22 rfl (B2) 29 i0 (.agg #[.int .i64 0, .int .i64 0, .int .i64 0, .int .i64 0, .string ⟨#[]⟩, .int .i64 0, .string ⟨#[]⟩]) 7 72 Try.underlying22 hi hz0 hz1 hz2 rfl (by decide) u7 lo ((othersTo L J k).flatMap mxL) rfl (own_upK ho _) ⟨w3.heap.size, 0, none⟩ 1 1 (mxL ⟨dd, uu, gg, mm, nn, zz, dt⟩) rfl rfl (new_rowK w3 (mxL ⟨dd, uu, gg, mm, nn, zz, dt⟩).toArray 29 (mxL ⟨dd, uu, gg, mm, nn, zz, dt⟩) rfl) (mxL_one ⟨dd, uu, gg, mm, nn, zz, dt⟩) (by unfold maxLen; omega) (by omega) (by rw [World.size_alloc]; have := (hB3).size; omega) ?_; intro v2 w5 o2 g2 _; have HK := hidK (fun g hg => kept_low (own_upK ho (.cells (mxL ⟨dd, uu, gg, mm, nn, zz, dt⟩).toArray 29)) g2 (g := g) hg hB23); have HB2 := hidK (below_row (bupK2 hB3 (.cells (mxL ⟨dd, uu, gg, mm, nn, zz, dt⟩).toArray 29)) g2 (own_upK ho (.cells (mxL ⟨dd, uu, gg, mm, nn, zz, dt⟩).toArray 29)) hWB (Nat.le_refl _)); have HS2 := hidK (Nat.le_trans hB23 (size_up g2)); have HO2 := hidK o2; clear o2 g2 ho)
            go_roundw
            case rel =>
              refine ⟨k + 1, by go_num, by omega, ownG_kept HT3.out (fun g hg => HK.out g (HTL.out g hg)), ?_, HS2.out, HB2.out⟩
              rw [HI.out]; exact own_push HLO.out.symm HO2.out
            case measure => simp [intOf]; omega
        · obtain rfl : k = n := by omega
          have HE : Hid (othersTo L J k = othersA L J) := by show _ = _; unfold othersA; rw [← HN.out]
          clear HV HU
          go_wp2
          go_ret2
          exact ⟨_, _, rfl, HT.out, by rw [← HE.out]; exact HO.out.le hWB, hB⟩
end Go.Proofs.Ytaaagdmhokgcjab
