
-- The document's Select.
import Derived.Test.YtaaagdmhokgcjaaR1
namespace Go.Proofs.Ytaaagdmhokgcjaa
open Go.ChangeShapes Go.WideShapes Go.ChangeAt Go.RowKit
set_option linter.unusedVariables false
set_option maxRecDepth 100000
set_option linter.unusedSimpArgs false
theorem ownI_form {B n : Nat} {w : World} {v : Value} {L : List Int} (hn : L.length = n) (h : OwnI B w v L) : w.ownsRow B 3 1 v n (L.flatMap nmL) := by subst hn; exact h
theorem ownT_form {B n : Nat} {w : World} {v : Value} {L : List ByteArray} (hn : L.length = n) (h : OwnT B w v L) : w.ownsRow B 9 1 v n (L.flatMap txL) := by subst hn; exact h
theorem ownM_form {B n : Nat} {w : World} {v : Value} {L : List Mx} (hn : L.length = n) (h : OwnM B w v L) : w.ownsRow B 32 7 v n (L.flatMap mxL) := by subst hn; exact h
set_option maxHeartbeats 4000000 in
theorem rselect_c (v u : Value) (L : List Mx) (Q : List ByteArray) (w : World) (h : RowM w v L) (hu : RowT w u Q) (hl : L.length ≤ 16777216) (hn : Q.length ≤ 16777216) :
    Calls Try.prog 22 #[v, u] w fun e w' => ∃ x y, e = .returned (.tuple #[x, y]) ∧ OwnI w.heap.size w' x (fnd (nms L) Q Q.length) ∧ OwnT w.heap.size w' y (mis (nms L) Q Q.length) ∧ Below w.heap.size w w' := by
  obtain ⟨a1, c1, q1, _, _⟩ := h.form
  obtain ⟨a2, c2, q2, _, _⟩ := hu.form
  obtain ⟨is, hsi, hs0, hs1, hs2⟩ := info_parts infoTx
  obtain ⟨in_, hni, hn0, hn1, hn2⟩ := info_parts infoNm
  obtain ⟨m, hmm⟩ : ∃ m, m = Q.length := ⟨_, rfl⟩
  have HN := hidK hmm
  have HV := hidK h
  have HU := hidK hu
  have HL := hidK hl
  subst q1
  subst q2
  rw [← hmm] at hn HU ⊢
  clear h hu hmm hl
  go_enter Try.func22, Try.ntmps22
  go_wp2
  go_loopw [6, 7, 8] (fun x y i wx => ∃ k : Nat, i = .int .i64 k ∧ k ≤ m ∧ OwnI w.heap.size wx x (fnd (nms L) Q k) ∧ OwnT w.heap.size wx y (mis (nms L) Q k) ∧ Below w.heap.size w wx) (fun _ _ i _ => m - (intOf i).toNat)
  case atStart => exact ⟨0, rfl, Nat.zero_le _, ⟨rfl, .inl ⟨rfl, rfl⟩⟩, ⟨rfl, .inl ⟨rfl, rfl⟩⟩, Below.refl _ _⟩
  case round =>
    obtain ⟨k, rfl, hkn, hf, hg, hB⟩ := hrel
    have HF := hidK hf
    have HG := hidK hg
    clear hf hg
    by_cases hk : k < m
    · have kI : (k : Int) < (m : Int) := by omega
      have k0 : (0 : Int) ≤ (k : Int) := by omega
      have hkl : k < Q.length := by have := HN.out; omega
      obtain ⟨x, hx⟩ : ∃ x, Q[k]? = some x := ⟨_, List.getElem?_eq_getElem hkl⟩
      obtain ⟨b1, o1, p1, e1, d0⟩ := (HU.out.on hB).tx hx
      have HX := hidK hx
      have HAH := hidK (ahead_c _ Q k x wr (HU.out.on hB) (by omega) (by have := HN.out; omega))
      injection e1 with e1 e1b e1c
      subst e1
      obtain ⟨c, hc⟩ : ∃ c, c = cnt (Q.take k) x := ⟨_, rfl⟩
      have HC := hidK hc
      have hcb : c ≤ 16777216 := by rw [hc]; exact Nat.le_trans (cnt_le _ _) (by rw [List.length_take]; omega)
      rw [← hc] at HAH
      clear hx hkl e1b e1c hc
      go_upto_region 7 with (go_at_call 33; refine HAH.out.mono ?_; rintro e w3 ⟨rfl, hb3⟩)
      have d3 := cell_onA d0 hb3
      have hB3 := bel3K hB hb3
      have HF3 := hidK (HF.out.on hb3)
      have HG3 := hidK (HG.out.on hb3)
      clear hb3 d0 hB HF HG HAH
      have HNT := hidK (nth_c _ L x c w3 (HV.out.on hB3) hcb HL.out)
      obtain ⟨r, hr⟩ : ∃ r, r = nthI (nms L) x c := ⟨_, rfl⟩
      have HR := hidK hr
      rw [← hr] at HNT
      clear hr
      go_upto_region 8 with (go_at_call 34; refine HNT.out.mono ?_; rintro e w4 ⟨rfl, hb4⟩)
      have d4 := cell_onA d3 hb4
      have hB4 := bel3K hB3 hb4
      have HF4 := hidK (HF3.out.on hb4)
      have HG4 := hidK (HG3.out.on hb4)
      clear hb4 d3 hB3 HF3 HG3 HNT
      obtain ⟨lf, hlf⟩ : ∃ lf, (fnd (nms L) Q k).length = lf := ⟨_, rfl⟩
      obtain ⟨lm, hlm⟩ : ∃ lm, (mis (nms L) Q k).length = lm := ⟨_, rfl⟩
      have bf : lf ≤ 16777216 := by rw [← hlf]; exact Nat.le_trans (fnd_len _ _ _) (by omega)
      have bm : lm ≤ 16777216 := by rw [← hlm]; exact Nat.le_trans (mis_len _ _ _) (by omega)
      have HLF := hidK hlf
      have HLM := hidK hlm
      have hf4 := ownI_form hlf HF4.out
      have hm4 := ownT_form hlm HG4.out
      clear hlf hlm HF4 HG4
      cases hno : nthO (nms L) x c with
      | none =>
        have hr : r = -1 := by rw [HR.out]; exact nthI_none hno
        have HS := hidK (sel_none (N := nms L) HX.out (by rw [← HC.out]; exact hno))
        subst hr
        clear HR hno HC
        go_wp2_with (refine wpList_append_own _ rfl (.tmp 33) (.tmp 38) 23 rfl (w.heap.size) 9 is (.string ⟨#[]⟩) 1 16 Try.underlying23 hsi hs0 hs1 hs2 rfl (by decide) u7 lm ((mis (nms L) Q k).flatMap txL) rfl (own_upK hm4 _) ⟨w4.heap.size, 0, none⟩ 1 1 (txL x) rfl rfl (new_rowK w4 (txL x).toArray 9 (txL x) rfl) (txL_one x) (by unfold maxLen; omega) (by omega) (by rw [World.size_alloc]; have := (hB4).size; omega) ?_; intro v2 w5 o2 g2 _; have HB2 := hidK (below_grow (bupK hB4 (.cells (txL x).toArray 9)) g2 (own_upK hm4 _) (Nat.le_refl _)); have HO2 := hidK o2; have hne := own_ty (own_upK hf4 (.cells (txL x).toArray 9)) (own_upK hm4 (.cells (txL x).toArray 9)) (show (9 : TypeId) ≠ 3 by decide); have HF2 := hidK (own_ne (own_upK hf4 (.cells (txL x).toArray 9)) hne g2); clear hne; clear o2 g2 hf4 hm4)
        go_roundw
        case rel =>
          refine ⟨k + 1, by go_num, by omega, ?_, ?_, HB2.out⟩
          · rw [HS.out.1]; have h2 := HF2.out; rw [← HLF.out] at h2; exact h2
          · rw [HS.out.2]; exact own_pushT HLM.out.symm HO2.out
        case measure => simp [intOf]; omega
      | some j =>
        have hr : r = (j : Int) := by rw [HR.out]; exact nthI_some hno
        have HS := hidK (sel_some (N := nms L) HX.out (by rw [← HC.out]; exact hno))
        have j0 : ¬ ((j : Int) < 0) := by omega
        have hjb : j ≤ 16777216 := by have := (nthO_lt hno).1; rw [List.length_map] at this; have := HL.out; omega
        subst hr
        clear HR hno HC
        go_wp2_with (refine wpList_append_own _ rfl (.tmp 40) (.tmp 42) 24 rfl (w.heap.size) 3 in_ (.int .i64 0) 1 8 Try.underlying24 hni hn0 hn1 hn2 rfl (by decide) u6 lf ((fnd (nms L) Q k).flatMap nmL) rfl (own_upK hf4 _) ⟨w4.heap.size, 0, none⟩ 1 1 (nmL (j : Int)) rfl rfl (new_rowK w4 (nmL (j : Int)).toArray 3 (nmL (j : Int)) rfl) (nmL_one (j : Int)) (by unfold maxLen; omega) (by omega) (by rw [World.size_alloc]; have := (hB4).size; omega) ?_; intro v2 w5 o2 g2 _; have HB2 := hidK (below_grow (bupK hB4 (.cells (nmL (j : Int)).toArray 3)) g2 (own_upK hf4 _) (Nat.le_refl _)); have HO2 := hidK o2; have hne := own_ty (own_upK hm4 (.cells (nmL (j : Int)).toArray 3)) (own_upK hf4 (.cells (nmL (j : Int)).toArray 3)) (show (3 : TypeId) ≠ 9 by decide); have HM2 := hidK (own_ne (own_upK hm4 (.cells (nmL (j : Int)).toArray 3)) hne g2); clear hne; clear o2 g2 hf4 hm4)
        go_roundw
        case rel =>
          refine ⟨k + 1, by go_num, by omega, ?_, ?_, HB2.out⟩
          · rw [HS.out.1]; exact own_pushI HLF.out.symm HO2.out
          · rw [HS.out.2]; have h2 := HM2.out; rw [← HLM.out] at h2; exact h2
        case measure => simp [intOf]; omega
    · obtain rfl : k = m := by omega
      clear HV HU
      go_wp2
      go_ret2
      exact ⟨_, _, rfl, HF.out, HG.out, hB⟩
end Go.Proofs.Ytaaagdmhokgcjaa
