
-- ops.Select: a contract.
import Derived.Test.YtaaagdmhokgcjaaS1
namespace Go.Proofs.Ytaaagdmhokgcjaa
open Go.ChangeShapes Go.WideShapes Go.ChangeAt Go.RowKit
set_option linter.unusedVariables false
set_option maxRecDepth 100000
set_option linter.unusedSimpArgs false
theorem kept_low {B g : Nat} {w w5 : World} {o : Obj} {e s n : Nat} {v : Value} {xs : List Value} (ho : (w.alloc o).ownsRow B e s v n xs) (g2 : (w.alloc o).grownBy w5 v.ownBlock) (hg : g < B) (hB : B ≤ w.heap.size) : w5.heap[g]? = w.heap[g]? :=
  (g2.block g (by rw [World.size_alloc]; omega) (fun e => by have := (ho.lt g e.symm).1; omega)).trans (Below.heap_alloc w o g (by omega))
theorem below_row {B B1 : Nat} {a b c : World} {e s n : Nat} {v : Value} {xs : List Value} (h : Below B a b) (g2 : b.grownBy c v.ownBlock) (ho : b.ownsRow B1 e s v n xs) (hB : B ≤ B1) (ha : B ≤ a.heap.size) : Below B a c :=
  h.trans ⟨g2.os, g2.tape, g2.output, g2.size, fun j hj => g2.block j (Nat.lt_of_lt_of_le hj (Nat.le_trans ha h.size)) (fun e => by have := (ho.lt j e.symm).1; omega)⟩
theorem size_up {w w5 : World} {o : Obj} {r : Option Nat} (g2 : (w.alloc o).grownBy w5 r) : w.heap.size ≤ w5.heap.size := by
  have := g2.size; rw [World.size_alloc] at this; omega
theorem own_turned {B b : Nat} {w w' : World} {e s n : Nat} {v : Value} {xs : List Value} (h : w.ownsRow B e s v n xs) (ht : Turned w w' b) (hb : b < B) : w'.ownsRow B e s v n xs :=
  ownG_kept h (fun g hg => ht.other (fun e => by have := (h.lt g hg).1; omega))
set_option maxHeartbeats 8000000 in
theorem select_c (v u : Value) (L : List Mx) (Q : List ByteArray) (w : World) (h : RowM w v L) (hu : RowT w u Q) (hl : L.length ≤ 16777216) (hn : Q.length ≤ 16777216) :
    Calls Try.prog 9 #[v, u] w fun e w' => ∃ x y, e = .returned (.tuple #[x, y]) ∧ OwnI w.heap.size w' x (fnd (nms L) Q Q.length) ∧ OwnT w.heap.size w' y (mis (nms L) Q Q.length) ∧ Below w.heap.size w w' := by
  obtain ⟨a1, c1, q1, _, _⟩ := h.form
  obtain ⟨a2, c2, q2, _, _⟩ := hu.form
  obtain ⟨is, hsi, hs0, hs1, hs2⟩ := info_parts infoTx
  obtain ⟨in_, hni, hn0, hn1, hn2⟩ := info_parts infoNm
  obtain ⟨m, hmm⟩ : ∃ m, m = Q.length := ⟨_, rfl⟩
  have HN := hidK hmm
  have HNB := hidK (numbers_c v L w h hl)
  have HU := hidK hu
  have HL := hidK hl
  subst q1
  subst q2
  rw [← hmm] at hn HU ⊢
  clear h hu hmm hl
  obtain ⟨gm, hgm⟩ : ∃ gm, gm = w.heap.size := ⟨_, rfl⟩
  have HGM := hidK hgm
  obtain ⟨nl, hnl⟩ : ∃ nl, nl = L.length := ⟨_, rfl⟩
  have HNL := hidK hnl
  rw [← hnl] at HNB HL ⊢
  clear hnl
  go_enter Try.func9, Try.ntmps9
  go_upto_region 2 with (go_at_call 27; refine HNB.out.mono ?_; rintro e w1 ⟨rfl, hM1, hR1, hb1⟩)
  rw [← hgm] at hM1 hR1 ⊢
  have HB1 := hidK hb1
  have HM1 := hidK hM1
  have HR1 := hidK hR1
  obtain ⟨B1, hB1e⟩ : ∃ B1, B1 = w1.heap.size := ⟨_, rfl⟩
  have hgn1 : gm + 1 < B1 := by rw [hB1e]; exact (Array.getElem?_eq_some_iff.1 hR1).1
  have hB0 : w.heap.size ≤ B1 := by rw [hB1e]; exact hb1.size
  have HBE := hidK hB1e
  clear hb1 hM1 hR1 HNB hB1e hgm
  go_wp2
  go_loopw [8, 9, 21] (fun x y i wx => ∃ k : Nat, i = .int .i64 k ∧ k ≤ m ∧ OwnI B1 wx x (fnd (nms L) Q k) ∧ OwnT B1 wx y (mis (nms L) Q k) ∧ MapF wx gm (leadF (nms L) Q k) ∧ wx.heap[gm + 1]? = some (.cells ((nexts (nms L)).flatMap nmL).toArray 3 (0, 0)) ∧ B1 ≤ wx.heap.size ∧ Below w.heap.size w wx) (fun _ _ i _ => m - (intOf i).toNat)
  case atStart => exact ⟨0, rfl, Nat.zero_le _, ⟨rfl, .inl ⟨rfl, rfl⟩⟩, ⟨rfl, .inl ⟨rfl, rfl⟩⟩, by rw [← fromF_zero]; exact HM1.out, HR1.out, by rw [HBE.out]; exact Nat.le_refl _, HB1.out⟩
  case round =>
    clear HM1 HR1 HB1 HBE
    obtain ⟨k, rfl, hkn, hf, hg, hM, hR, hB1, hB⟩ := hrel
    have HF := hidK hf
    have HG := hidK hg
    have HM := hidK hM
    have HR := hidK hR
    clear hf hg hM hR
    by_cases hk : k < m
    · have kI : (k : Int) < (m : Int) := by omega
      have k0 : (0 : Int) ≤ (k : Int) := by omega
      have hkl : k < Q.length := by have := HN.out; omega
      obtain ⟨x, hx⟩ : ∃ x, Q[k]? = some x := ⟨_, List.getElem?_eq_getElem hkl⟩
      obtain ⟨b1, o1, p1, e1, d0⟩ := (HU.out.on hB).tx hx
      have HX := hidK hx
      injection e1 with e1 e1b e1c
      subst e1
      clear hx hkl e1b e1c
      obtain ⟨lf, hlf⟩ : ∃ lf, (fnd (nms L) Q k).length = lf := ⟨_, rfl⟩
      obtain ⟨lm, hlm⟩ : ∃ lm, (mis (nms L) Q k).length = lm := ⟨_, rfl⟩
      have bf : lf ≤ 16777216 := by rw [← hlf]; exact Nat.le_trans (fnd_len _ _ _) (by omega)
      have bm : lm ≤ 16777216 := by rw [← hlm]; exact Nat.le_trans (mis_len _ _ _) (by omega)
      have HLF := hidK hlf
      have HLM := hidK hlm
      have hf4 := ownI_form hlf HF.out
      have hm4 := ownT_form hlm HG.out
      clear hlf hlm HF HG
      have hz3 := Try.zeroValue3
      cases hno : nthO (nms L) x (cnt (Q.take k) x) with
      | none =>
        cases h0 : nthO (nms L) x 0 with
        | none =>
          have hle : leadF (nms L) Q k x = none := by unfold leadF; rw [h0]; rfl
          have hlk := HM.out.look_no (P := Try.prog) (t := 57) Try.underlying57 Try.underlying9 (hz3 _) hle
          clear h0 hle hz3
          have HS := hidK (sel_none (N := nms L) HX.out hno)
          have HLD := hidK (leadF_no (N := nms L) HX.out hno)
          clear hno
          go_wp2_with (refine wpList_append_own _ rfl (.tmp 37) (.tmp 39) 23 rfl (B1) 9 is (.string ⟨#[]⟩) 1 16 Try.underlying23 hsi hs0 hs1 hs2 rfl (by decide) u9 lm ((mis (nms L) Q k).flatMap txL) rfl (own_upK hm4 _) ⟨wr.heap.size, 0, none⟩ 1 1 (txL x) rfl rfl (new_rowK wr (txL x).toArray 9 (txL x) rfl) (txL_one x) (by unfold maxLen; omega) (by omega) (by rw [World.size_alloc]; have := (hB).size; omega) ?_; intro v2 w5 o2 g2 _; have HK := hidK (fun g hg => kept_low (own_upK hm4 (.cells (txL x).toArray 9)) g2 (g := g) hg hB1); have HB2 := hidK (below_row (bupK hB (.cells (txL x).toArray 9)) g2 (own_upK hm4 (.cells (txL x).toArray 9)) hB0 (Nat.le_refl _)); have HO2 := hidK o2; have hne := own_ty (own_upK hf4 (.cells (txL x).toArray 9)) (own_upK hm4 (.cells (txL x).toArray 9)) (show (9 : TypeId) ≠ 3 by decide); have HF2 := hidK (own_ne (own_upK hf4 (.cells (txL x).toArray 9)) hne g2); have HS2 := hidK (Nat.le_trans hB1 (size_up g2)); clear hne o2 g2 hf4 hm4)
          go_roundw
          case rel =>
            refine ⟨k + 1, by go_num, by omega, ?_, ?_, ?_, ?_, HS2.out, HB2.out⟩
            · rw [HS.out.1]; have h2 := HF2.out; rw [← HLF.out] at h2; exact h2
            · rw [HS.out.2]; exact own_pushT HLM.out.symm HO2.out
            · rw [HLD.out]; exact HM.out.keep (HK.out _ (by omega))
            · exact (HK.out _ (by omega)).trans HR.out
          case measure => simp [intOf]; omega
        | some i0 =>
          have hle : leadF (nms L) Q k x = some (-1) := by unfold leadF; rw [h0, nthI_none hno]; rfl
          have hlk := HM.out.look (P := Try.prog) (t := 57) Try.underlying57 Try.underlying9 hle
          clear h0 hle hz3
          have HS := hidK (sel_none (N := nms L) HX.out hno)
          have HLD := hidK (leadF_no (N := nms L) HX.out hno)
          clear hno
          go_wp2_with (refine wpList_append_own _ rfl (.tmp 37) (.tmp 39) 23 rfl (B1) 9 is (.string ⟨#[]⟩) 1 16 Try.underlying23 hsi hs0 hs1 hs2 rfl (by decide) u9 lm ((mis (nms L) Q k).flatMap txL) rfl (own_upK hm4 _) ⟨wr.heap.size, 0, none⟩ 1 1 (txL x) rfl rfl (new_rowK wr (txL x).toArray 9 (txL x) rfl) (txL_one x) (by unfold maxLen; omega) (by omega) (by rw [World.size_alloc]; have := (hB).size; omega) ?_; intro v2 w5 o2 g2 _; have HK := hidK (fun g hg => kept_low (own_upK hm4 (.cells (txL x).toArray 9)) g2 (g := g) hg hB1); have HB2 := hidK (below_row (bupK hB (.cells (txL x).toArray 9)) g2 (own_upK hm4 (.cells (txL x).toArray 9)) hB0 (Nat.le_refl _)); have HO2 := hidK o2; have hne := own_ty (own_upK hf4 (.cells (txL x).toArray 9)) (own_upK hm4 (.cells (txL x).toArray 9)) (show (9 : TypeId) ≠ 3 by decide); have HF2 := hidK (own_ne (own_upK hf4 (.cells (txL x).toArray 9)) hne g2); have HS2 := hidK (Nat.le_trans hB1 (size_up g2)); clear hne o2 g2 hf4 hm4)
          go_roundw
          case rel =>
            refine ⟨k + 1, by go_num, by omega, ?_, ?_, ?_, ?_, HS2.out, HB2.out⟩
            · rw [HS.out.1]; have h2 := HF2.out; rw [← HLF.out] at h2; exact h2
            · rw [HS.out.2]; exact own_pushT HLM.out.symm HO2.out
            · rw [HLD.out]; exact HM.out.keep (HK.out _ (by omega))
            · exact (HK.out _ (by omega)).trans HR.out
          case measure => simp [intOf]; omega
      | some j =>
        obtain ⟨i0, h0⟩ := nthO_has hno
        have hle : leadF (nms L) Q k x = some (j : Int) := by unfold leadF; rw [h0, nthI_some hno]; rfl
        have hlk := HM.out.look (P := Try.prog) (t := 57) Try.underlying57 Try.underlying9 hle
        have HS := hidK (sel_some (N := nms L) HX.out hno)
        have HLD := hidK (leadF_yes (N := nms L) HX.out hno)
        have hjb : j < nl := by have := (nthO_lt hno).1; rw [List.length_map] at this; have := HNL.out; omega
        have hnl2 := HL.out
        have j0 : (0 : Int) ≤ (j : Int) := by omega
        have j1 : ¬ ((j : Int) = -1) := by omega
        have jI : (j : Int) < (nl : Int) := by omega
        have HNX : Hid ((nexts (nms L))[j]? = some (nextI (nms L) j)) := nexts_get (nthO_lt hno).1
        obtain ⟨y, hy⟩ : ∃ y, y = nextI (nms L) j := ⟨_, rfl⟩
        have HY := hidK hy
        clear hno h0 hle hz3 hy
        go_upto_region 11 with (refine wpList_append_own _ rfl (.tmp 41) (.tmp 43) 24 rfl (B1) 3 in_ (.int .i64 0) 1 8 Try.underlying24 hni hn0 hn1 hn2 rfl (by decide) u8 lf ((fnd (nms L) Q k).flatMap nmL) rfl (own_upK hf4 _) ⟨wr.heap.size, 0, none⟩ 1 1 (nmL (j : Int)) rfl rfl (new_rowK wr (nmL (j : Int)).toArray 3 (nmL (j : Int)) rfl) (nmL_one (j : Int)) (by unfold maxLen; omega) (by omega) (by rw [World.size_alloc]; have := (hB).size; omega) ?_; intro v2 w5 o2 g2 _; have HK := hidK (fun g hg => kept_low (own_upK hf4 (.cells (nmL (j : Int)).toArray 3)) g2 (g := g) hg hB1); have HB2 := hidK (below_row (bupK hB (.cells (nmL (j : Int)).toArray 3)) g2 (own_upK hf4 (.cells (nmL (j : Int)).toArray 3)) hB0 (Nat.le_refl _)); have HO2 := hidK o2; have hne := own_ty (own_upK hm4 (.cells (nmL (j : Int)).toArray 3)) (own_upK hf4 (.cells (nmL (j : Int)).toArray 3)) (show (3 : TypeId) ≠ 9 by decide); have HM2 := hidK (own_ne (own_upK hm4 (.cells (nmL (j : Int)).toArray 3)) hne g2); have HS2 := hidK (Nat.le_trans hB1 (size_up g2)); clear hne o2 g2 hf4 hm4)
        have HM5 := hidK (HM.out.keep (HK.out gm (by omega)))
        have HR5 := hidK ((HK.out (gm + 1) (by omega)).trans HR.out)
        have hcy : w5.cell? ⟨gm + 1, j, none⟩ = some (.int .i64 y) := by
          refine cell_rowK HR5.out j _ ?_
          have h2 := flatG_get nmL_len (nexts (nms L)) j 0 _ HNX.out (by decide)
          rw [Nat.mul_one, Nat.add_zero] at h2
          rw [List.getElem?_toArray, h2, HY.out]; rfl
        obtain ⟨W6, hrun, hM6, hT6⟩ := HM5.out.store (P := Try.prog) (t := 57) Try.underlying57 Try.underlying9 x y
        have HM6 := hidK hM6
        have HB6 := hidK (below_some HB2.out hT6.grown (by rw [HGM.out]; exact Nat.le_refl _) (Nat.le_refl _))
        have HR6 := hidK ((hT6.other (show gm + 1 ≠ gm by omega)).trans HR5.out)
        have HO6 := hidK (own_turned HO2.out hT6 (by omega))
        have HP6 := hidK (own_turned HM2.out hT6 (by omega))
        have HS6 := hidK (show B1 ≤ W6.heap.size by rw [hT6.size]; exact HS2.out)
        clear hM6 hT6 HM5 HR5 HM HR HO2 HM2 HB2 HK HS2 hlk d0
        go_wp2
        go_roundw
        case rel =>
          refine ⟨k + 1, by go_num, by omega, ?_, ?_, ?_, HR6.out, HS6.out, HB6.out⟩
          · rw [HS.out.1]; exact own_pushI HLF.out.symm HO6.out
          · rw [HS.out.2]; have h2 := HP6.out; rw [← HLM.out] at h2; exact h2
          · rw [HLD.out, ← HY.out]; exact HM6.out
        case measure => simp [intOf]; omega
    · obtain rfl : k = m := by omega
      clear HU HM HR
      go_wp2
      go_ret2
      exact ⟨_, _, rfl, HF.out.le hB0, HG.out.le hB0, hB⟩
end Go.Proofs.Ytaaagdmhokgcjaa
