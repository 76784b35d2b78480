
-- The document's Text.
import Derived.Test.YtmfefpkkodgcfaaDoorT3
import Derived.Test.YtmfefpkkodgcfaaDoorTV
import Derived.Test.YtmfefpkkodgcfaaDoorJB
namespace Go.Proofs.YtmfefpkkodgcfaaDoor
open Go.ChangeShapes Go.WideShapes Go.ChangeAt Go.RowKit
set_option linter.unusedVariables false
set_option maxRecDepth 100000
set_option linter.unusedSimpArgs false
theorem lineA (a n : ByteArray) (ns : List ByteArray) (m : Nat) (h1 : namedV m = true) (h2 : partK (kindV m) (partN true (wordB m) n) ns = partN true (wordB m) n) : a ++ lineV m n ns = a ++ wordB m ++ ⟨#[32]⟩ ++ n ++ ⟨#[10]⟩ := by
  unfold lineV lineK
  rw [h1, h2]
  unfold partN
  apply byL_inj; simp only [if_true, byL_app, List.append_assoc]
theorem lineB (a n : ByteArray) (ns : List ByteArray) (m : Nat) (h1 : namedV m = true) (h2 : kindV m = 2) (h3 : ns ≠ []) : a ++ lineV m n ns = a ++ wordB m ++ ⟨#[32]⟩ ++ n ++ ⟨#[32, 40]⟩ ++ joinS ns ++ ⟨#[41]⟩ ++ ⟨#[10]⟩ := by
  unfold lineV lineK partK
  rw [h1, h2, if_neg (by decide), if_pos ⟨rfl, h3⟩]
  unfold partN
  apply byL_inj; simp only [if_true, byL_app, List.append_assoc]
theorem lineC (a n : ByteArray) (ns : List ByteArray) (m : Nat) (h1 : namedV m = false) (h2 : kindV m = 1) : a ++ lineV m n ns = a ++ wordB m ++ ⟨#[32]⟩ ++ joinS ns ++ ⟨#[10]⟩ := by
  unfold lineV lineK partK
  rw [h1, h2, if_pos rfl]
  unfold partN
  apply byL_inj; simp only [byL_app, List.append_assoc, Bool.false_eq_true, if_false]
theorem lineD (a n : ByteArray) (ns : List ByteArray) (m : Nat) (h1 : namedV m = false) (h2 : kindV m = 0) : a ++ lineV m n ns = a ++ wordB m ++ ⟨#[10]⟩ := by
  unfold lineV lineK partK
  rw [h1, h2, if_neg (by decide), if_neg (by simp)]
  unfold partN
  apply byL_inj; simp only [byL_app, List.append_assoc, Bool.false_eq_true, if_false]
set_option maxHeartbeats 16000000 in
theorem rtext_c (v : Value) (P : List (Mr × Value)) (w : World) (hT : WT w) (h : RowR w v P) (ht : totR (P.map (·.1)) ≤ 16777216) :
    Calls Tryd.prog 10 #[v] w fun e w' => e = .returned (.string (byB (textM (P.map (·.1))))) ∧ Below w.heap.size w w' := by
  obtain ⟨a1, c1, q1, _, _⟩ := h.row.form
  obtain ⟨n, hnn⟩ : ∃ n, n = P.length := ⟨_, rfl⟩
  subst q1
  have HV := hidK h
  have HN := hidK hnn
  have HT := hidK hT
  obtain ⟨L, hL⟩ : ∃ L, L = P.map (·.1) := ⟨_, rfl⟩
  have HL := hidK hL
  have hlen := totR_len L
  have hLl : L.length = n := by rw [hL, List.length_map, hnn]
  rw [← hL] at ht ⊢
  have hl : n ≤ 16777216 := by omega
  have HTT := hidK ht
  rw [← hnn] at HV ⊢
  clear h hnn hT hL hlen hLl ht
  go_enter Tryd.func10, Tryd.ntmps10
  go_wp2
  go_loopw [3, 4] (fun s i wx => ∃ k : Nat, s = .string (byB (textM (L.take k))) ∧ i = .int .i64 k ∧ k ≤ n ∧ Below w.heap.size w wx) (fun _ i _ => n - (intOf i).toNat)
  case atStart => exact ⟨0, rfl, rfl, Nat.zero_le _, Below.refl _ _⟩
  case round =>
    obtain ⟨k, rfl, rfl, hkn, hB⟩ := hrel
    have hBs := hB.size
    by_cases hk : k < n
    · have kI : (k : Int) < (n : Int) := by omega
      have k0 : (0 : Int) ≤ (k : Int) := by omega
      have hkl : k < P.length := by have := HN.out; omega
      obtain ⟨⟨⟨vv, nn, ns⟩, uu⟩, hx⟩ : ∃ x, P[k]? = some x := ⟨_, List.getElem?_eq_getElem hkl⟩
      obtain ⟨b1, o1, p1, e1, d0, d1, d2⟩ := (HV.out.on hB).at hx
      have hNm := (HV.out.on hB).names _ (List.mem_of_getElem? hx)
      have hxl : L[k]? = some ⟨vv, nn, ns⟩ := by rw [HL.out]; exact fst_at hx
      simp only [] at d0 d1 d2 hNm
      obtain ⟨ao, cap, hu⟩ := hNm.slice
      have HNm := hidK hNm
      injection e1 with e1 e1b e1c
      subst e1
      obtain ⟨acc, hacc⟩ : ∃ acc, acc = byB (textM (L.take k)) := ⟨_, rfl⟩
      have HX : Hid (byB (textM (L.take (k + 1))) = acc ++ byB (lineM ⟨vv, nn, ns⟩)) := by show _ = _; rw [textM_take hxl, byB_app, hacc]
      have hm := totR_mem hxl
      have hsz : nn.size ≤ 16777216 ∧ sumS ns ≤ 16777216 := by have := HTT.out; unfold szM at hm; simp only at hm; omega
      have hz1 : acc.size ≤ 234881024 := by
        rw [hacc, byB_size]; have h1 := textM_size (L.take k); have h2 := totR_take L k; have := HTT.out; omega
      obtain ⟨J, hJ⟩ : ∃ J, J = joinS ns := ⟨_, rfl⟩
      have hJs : J.size ≤ 33554432 := by rw [hJ]; have := joinS_size ns; omega
      have HJ : Hid (∀ W, Below wr.heap.size wr W → Calls Tryd.prog 21 #[uu] W fun e w' => e = .returned (.string J) ∧ w' = W) := fun W hb => by rw [hJ]; exact rjoined_c uu ns W (HNm.out.on hb) hsz.2
      have hWT := HT.out.up hB
      subst hu
      have hnn1 := hsz.1
      obtain ⟨m, hm'⟩ : ∃ m, m = ns.length := ⟨_, rfl⟩
      have HM := hidK hm'
      rw [← hm'] at HJ d2
      have hB1 : Below w.heap.size w (wr.alloc (.cells #[.int .i64 vv, .string nn, .slice ao m cap] 28)) := hB.trans ((Below.refl _ _).alloc hBs _)
      rw [← hacc]
      clear hx hkl e1b e1c hacc hm hsz hNm hxl hm'
      by_cases hv : 0 < vv ∧ vv < 14
      · obtain ⟨i, hi, hi0, hi14⟩ : ∃ i : Nat, vv = (i : Int) ∧ 0 < i ∧ i < 14 := ⟨vv.toNat, by omega, by omega, by omega⟩
        have hw0 := hWT.1
        have hWi := hWT.2 i hi14
        obtain ⟨Wd, hWd⟩ : ∃ Wd, Wd = wordB i := ⟨_, rfl⟩
        have hws : Wd.size ≤ 9 := by rw [hWd]; exact wordB_size i
        have HXi : Hid (byB (textM (L.take (k + 1))) = acc ++ lineV i nn ns) := by
          show _ = _; rw [HX.out]; unfold lineM; rw [if_pos hv, byB_byL, hi]; rfl
        have hJ2 := hidK hJ
        rw [← hWd] at hWi
        have HW := hidK hWd
        subst hi
        clear HX hv hWT hJ hWd
        have q0 : ¬ (9223372036854775807 < acc.size + Wd.size) := by omega
        have q1 : ¬ (9223372036854775807 < acc.size + Wd.size + 1) := by omega
        have q2 : ¬ (9223372036854775807 < acc.size + Wd.size + 1 + nn.size) := by omega
        have q3 : ¬ (9223372036854775807 < acc.size + Wd.size + 1 + nn.size + 1) := by omega
        have q4 : ¬ (9223372036854775807 < acc.size + Wd.size + 1 + nn.size + 2) := by omega
        have q5 : ¬ (9223372036854775807 < acc.size + Wd.size + 1 + nn.size + 2 + J.size) := by omega
        have q6 : ¬ (9223372036854775807 < acc.size + Wd.size + 1 + nn.size + 2 + J.size + 1) := by omega
        have q7 : ¬ (9223372036854775807 < acc.size + Wd.size + 1 + nn.size + 2 + J.size + 1 + 1) := by omega
        have q8 : ¬ (9223372036854775807 < acc.size + Wd.size + 1 + J.size) := by omega
        have q9 : ¬ (9223372036854775807 < acc.size + Wd.size + 1 + J.size + 1) := by omega
        match i, hi0, hi14 with
        | 0, h, _ => exact absurd h (by omega)
        | 1, _, _ =>
          have HF : Hid (byB (textM (L.take (k + 1))) = acc ++ Wd ++ ⟨#[32]⟩ ++ nn ++ ⟨#[10]⟩) := by show _ = _; rw [HXi.out, HW.out]; exact lineA acc nn ns 1 rfl rfl
          clear HXi HW hJ2 HTT
          go_wp2
          go_roundw
          case rel => exact ⟨k + 1, by rw [HF.out], by go_num, by omega, hB1⟩
          case measure => simp [intOf]; omega
        | 2, _, _ =>
          have HF : Hid (byB (textM (L.take (k + 1))) = acc ++ Wd ++ ⟨#[32]⟩ ++ nn ++ ⟨#[10]⟩) := by show _ = _; rw [HXi.out, HW.out]; exact lineA acc nn ns 2 rfl rfl
          clear HXi HW hJ2 HTT
          go_wp2
          go_roundw
          case rel => exact ⟨k + 1, by rw [HF.out], by go_num, by omega, hB1⟩
          case measure => simp [intOf]; omega
        | 3, _, _ =>
          have HF : Hid (byB (textM (L.take (k + 1))) = acc ++ Wd ++ ⟨#[32]⟩ ++ J ++ ⟨#[10]⟩) := by show _ = _; rw [HXi.out, HW.out, hJ2.out]; exact lineC acc nn ns 3 rfl rfl
          clear HXi HW hJ2 HTT
          go_wp2_with (go_at_call 21; refine (HJ.out _ (bupK (Below.refl _ _) _)).mono ?_; rintro e w5 ⟨rfl, h5⟩; subst w5)
          go_roundw
          case rel => exact ⟨k + 1, by rw [HF.out], by go_num, by omega, hB1⟩
          case measure => simp [intOf]; omega
        | 4, _, _ =>
          by_cases hne : ns = []
          · have HE := hidK hne
            have hm0 : m = 0 := by rw [HM.out, hne]; rfl
            subst hm0
            clear HM hne
            have HF : Hid (byB (textM (L.take (k + 1))) = acc ++ Wd ++ ⟨#[32]⟩ ++ nn ++ ⟨#[10]⟩) := by show _ = _; rw [HXi.out, HW.out]; exact lineA acc nn ns 4 rfl (by unfold partK; rw [if_neg (by decide), if_neg (by simp [HE.out])])
            clear HXi HW hJ2 HTT
            go_wp2
            go_roundw
            case rel => exact ⟨k + 1, by rw [HF.out], by go_num, by omega, hB1⟩
            case measure => simp [intOf]; omega
          · have HE := hidK (show ns ≠ [] from hne)
            have hm0 : 0 < m := by rw [HM.out]; exact List.length_pos_iff.2 hne
            have mI : decide ((0 : Int) < (m : Int)) = true := by simp; omega
            clear HM hne
            have HF : Hid (byB (textM (L.take (k + 1))) = acc ++ Wd ++ ⟨#[32]⟩ ++ nn ++ ⟨#[32, 40]⟩ ++ J ++ ⟨#[41]⟩ ++ ⟨#[10]⟩) := by show _ = _; rw [HXi.out, HW.out, hJ2.out]; exact lineB acc nn ns 4 rfl rfl HE.out
            clear HXi HW hJ2 HTT
            go_wp2_with (go_at_call 21; refine (HJ.out _ (bupK (Below.refl _ _) _)).mono ?_; rintro e w5 ⟨rfl, h5⟩; subst w5)
            go_roundw
            case rel => exact ⟨k + 1, by rw [HF.out], by go_num, by omega, hB1⟩
            case measure => simp [intOf]; omega
        | 5, _, _ =>
          have HF : Hid (byB (textM (L.take (k + 1))) = acc ++ Wd ++ ⟨#[32]⟩ ++ J ++ ⟨#[10]⟩) := by show _ = _; rw [HXi.out, HW.out, hJ2.out]; exact lineC acc nn ns 5 rfl rfl
          clear HXi HW hJ2 HTT
          go_wp2_with (go_at_call 21; refine (HJ.out _ (bupK (Below.refl _ _) _)).mono ?_; rintro e w5 ⟨rfl, h5⟩; subst w5)
          go_roundw
          case rel => exact ⟨k + 1, by rw [HF.out], by go_num, by omega, hB1⟩
          case measure => simp [intOf]; omega
        | 6, _, _ =>
          have HF : Hid (byB (textM (L.take (k + 1))) = acc ++ Wd ++ ⟨#[32]⟩ ++ J ++ ⟨#[10]⟩) := by show _ = _; rw [HXi.out, HW.out, hJ2.out]; exact lineC acc nn ns 6 rfl rfl
          clear HXi HW hJ2 HTT
          go_wp2_with (go_at_call 21; refine (HJ.out _ (bupK (Below.refl _ _) _)).mono ?_; rintro e w5 ⟨rfl, h5⟩; subst w5)
          go_roundw
          case rel => exact ⟨k + 1, by rw [HF.out], by go_num, by omega, hB1⟩
          case measure => simp [intOf]; omega
        | 7, _, _ =>
          have HF : Hid (byB (textM (L.take (k + 1))) = acc ++ Wd ++ ⟨#[32]⟩ ++ J ++ ⟨#[10]⟩) := by show _ = _; rw [HXi.out, HW.out, hJ2.out]; exact lineC acc nn ns 7 rfl rfl
          clear HXi HW hJ2 HTT
          go_wp2_with (go_at_call 21; refine (HJ.out _ (bupK (Below.refl _ _) _)).mono ?_; rintro e w5 ⟨rfl, h5⟩; subst w5)
          go_roundw
          case rel => exact ⟨k + 1, by rw [HF.out], by go_num, by omega, hB1⟩
          case measure => simp [intOf]; omega
        | 8, _, _ =>
          have HF : Hid (byB (textM (L.take (k + 1))) = acc ++ Wd ++ ⟨#[10]⟩) := by show _ = _; rw [HXi.out, HW.out]; exact lineD acc nn ns 8 rfl rfl
          clear HXi HW hJ2 HTT
          go_wp2
          go_roundw
          case rel => exact ⟨k + 1, by rw [HF.out], by go_num, by omega, hB1⟩
          case measure => simp [intOf]; omega
        | 9, _, _ =>
          by_cases hne : ns = []
          · have HE := hidK hne
            have hm0 : m = 0 := by rw [HM.out, hne]; rfl
            subst hm0
            clear HM hne
            have HF : Hid (byB (textM (L.take (k + 1))) = acc ++ Wd ++ ⟨#[32]⟩ ++ nn ++ ⟨#[10]⟩) := by show _ = _; rw [HXi.out, HW.out]; exact lineA acc nn ns 9 rfl (by unfold partK; rw [if_neg (by decide), if_neg (by simp [HE.out])])
            clear HXi HW hJ2 HTT
            go_wp2
            go_roundw
            case rel => exact ⟨k + 1, by rw [HF.out], by go_num, by omega, hB1⟩
            case measure => simp [intOf]; omega
          · have HE := hidK (show ns ≠ [] from hne)
            have hm0 : 0 < m := by rw [HM.out]; exact List.length_pos_iff.2 hne
            have mI : decide ((0 : Int) < (m : Int)) = true := by simp; omega
            clear HM hne
            have HF : Hid (byB (textM (L.take (k + 1))) = acc ++ Wd ++ ⟨#[32]⟩ ++ nn ++ ⟨#[32, 40]⟩ ++ J ++ ⟨#[41]⟩ ++ ⟨#[10]⟩) := by show _ = _; rw [HXi.out, HW.out, hJ2.out]; exact lineB acc nn ns 9 rfl rfl HE.out
            clear HXi HW hJ2 HTT
            go_wp2_with (go_at_call 21; refine (HJ.out _ (bupK (Below.refl _ _) _)).mono ?_; rintro e w5 ⟨rfl, h5⟩; subst w5)
            go_roundw
            case rel => exact ⟨k + 1, by rw [HF.out], by go_num, by omega, hB1⟩
            case measure => simp [intOf]; omega
        | 10, _, _ =>
          have HF : Hid (byB (textM (L.take (k + 1))) = acc ++ Wd ++ ⟨#[10]⟩) := by show _ = _; rw [HXi.out, HW.out]; exact lineD acc nn ns 10 rfl rfl
          clear HXi HW hJ2 HTT
          go_wp2
          go_roundw
          case rel => exact ⟨k + 1, by rw [HF.out], by go_num, by omega, hB1⟩
          case measure => simp [intOf]; omega
        | 11, _, _ =>
          have HF : Hid (byB (textM (L.take (k + 1))) = acc ++ Wd ++ ⟨#[10]⟩) := by show _ = _; rw [HXi.out, HW.out]; exact lineD acc nn ns 11 rfl rfl
          clear HXi HW hJ2 HTT
          go_wp2
          go_roundw
          case rel => exact ⟨k + 1, by rw [HF.out], by go_num, by omega, hB1⟩
          case measure => simp [intOf]; omega
        | 12, _, _ =>
          have HF : Hid (byB (textM (L.take (k + 1))) = acc ++ Wd ++ ⟨#[10]⟩) := by show _ = _; rw [HXi.out, HW.out]; exact lineD acc nn ns 12 rfl rfl
          clear HXi HW hJ2 HTT
          go_wp2
          go_roundw
          case rel => exact ⟨k + 1, by rw [HF.out], by go_num, by omega, hB1⟩
          case measure => simp [intOf]; omega
        | 13, _, _ =>
          have HF : Hid (byB (textM (L.take (k + 1))) = acc ++ Wd ++ ⟨#[10]⟩) := by show _ = _; rw [HXi.out, HW.out]; exact lineD acc nn ns 13 rfl rfl
          clear HXi HW hJ2 HTT
          go_wp2
          go_roundw
          case rel => exact ⟨k + 1, by rw [HF.out], by go_num, by omega, hB1⟩
          case measure => simp [intOf]; omega
        | i + 14, _, h => exact absurd h (by omega)
      · have HXi : Hid (byB (textM (L.take (k + 1))) = acc) := by
          show _ = _; rw [HX.out]; unfold lineM; rw [if_neg hv]; apply byL_inj; rw [byL_app]; simp [byL_byB]
        clear HX hWT hJ HTT
        by_cases hv1 : vv < 1
        · have b1 : decide (vv < 1) = true := by simp [hv1]
          go_wp2
          go_roundw
          case rel => exact ⟨k + 1, by rw [HXi.out], by go_num, by omega, hB1⟩
          case measure => simp [intOf]; omega
        · have b1 : decide (vv < 1) = false := by simp [hv1]
          have b2 : decide (13 < vv) = true := by simp; omega
          go_wp2
          go_roundw
          case rel => exact ⟨k + 1, by rw [HXi.out], by go_num, by omega, hB1⟩
          case measure => simp [intOf]; omega
    · obtain rfl : k = n := by omega
      have HE : Hid (textM (L.take k) = textM L) := by show _ = _; rw [List.take_of_length_le (by rw [HL.out, List.length_map, ← HN.out]; exact Nat.le_refl _)]
      go_wp2
      go_ret
      exact ⟨by rw [← HE.out]; rfl, hB⟩
end Go.Proofs.YtmfefpkkodgcfaaDoor
