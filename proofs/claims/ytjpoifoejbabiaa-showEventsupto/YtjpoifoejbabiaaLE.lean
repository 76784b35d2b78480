
-- ShowEvents' walk, over any Events that tells so.
import Derived.Test.YtjpoifoejbabiaaGT
import Derived.Deep.Cut
namespace Go.Proofs.Ytjpoifoejbabiaa
open Go.ChangeShapes Go.WideShapes Go.ChangeAt Go.RowKit
set_option linter.unusedVariables false
set_option maxRecDepth 100000
set_option linter.unusedSimpArgs false
def behW : Ew := ⟨0, ⟨#[98, 101, 104, 105, 110, 100]⟩⟩
def OwnW (B : Nat) (w : World) (v : Value) (L : List Ew) : Prop := w.ownsRow B 33 2 v L.length (L.flatMap ewL)
theorem OwnW.row {B : Nat} {w : World} {v : Value} {L : List Ew} (h : OwnW B w v L) : RowW w v L := rowG_own (by decide) ewL_len h
theorem OwnW.on {B : Nat} {w w' : World} {v : Value} {L : List Ew} (h : OwnW B w v L) (hb : Below w.heap.size w w') : OwnW B w' v L := ownG_on h hb
theorem own_pushW {B n : Nat} {w : World} {v : Value} {L : List Ew} {x : Ew} (hn : n = L.length) (h : w.ownsRow B 33 2 v (n + 1) (L.flatMap ewL ++ ewL x)) : OwnW B w v (L ++ [x]) := by
  unfold OwnW
  rw [List.length_append, List.flatMap_append, ← hn]
  simpa using h
theorem infoEw : (Try.prog.info? 33).map (fun i => (i.zero, i.size, i.bytes)) = some (some (.agg #[.int .u8 0, .string ⟨#[]⟩]), 2, 24) := by kernel_rfl
theorem eqEw (c : UInt8) (n : ByteArray) (w : World) : (Op.equalIn 10000 33 (.agg #[.int .u8 (c.toNat : Int), .string n]) (.agg #[.int .u8 (c.toNat : Int), .string n])).run Try.prog w = .ok true w := by
  have u3 := Try.underlying5
  have a3 := Try.isAgg5
  have z3 := Try.sizeOf5
  have u9 := Try.underlying9
  have a9 := Try.isAgg9
  have z9 := Try.sizeOf9
  have hS : Try.prog.underlying 33 = some (.struct (Try.prog.fieldsOf 33)) := by kernel_rfl
  rw [show (10000 : Nat) = 9999 + 1 from rfl, run_equalIn_agg w 9999 33 _ _ hS (by kernel_rfl)]
  simp only [Program.fieldsOf, Try.underlying33]
  go_simp
def EventsOk (f : Nat) : Prop := ∀ (v : Value) (L : List Ew) (w : World), RowW w v L → L.length ≤ 2097152 → totE L ≤ 2097152 → Calls Try.prog f #[v] w fun e w' => e = .returned (.string (strB (evtsL L))) ∧ Below w.heap.size w w'
set_option maxHeartbeats 8000000 in
theorem showEvents_w (HP0 : EventsOk 12) (HR0 : EventsOk 13) (v0 : Value) (L : List Ew) (w : World) (h0 : RowW w v0 L) (hl : L.length ≤ 1048576) (ht : totE L ≤ 1048576) :
    Calls Try.prog 5 #[v0] w fun e w' => e = .returned (.bool true) ∧ Below w.heap.size w w' := by
  obtain ⟨i0, hi, hz0, hz1, hz2⟩ := info_parts infoEw
  have h00 := h0
  obtain ⟨a0, c0, q0, h1, h2, h3, h4⟩ := h0
  obtain ⟨n, hnn⟩ : ∃ n, n = L.length := ⟨_, rfl⟩
  obtain ⟨S, hS⟩ : ∃ S, S = strB (evtsL L) := ⟨_, rfl⟩
  subst q0
  have HV := hidK h00
  have HN := hidK hnn
  have HS := hidK hS
  have HT := hidK ht
  have HPO := hidK HP0
  have HRO := hidK HR0
  have hle : (L.flatMap ewL).length = n * 2 := by rw [flatG_len ewL 2 ewL_len, hnn]
  have HRP : Hid (∀ W, Below w.heap.size w W → Calls Try.prog 13 #[.slice a0 n c0] W fun e w' => e = .returned (.string S) ∧ Below W.heap.size W w') := fun W hb => by
    rw [hS, hnn]; exact HR0 _ L W (h00.on hb) (by omega) (by omega)
  rw [← hnn] at hl HV h1 h4 ⊢
  have hB := Below.refl w.heap.size w
  clear h00 hS ht HP0 HR0
  cases a0 with
  | none =>
    have hc := h3 rfl
    subst hc
    have hn0 : n = 0 := by omega
    have hL : L = [] := List.eq_nil_of_length_eq_zero (by omega)
    have ho : w.ownsRow w.heap.size 33 2 (.slice none 0 0) 0 (L.flatMap ewL) := by rw [hL]; exact ⟨rfl, .inl ⟨rfl, rfl⟩⟩
    subst hn0
    clear h1 h2 h3 h4 hnn hle
    subst hL
    go_enter Try.func5, Try.ntmps5
    go_upto_region 1 with fail
    go_upto_region 2 with (refine wpList_append_own_none rfl (.const (.slice none 0 0)) (.tmp 7) 31 rfl w.heap.size 33 i0 2 Try.underlying31 hi _ _ _ rfl ho rfl ?_)
    go_upto_region 3 with (refine wpList_append_own _ rfl (.tmp 9) (.tmp 11) 31 rfl w.heap.size 33 i0 (.agg #[.int .u8 0, .string ⟨#[]⟩]) 2 24 Try.underlying31 hi hz0 hz1 hz2 rfl (by decide) _ 0 (([] : List Ew).flatMap ewL) rfl (own_upK ho _) ⟨w.heap.size, 0, none⟩ 1 1 (ewL behW) rfl rfl (new_rowK w (ewL behW).toArray 33 (ewL behW) rfl) (ewL_one behW) (by unfold maxLen; omega) (by omega) (by rw [World.size_alloc]; have := (hB).size; omega) ?_; intro v2 w2 o2 g2 _; have hb1 := below_grow (bupK hB (.cells (ewL behW).toArray 33)) g2 (own_upK ho _) (Nat.le_refl _); clear g2)
    have ho1 := own_pushW (L := []) (n := 0) rfl o2
    clear o2
    obtain ⟨g, cap, qu, hg, hcap, hcm⟩ := own_slice (by simp) ho1
    simp only [List.nil_append, List.length_singleton] at qu hcap
    unfold maxLen at hcm
    subst qu
    have HO1 := hidK ho1
    clear ho1
    have HR1 := hidK (show RowW w2 (.slice (some ⟨g, 0, none⟩) 0 cap) [] from rowG_take (k := 0) (OwnW.row HO1.out) rfl (by omega))
    have HP1 : Hid (Calls Try.prog 12 #[.slice (some ⟨g, 0, none⟩) 0 cap] w2 fun e w' => e = .returned (.string S) ∧ Below w2.heap.size w2 w') := by
      have h5 := HPO.out _ [] w2 HR1.out (by simp) (by simp [totE])
      rw [← HS.out] at h5; exact h5
    clear HR1
    go_upto_region 4 with (go_at_call 12; refine HP1.out.mono ?_; rintro e w3 ⟨rfl, hb2⟩)
    have hb12 := bel3K hb1 hb2
    go_upto_region 5 with (go_at_call 13; refine (HRP.out _ hb12).mono ?_; rintro e w4 ⟨rfl, hb3⟩)
    have hb13 := bel3K hb12 hb3
    have HO3 := hidK (OwnW.on (OwnW.on HO1.out hb2) hb3)
    clear HO1 HP1 hb2 hb3 hb12 hb1
    have HO5 : Hid (w4.ownsRow w.heap.size 33 2 (.slice (some ⟨g, 0, none⟩) 1 cap) (behW :: []).length ((behW :: []).flatMap ewL)) := HO3.out
    obtain ⟨x1, _⟩ := own_cell (i := 1) ewL_len (u := .string ⟨#[98, 101, 104, 105, 110, 100]⟩) rfl HO5.out
    go_upto_region 7 with fail
    go_wp2
    go_loopw [6] (fun i wx => i = .int .i64 0 ∧ wx = w4) (fun _ _ => 0)
    case atStart => exact ⟨rfl, rfl⟩
    case round =>
      obtain ⟨rfl, rfl⟩ := hrel
      go_wp2
      go_ret
      exact ⟨by simp, hb13⟩
  | some ad =>
    have hcl : ∀ j u, (L.flatMap ewL)[j]? = some u → w.cell? (ad.add j) = some u := by
      intro j u hu
      have hj : j < (L.flatMap ewL).length := (List.getElem?_eq_some_iff.1 hu).1
      obtain ⟨b, off, e, hc⟩ := h4 (by omega)
      injection e with e
      subst e
      rw [Addr.add_mid]
      exact hc j u hu
    clear h1 h2 h3 h4 hnn
    go_enter Try.func5, Try.ntmps5
    go_upto_region 1 with fail
    go_upto_region 2 with (refine wpList_append_own _ rfl (.const (.slice none 0 0)) (.tmp 7) 31 rfl w.heap.size 33 i0 (.agg #[.int .u8 0, .string ⟨#[]⟩]) 2 24 Try.underlying31 hi hz0 hz1 hz2 rfl (by decide) (.slice none 0 0) 0 [] rfl ⟨rfl, .inl ⟨rfl, rfl⟩⟩ ad n c0 (L.flatMap ewL) rfl hle hcl (flatG_one ewL_one L) (by unfold maxLen; omega) (by omega) (Nat.le_refl _) ?_; intro v1 w1 o1 g1 _; have hB1 := below_grow hB g1 (e := 33) (size := 2) (k := 0) (xs := []) ⟨rfl, .inl ⟨rfl, rfl⟩⟩ (Nat.le_refl _); rw [Nat.zero_add, List.nil_append] at o1; clear g1)
    go_upto_region 3 with (refine wpList_append_own _ rfl (.tmp 9) (.tmp 11) 31 rfl w.heap.size 33 i0 (.agg #[.int .u8 0, .string ⟨#[]⟩]) 2 24 Try.underlying31 hi hz0 hz1 hz2 rfl (by decide) _ n (L.flatMap ewL) rfl (own_upK o1 _) ⟨w1.heap.size, 0, none⟩ 1 1 (ewL behW) rfl rfl (new_rowK w1 (ewL behW).toArray 33 (ewL behW) rfl) (ewL_one behW) (by unfold maxLen; omega) (by omega) (by rw [World.size_alloc]; have := (hB1).size; omega) ?_; intro v2 w2 o2 g2 _; have hb1 := below_grow (bupK hB1 (.cells (ewL behW).toArray 33)) g2 (own_upK o1 _) (Nat.le_refl _); clear g2)
    have ho1 := own_pushW HN.out o2
    clear o2
    obtain ⟨g, cap, qu, hg, hcap, hcm⟩ := own_slice (by simp) ho1
    rw [List.length_append, List.length_singleton, ← HN.out] at qu hcap
    unfold maxLen at hcm
    subst qu
    have HO1 := hidK ho1
    clear ho1
    have HR1 := hidK (show RowW w2 (.slice (some ⟨g, 0, none⟩) n cap) L by
      have h5 := rowG_take (k := n) (OwnW.row HO1.out) (by rw [List.length_append, List.length_singleton, ← HN.out]) (by omega)
      rw [List.take_append_of_le_length (by have := HN.out; omega), List.take_of_length_le (by have := HN.out; omega)] at h5
      exact h5)
    have HP1 : Hid (Calls Try.prog 12 #[.slice (some ⟨g, 0, none⟩) n cap] w2 fun e w' => e = .returned (.string S) ∧ Below w2.heap.size w2 w') := by
      have h5 := HPO.out _ L w2 HR1.out (by have := HN.out; omega) (by have := HT.out; omega)
      rw [← HS.out] at h5; exact h5
    have hn1 : (n : Int) ≤ (cap : Int) := by omega
    have hn2 : n ≤ cap := by omega
    clear HR1
    go_upto_region 4 with (go_at_call 12; refine HP1.out.mono ?_; rintro e w3 ⟨rfl, hb2⟩)
    have hb12 := bel3K hb1 hb2
    go_upto_region 5 with (go_at_call 13; refine (HRP.out _ hb12).mono ?_; rintro e w4 ⟨rfl, hb3⟩)
    have hb13 := bel3K hb12 hb3
    have HO3 := hidK (OwnW.on (OwnW.on HO1.out hb2) hb3)
    clear HO1 HP1 hb2 hb3 hb12 hb1
    have hA := (OwnW.row HO3.out).ew (k := n) (x := behW) (by rw [HN.out, List.getElem?_append_right (Nat.le_refl _), Nat.sub_self]; rfl)
    obtain ⟨b5, o5, c5, e5, x0, x1⟩ := hA
    injection e5 with e5 e5b e5c
    injection e5 with e5
    injection e5 with e5 e5d
    subst e5 e5d
    simp only [behW] at x1
    rw [Nat.zero_add] at x1
    have nI : (n : Int) < (n : Int) + 1 := by omega
    have nI2 : (n : Int) < ((n + 1 : Nat) : Int) := by omega
    have n00 : (0 : Int) ≤ (n : Int) := by omega
    clear x0 e5b e5c
    go_upto_region 7 with fail
    clear x1
    have HB13 := hidK hb13
    go_wp2
    go_loopw [6] (fun i wx => ∃ k : Nat, i = .int .i64 k ∧ k ≤ n ∧ Below w4.heap.size w4 wx) (fun i _ => n - (intOf i).toNat)
    case atStart => exact ⟨0, rfl, Nat.zero_le _, Below.refl _ _⟩
    case round =>
      obtain ⟨k, rfl, hkn, hB⟩ := hrel
      by_cases hk : k < n
      · have kI : (k : Int) < (n : Int) := by omega
        have kI2 : (k : Int) < (n : Int) + 1 := by omega
        have k0 : (0 : Int) ≤ (k : Int) := by omega
        have hkl : k < L.length := by have := HN.out; omega
        obtain ⟨⟨ec, en⟩, hx⟩ : ∃ x, L[k]? = some x := ⟨_, List.getElem?_eq_getElem hkl⟩
        obtain ⟨b3, o3, p3, e3, d0, d1⟩ := (HV.out.on (bel3K HB13.out hB)).ew hx
        obtain ⟨b4, o4, p4, e4, f0, f1⟩ := ((OwnW.row HO3.out).on hB).ew (k := k) (x := ⟨ec, en⟩) (by rw [List.getElem?_append_left hkl]; exact hx)
        simp only [] at d0 d1 f0 f1
        injection e3 with e3 e3b e3c
        injection e3 with e3
        subst e3
        injection e4 with e4 e4b e4c
        injection e4 with e4
        injection e4 with e4 e4d
        subst e4 e4d
        rw [Nat.zero_add] at f0 f1
        have hEq := eqEw ec en
        clear hx hkl e3b e3c e4b e4c HO3 HPO HRO
        go_wp2
        go_quiet (fail)
        have hB9 := belDrewN hB nq
        go_wp2
        go_roundw
        case rel => exact ⟨k + 1, by go_num, by omega, hB9⟩
        case measure => simp [intOf]; omega
      · have hkk : k = n := by omega
        have kI : ¬ ((k : Int) < (n : Int)) := by omega
        have hb14 := bel3K HB13.out hB
        have HO4 := hidK (OwnW.on HO3.out hB)
        clear HO3 HB13
        by_cases hn0 : n = 0
        · subst hn0
          go_wp2
          go_ret
          exact ⟨by simp, hb14⟩
        · have z1 : ((n : Int) == 0) = false := by simp; omega
          have z2 : decide ((n : Int) = 0) = false := by simp; omega
          have z3 : ¬ ((n : Int) = 0) := by omega
          cases L with
          | nil => exact absurd HN.out hn0
          | cons x r =>
            obtain ⟨ec, en⟩ := x
            have HO5 : Hid (wr.ownsRow w.heap.size 33 2 (.slice (some ⟨g, 0, none⟩) (n + 1) cap) (⟨ec, en⟩ :: (r ++ [behW])).length ((⟨ec, en⟩ :: (r ++ [behW])).flatMap ewL)) := HO4.out
            obtain ⟨x0, x1⟩ := own_cell (i := 1) ewL_len (u := .string en) rfl HO5.out
            have HO6 := hidK (own_first (i := 1) (x := ⟨ec, en⟩) (y := ⟨ec, ⟨#[97, 110, 111, 116, 104, 101, 114]⟩⟩) (u := .string ⟨#[97, 110, 111, 116, 104, 101, 114]⟩) (by decide) ewL_len (by decide) rfl HO5.out)
            have hb5 := Below.setCell hb14 (p := ⟨g, 1, none⟩) hg (.string ⟨#[97, 110, 111, 116, 104, 101, 114]⟩)
            obtain ⟨W5, hW5⟩ : ∃ W5, W5 = wr.setCell ⟨g, 1, none⟩ (.string ⟨#[97, 110, 111, 116, 104, 101, 114]⟩) := ⟨_, rfl⟩
            rw [← hW5] at HO6 hb5
            obtain ⟨T, hT⟩ : ∃ T, T = strB (evtsL (⟨ec, ⟨#[97, 110, 111, 116, 104, 101, 114]⟩⟩ :: r)) := ⟨_, rfl⟩
            have HR6 := hidK (show RowW W5 (.slice (some ⟨g, 0, none⟩) n cap) (⟨ec, ⟨#[97, 110, 111, 116, 104, 101, 114]⟩⟩ :: r) by
              have h5 := rowG_take (k := n) (OwnW.row (L := ⟨ec, ⟨#[97, 110, 111, 116, 104, 101, 114]⟩⟩ :: (r ++ [behW])) HO6.out) (by have := HN.out; simp at this ⊢; omega) (by omega)
              have h6 : ((⟨ec, ⟨#[97, 110, 111, 116, 104, 101, 114]⟩⟩ : Ew) :: (r ++ [behW])).take n = ⟨ec, ⟨#[97, 110, 111, 116, 104, 101, 114]⟩⟩ :: r := by
                rw [← List.cons_append, List.take_append_of_le_length (by have := HN.out; simp at this ⊢; omega), List.take_of_length_le (by have := HN.out; simp at this ⊢; omega)]
              rw [h6] at h5; exact h5)
            have hl6 : ((⟨ec, ⟨#[97, 110, 111, 116, 104, 101, 114]⟩⟩ : Ew) :: r).length ≤ 2097152 := by have := HN.out; simp at this ⊢; omega
            have ht6 : totE ((⟨ec, ⟨#[97, 110, 111, 116, 104, 101, 114]⟩⟩ : Ew) :: r) ≤ 2097152 := by
              have h5 := HT.out
              unfold totE at h5 ⊢
              simp only [List.map_cons, List.sum_cons] at h5 ⊢
              have h7 : (⟨#[97, 110, 111, 116, 104, 101, 114]⟩ : ByteArray).size ≤ 16 := by decide
              omega
            have HPT : Hid (∀ W, Below W5.heap.size W5 W → Calls Try.prog 12 #[.slice (some ⟨g, 0, none⟩) n cap] W fun e w' => e = .returned (.string T) ∧ Below W.heap.size W w') := fun W hb => by
              rw [hT]; exact HPO.out _ _ W (HR6.out.on hb) hl6 ht6
            have HRT : Hid (∀ W, Below W5.heap.size W5 W → Calls Try.prog 13 #[.slice (some ⟨g, 0, none⟩) n cap] W fun e w' => e = .returned (.string T) ∧ Below W.heap.size W w') := fun W hb => by
              rw [hT]; exact HRO.out _ _ W (HR6.out.on hb) hl6 ht6
            have hn3 : (0 : Int) < (n : Int) + 1 := by omega
            clear HO4 HO5 HO6 HR6 hl6 ht6 hT HRP HPO HRO hkk
            go_upto_region 14 with fail
            go_upto_region 15 with fail
            rw [← hW5]
            clear hW5 x0 x1
            go_upto_region 16 with (go_at_call 12; refine (HPT.out _ (Below.refl _ _)).mono ?_; rintro e w6 ⟨rfl, hb6⟩)
            go_upto_region 17 with (go_at_call 13; refine (HRT.out _ hb6).mono ?_; rintro e w7 ⟨rfl, hb7⟩)
            go_wp2
            go_ret
            exact ⟨by simp, bel3K (bel3K hb5 hb6) hb7⟩
end Go.Proofs.Ytjpoifoejbabiaa
