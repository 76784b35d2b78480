
-- names.Encode: a contract, kind 0.
import Derived.Test.YtmlnnbinbbmmhaaDoorE3
import Derived.Deep.MidRow
import Derived.RegionTactic
import Derived.BigRegion
import Derived.Laws.Tables
namespace Go.Proofs.YtmlnnbinbbmmhaaDoor
open Go.ChangeShapes Go.WideShapes Go.ChangeAt Go.RowKit
set_option linter.unusedVariables false
set_option maxRecDepth 100000

set_option maxHeartbeats 8000000 in
theorem enc_0 (lv : Value) (L : List ByteArray) (w : World) (m : Nat) (hr : RowS w lv L) (hn : L.length ≤ 1100000) (hz : ∀ j, j < L.length → (L.getD j .empty).size ≤ 1100000) (htab : ∀ j, (tabL 0 ((L.map (·.data.toList)).take j)).length ≤ 4000000) (hT : Tabs w)
    (hm : m ≤ L.length) (hv : ∀ j, j < m → validL (L.getD j .empty).data.toList = true) (hv2 : m < L.length → validL (L.getD m .empty).data.toList = false) :
    Calls Tryd.prog 10 #[.int .i64 0, lv] w fun e w' => (m = L.length → EncDone 0 L w e w') ∧ (m < L.length → EncNo 80 w e w') := by
  obtain ⟨n, hnn⟩ : ∃ n, n = L.length := ⟨_, rfl⟩
  obtain ⟨φ, hφ⟩ : ∃ φ, φ = fAt 0 (L.map (·.data.toList)) := ⟨_, rfl⟩
  obtain ⟨ψ, hψ⟩ : ∃ ψ, ψ = iAt 0 (L.map (·.data.toList)) := ⟨_, rfl⟩
  unfold EncDone
  rw [← hφ, ← hψ]
  obtain ⟨LL, hLL⟩ : ∃ LL, LL = L.map (·.data.toList) := ⟨_, rfl⟩
  rw [← hLL] at hφ hψ htab ⊢
  have hcell : ∃ ao cap, lv = .slice ao n cap ∧ ∀ j, j < n → ∃ b off, ao = some ⟨b, off, none⟩ ∧ b < w.heap.size ∧ w.cell? ⟨b, off + j, none⟩ = some (.string (L.getD j .empty)) := by
    rcases hr with ⟨h0, ao, c, rfl⟩ | ⟨b, off, cap, rfl, hc⟩
    · exact ⟨ao, c, by rw [hnn, h0]; rfl, fun j hj => by rw [hnn, h0] at hj; simp at hj⟩
    · refine ⟨some ⟨b, off, none⟩, cap, by rw [hnn], fun j hj => ⟨b, off, rfl, ?_, hc j (by omega)⟩⟩
      exact block_lt_of_cell (hc j (by omega))
  obtain ⟨ao, cap, rfl, hcell⟩ := hcell
  clear hr
  have hmk := mk_strs n (by omega)
  have hni : (n : Int) ≤ 1100000 := by omega
  have HC := hidE hcell
  have HT := hidE hT
  have HZ := hidE hz
  have HTB := hidE htab
  have HV1 := hidE hv
  have HV2 := hidE hv2
  have HN := hidE hnn
  have HLL := hidE hLL
  have HF := hidE hφ
  have HG := hidE hψ
  rw [← hnn] at hm
  rw [← hnn]
  clear hcell hT hz htab hv hv2 hnn hφ hψ hn hLL
  go_enter Tryd.func10, Tryd.ntmps10
  go_wp2_with (fail)
  go_region_with (fail)
  · have q : FG w (w.heap.size + 1 + 1) (w.heap.size + 1 + 1 + 1) := ⟨by omega, by omega, by omega, by omega, by omega⟩
    have hS0 := (encStart w φ ψ n).drew
    generalize ((((w.alloc (.cells names0 36)).alloc (.cells #[.pointer none, .slice none 0 0] 67)).alloc (.cells (rowAt (fun _ => []) n 0) 9)).alloc (.cells (rowAt (fun _ => []) n 0) 9)).drew = ws at *
    generalize w.heap.size + 1 + 1 + 1 = g at *
    generalize w.heap.size + 1 + 1 = f at *
    clear hmk
    go_wp2
    go_loopw [33] (fun i wx => ∃ j : Nat, j ≤ m ∧ i = .int .i64 j ∧ EncSt w f g φ ψ n j j (tabL 0 (LL.take j)) wx) (fun i _ => n - (intOf i).toNat)
    case atStart => exact ⟨0, Nat.zero_le _, rfl, hS0⟩
    case round =>
      obtain ⟨j, hj, rfl, hSt⟩ := hrel
      rename World => wx
      by_cases hjn : j < n
      · obtain ⟨s, hs⟩ : ∃ s, s = L.getD j .empty := ⟨_, rfl⟩
        obtain ⟨b, off, rfl, hb, hc⟩ := HC.out j hjn
        rw [← hs] at hc
        have hcx : wx.cell? ⟨b, off + j, none⟩ = some (.string s) := (hSt.below.cell (p := ⟨b, off + j, none⟩) hb).trans hc
        have hjI : (j : Int) < (n : Int) := by omega
        have hj0 : (0 : Int) ≤ (j : Int) := by omega
        have hsz : s.size ≤ 1100000 := by rw [hs]; exact HZ.out j (by have := HN.out; omega)
        have htl := HTB.out j
        have hlen : s.data.toList.length = s.size := by simp
        have hLj : LL[j]? = some s.data.toList := by
          rw [HLL.out, List.getElem?_map, List.getElem?_eq_getElem (by have := HN.out; omega), hs]
          simp [List.getD, List.getElem?_eq_getElem (show j < L.length by have := HN.out; omega)]
        have HLj := hidE hLj
        clear hLj
        have hLg : LL.getD j [] = s.data.toList := by rw [List.getD, HLj.out]; rfl
        have hTx : Tabs wx := HT.out.on hSt.below
        have HLn : Hid (Calls Tryd.prog 27 #[.pointer (some ⟨w.heap.size + 1, 0, none⟩)] wx fun e w' => e = .returned (.int .i64 (tabL 0 (LL.take j)).length) ∧ w' = wx) := by
          have := Tryd.Builder_Len_f (w.heap.size + 1) (w.heap.size + 1) _ wx hSt.isB
          rw [Lib.byteCells_length] at this; exact this
        clear hc hb
        by_cases hjm : j < m
        · have HV : Hid (∀ w', Calls Tryd.prog 25 #[.string s] w' fun e w'' => e = .returned (.bool true) ∧ w'' = w') := fun w' => by
            have := pvalid_c s w'
            rw [hs, HV1.out j hjm, ← hs] at this; exact this
          by_cases h15 : s.data.toList.length ≤ 15
          · have hsay : sayV 0 s (tabL 0 (LL.take j)).length = .iface 96 (.string s) := by unfold sayV; rw [if_neg (by decide), if_pos ⟨rfl, h15⟩]
            have hfl : strL (φ j) = s ++ ⟨#[47]⟩ := by rw [HF.out]; unfold fAt fieldOf; rw [hLg, if_neg (by decide), if_pos ⟨rfl, h15⟩, ← strL_append, strL_of]; rfl
            have hpl : ψ j = [] := by rw [HG.out]; unfold iAt inlOf; rw [if_neg (fun h => absurd h.1 (by decide))]
            have htb : tabOf 0 s.data.toList = [] := by unfold tabOf; rw [if_neg (fun h => h.2 ⟨rfl, h15⟩)]
            have HSay : Hid (∀ w', Calls Tryd.prog 26 #[.int .i64 0, .string s, .int .i64 (tabL 0 (LL.take j)).length] w' fun e w'' => e = .returned (.iface 96 (.string s)) ∧ w'' = w') := fun w' => by
              have := say_c 0 s (tabL 0 (LL.take j)).length w' (by unfold maxLen; omega)
              rw [hsay] at this; exact this
            have HWr : Hid (Calls Tryd.prog 28 #[.iface 96 (.string s)] wx fun e w'' => e = .returned (.tuple #[.string (strL (φ j)), .int .i64 0]) ∧ Below wx.heap.size wx w'') := by
              have := write_short s wx (by omega)
              rw [hfl]; exact this
            have U1 := ua_short_ref
            have U2 := ua_short_long
            have HPL := hidE hpl
            have HTb := hidE htb
            clear hpl htb hs hlen hsz htl hTx hLg hsay hfl
            go_wp2_with (first
              | (go_at_call 25; refine (HV.out _).mono ?_; rintro e wa ⟨rfl, hwa⟩; subst wa)
              | (go_at_call 27; refine HLn.out.mono ?_; rintro e wa ⟨rfl, hwa⟩; subst wa)
              | (go_at_call 26; refine (HSay.out _).mono ?_; rintro e wa ⟨rfl, hwa⟩; subst wa)
              | (go_at_call 28; refine HWr.out.mono ?_; rintro e w2 ⟨rfl, hb2⟩; have S2 := hSt.on q hb2; have x2 := (S2.cellF hjn).1; have y2 := (S2.cellF hjn).2; have S3 := S2.setF q hjn; have x3 := (S3.cellG hjn).1; have y3 := (S3.cellG hjn).2)
              | (go_at_call 30; refine (HJo.out _ _ (by simp)).mono ?_; rintro e w4 ⟨rfl, hb4⟩; have S4 := S3.on q hb4)
              | (go_at_call 29; refine (HWs.out _ S4.isB (by have := S4.size; omega)).mono ?_; rintro e w5 ⟨rfl, hi5, hb5, hk5⟩; have S5 := S4.wrote q hi5 hb5 hk5))
            go_roundw
            case rel =>
              have ht : tabL 0 (LL.take j) = tabL 0 (LL.take (j + 1)) := by
                rw [tab_next 0 LL j _ HLj.out, HTb.out, List.append_nil]
              rw [ht] at S3
              exact ⟨j + 1, by omega, by go_num, S3.skipG HPL.out⟩
            case measure => simp [intOf]; omega
          · have hsay : sayV 0 s (tabL 0 (LL.take j)).length = .iface 73 (.int .i64 (tabL 0 (LL.take j)).length) := by unfold sayV; rw [if_neg (by decide), if_neg (fun h => h15 h.2)]
            have hfl : strL (φ j) = ⟨#[47]⟩ ++ strL (dg 10 (tabL 0 (LL.take j)).length) := by rw [HF.out]; unfold fAt fieldOf; rw [hLg, if_neg (by decide), if_neg (fun h => h15 h.2)]; apply ByteArray.ext; simp [strL]
            have hpl : ψ j = [] := by rw [HG.out]; unfold iAt inlOf; rw [if_neg (fun h => absurd h.1 (by decide))]
            have htb : tabOf 0 s.data.toList = s.data.toList ++ [47, 10] := by unfold tabOf; rw [if_pos ⟨by decide, fun h => h15 h.2⟩]
            have HSay : Hid (∀ w', Calls Tryd.prog 26 #[.int .i64 0, .string s, .int .i64 (tabL 0 (LL.take j)).length] w' fun e w'' => e = .returned (.iface 73 (.int .i64 (tabL 0 (LL.take j)).length)) ∧ w'' = w') := fun w' => by
              have := say_c 0 s (tabL 0 (LL.take j)).length w' (by unfold maxLen; omega)
              rw [hsay] at this; exact this
            have HWr : Hid (Calls Tryd.prog 28 #[.iface 73 (.int .i64 (tabL 0 (LL.take j)).length)] wx fun e w'' => e = .returned (.tuple #[.string (strL (φ j)), .int .i64 0]) ∧ Below wx.heap.size wx w'') := by
              have := write_ref (tabL 0 (LL.take j)).length wx hTx (by omega)
              rw [hfl]; exact this
            have U1 := ua_ref_ref
            have U2 := ua_ref_long
            obtain ⟨sj, hsj⟩ : ∃ sj, sj = s ++ (⟨#[47, 10]⟩ : ByteArray) := ⟨_, rfl⟩
            have hsjz : sj.size = s.size + 2 := by rw [hsj, ByteArray.size_append]; rfl
            have HJo : Hid (∀ (W : World) (bk : Nat), bk = W.heap.size → Calls Tryd.prog 30 #[.slice (some ⟨bk, 0, none⟩) 2 2] (W.alloc (.cells #[.string s, .string ⟨#[47, 10]⟩] 9)) fun e w' => e = .returned (.string sj) ∧ Below W.heap.size W w') := fun W bk hbk => by
              subst hbk
              exact (join_c W.heap.size s ⟨#[47, 10]⟩ (W.alloc (.cells #[.string s, .string ⟨#[47, 10]⟩] 9)) _ _ (heap_alloc_new _ _) (by show s.size + 2 ≤ _; omega)).mono fun e w' ⟨he, hb⟩ => ⟨by rw [hsj]; exact he, (bup (Below.refl _ _) _).trans (hb.mono (by simp))⟩
            have HWs : Hid (∀ (W : World), IsB (w.heap.size + 1) (w.heap.size + 1) (tabL 0 (LL.take j)) W → w.heap.size + 1 ≤ W.heap.size → Calls Tryd.prog 29 #[.pointer (some ⟨w.heap.size + 1, 0, none⟩), .string sj] W fun e w' => e = .returned (.tuple #[.int .i64 sj.size, .nilIface]) ∧ IsB (w.heap.size + 1) (w.heap.size + 1) (tabL 0 (LL.take j) ++ sj.data.toList) w' ∧ Below (w.heap.size + 1) W w' ∧ Kept (w.heap.size + 1) W w') := fun W h1 h2 =>
              writeString_c (w.heap.size + 1) (w.heap.size + 1) (tabL 0 (LL.take j)) sj W h1 (by omega) h2
            have HSJ := hidE hsj
            clear hsj hsjz
            have HPL := hidE hpl
            have HTb := hidE htb
            clear hpl htb hs hlen hsz htl hTx hLg hsay hfl
            go_wp2_with (first
              | (go_at_call 25; refine (HV.out _).mono ?_; rintro e wa ⟨rfl, hwa⟩; subst wa)
              | (go_at_call 27; refine HLn.out.mono ?_; rintro e wa ⟨rfl, hwa⟩; subst wa)
              | (go_at_call 26; refine (HSay.out _).mono ?_; rintro e wa ⟨rfl, hwa⟩; subst wa)
              | (go_at_call 28; refine HWr.out.mono ?_; rintro e w2 ⟨rfl, hb2⟩; have S2 := hSt.on q hb2; have x2 := (S2.cellF hjn).1; have y2 := (S2.cellF hjn).2; have S3 := S2.setF q hjn; have x3 := (S3.cellG hjn).1; have y3 := (S3.cellG hjn).2)
              | (go_at_call 30; refine (HJo.out _ _ (by simp)).mono ?_; rintro e w4 ⟨rfl, hb4⟩; have S4 := S3.on q hb4)
              | (go_at_call 29; refine (HWs.out _ S4.isB (by have := S4.size; omega)).mono ?_; rintro e w5 ⟨rfl, hi5, hb5, hk5⟩; have S5 := S4.wrote q hi5 hb5 hk5))
            go_roundw
            case rel =>
              have ht : tabL 0 (LL.take j) ++ sj.data.toList = tabL 0 (LL.take (j + 1)) := by
                rw [tab_next 0 LL j _ HLj.out, HTb.out, HSJ.out]; simp
              rw [ht] at S5
              exact ⟨j + 1, by omega, by go_num, S5.skipG HPL.out⟩
            case measure => simp [intOf]; omega
        · obtain rfl : j = m := by omega
          have HV : Hid (∀ w', Calls Tryd.prog 25 #[.string s] w' fun e w'' => e = .returned (.bool false) ∧ w'' = w') := fun w' => by
            have := pvalid_c s w'
            rw [hs, HV2.out (by have := HN.out; omega), ← hs] at this; exact this
          have hrs := hSt.res
          clear hs hlen hsz htl hTx hLg
          go_wp2_with (first
            | (go_at_call 25; refine (HV.out _).mono ?_; rintro e wa ⟨rfl, hwa⟩; subst wa)
            | refine wpList_store_row rfl _ _ _ rfl w.heap.size names0 rfl rfl _ _ hrs rfl (by kernel_rfl) (by kernel_rfl) ?_)
          exact bodyPost_ret (results_cell_tmp_row rfl _ _ w.heap.size _ _ _ _ _ rfl rfl (setRow_heap _ _ _ _ _ _ hrs) Tryd.underlying36 rfl (by kernel_rfl)) rfl (by first | exact ⟨fun h => by omega, fun _ => ⟨rfl, below_setRow hSt.below (Nat.le_refl _) _⟩⟩ | exact ⟨rfl, below_setRow hSt.below (Nat.le_refl _) _⟩ | exact ⟨fun h => by omega, ⟨rfl, below_setRow hSt.below (Nat.le_refl _) _⟩⟩)
      · obtain rfl : j = n := by omega
        obtain rfl : m = j := by omega
        have HStr : Hid (Calls Tryd.prog 31 #[.pointer (some ⟨w.heap.size + 1, 0, none⟩)] wx fun e w' => e = .returned (.string (strL (tabL 0 (LL.take m)))) ∧ (IsB (w.heap.size + 1) (w.heap.size + 1) (tabL 0 (LL.take m)) w' ∧ Below (w.heap.size + 1) wx w' ∧ Kept (w.heap.size + 1) wx w')) := Tryd.Builder_String_any_k (w.heap.size + 1) (w.heap.size + 1) _ wx hSt.isB (by have := hSt.size; omega)
        have htk : LL.take m = LL := List.take_of_length_le (by rw [HLL.out, List.length_map]; have := HN.out; omega)
        rw [htk] at HStr
        go_wp2_with (first
          | (go_at_call 31; refine HStr.out.mono ?_; rintro e w6 ⟨rfl, hi6, hb6, hk6⟩; have S6 := hSt.wrote q hi6 hb6 hk6; have hrs := S6.res)
          | refine wpList_store_row rfl _ _ _ rfl w.heap.size #[.slice (some ⟨f, 0, none⟩) m m, .slice (some ⟨g, 0, none⟩) m m, .string (strL (tabL 0 LL))] rfl rfl _ _ hrs rfl (by kernel_rfl) (by kernel_rfl) ?_)
        have hf0 := q.f0
        have hg0 := q.g0
        exact bodyPost_ret (results_cell_tmp_row rfl _ _ w.heap.size _ _ _ _ _ rfl rfl (setRow_heap _ _ _ _ _ _ hrs) Tryd.underlying36 rfl (by kernel_rfl)) rfl (by first | exact ⟨fun _ => ⟨f, g, q.ne, by omega, by omega, rfl, (setRow_other _ _ _ _ (by omega)).trans S6.rowF, (setRow_other _ _ _ _ (by omega)).trans S6.rowG, below_setRow S6.below (Nat.le_refl _) _⟩, fun h => by omega⟩ | exact ⟨f, g, q.ne, by omega, by omega, rfl, (setRow_other _ _ _ _ (by omega)).trans S6.rowF, (setRow_other _ _ _ _ (by omega)).trans S6.rowG, below_setRow S6.below (Nat.le_refl _) _⟩)
  · have q : FG w (w.heap.size + 1 + 1 + 1) (w.heap.size + 1 + 1) := ⟨by omega, by omega, by omega, by omega, by omega⟩
    have hS0 := (encStart w φ ψ n).swap.drew
    generalize ((((w.alloc (.cells names0 36)).alloc (.cells #[.pointer none, .slice none 0 0] 67)).alloc (.cells (rowAt (fun _ => []) n 0) 9)).alloc (.cells (rowAt (fun _ => []) n 0) 9)).drew = ws at *
    generalize w.heap.size + 1 + 1 + 1 = f at *
    generalize w.heap.size + 1 + 1 = g at *
    clear hmk
    go_wp2
    go_loopw [33] (fun i wx => ∃ j : Nat, j ≤ m ∧ i = .int .i64 j ∧ EncSt w f g φ ψ n j j (tabL 0 (LL.take j)) wx) (fun i _ => n - (intOf i).toNat)
    case atStart => exact ⟨0, Nat.zero_le _, rfl, hS0⟩
    case round =>
      obtain ⟨j, hj, rfl, hSt⟩ := hrel
      rename World => wx
      by_cases hjn : j < n
      · obtain ⟨s, hs⟩ : ∃ s, s = L.getD j .empty := ⟨_, rfl⟩
        obtain ⟨b, off, rfl, hb, hc⟩ := HC.out j hjn
        rw [← hs] at hc
        have hcx : wx.cell? ⟨b, off + j, none⟩ = some (.string s) := (hSt.below.cell (p := ⟨b, off + j, none⟩) hb).trans hc
        have hjI : (j : Int) < (n : Int) := by omega
        have hj0 : (0 : Int) ≤ (j : Int) := by omega
        have hsz : s.size ≤ 1100000 := by rw [hs]; exact HZ.out j (by have := HN.out; omega)
        have htl := HTB.out j
        have hlen : s.data.toList.length = s.size := by simp
        have hLj : LL[j]? = some s.data.toList := by
          rw [HLL.out, List.getElem?_map, List.getElem?_eq_getElem (by have := HN.out; omega), hs]
          simp [List.getD, List.getElem?_eq_getElem (show j < L.length by have := HN.out; omega)]
        have HLj := hidE hLj
        clear hLj
        have hLg : LL.getD j [] = s.data.toList := by rw [List.getD, HLj.out]; rfl
        have hTx : Tabs wx := HT.out.on hSt.below
        have HLn : Hid (Calls Tryd.prog 27 #[.pointer (some ⟨w.heap.size + 1, 0, none⟩)] wx fun e w' => e = .returned (.int .i64 (tabL 0 (LL.take j)).length) ∧ w' = wx) := by
          have := Tryd.Builder_Len_f (w.heap.size + 1) (w.heap.size + 1) _ wx hSt.isB
          rw [Lib.byteCells_length] at this; exact this
        clear hc hb
        by_cases hjm : j < m
        · have HV : Hid (∀ w', Calls Tryd.prog 25 #[.string s] w' fun e w'' => e = .returned (.bool true) ∧ w'' = w') := fun w' => by
            have := pvalid_c s w'
            rw [hs, HV1.out j hjm, ← hs] at this; exact this
          by_cases h15 : s.data.toList.length ≤ 15
          · have hsay : sayV 0 s (tabL 0 (LL.take j)).length = .iface 96 (.string s) := by unfold sayV; rw [if_neg (by decide), if_pos ⟨rfl, h15⟩]
            have hfl : strL (φ j) = s ++ ⟨#[47]⟩ := by rw [HF.out]; unfold fAt fieldOf; rw [hLg, if_neg (by decide), if_pos ⟨rfl, h15⟩, ← strL_append, strL_of]; rfl
            have hpl : ψ j = [] := by rw [HG.out]; unfold iAt inlOf; rw [if_neg (fun h => absurd h.1 (by decide))]
            have htb : tabOf 0 s.data.toList = [] := by unfold tabOf; rw [if_neg (fun h => h.2 ⟨rfl, h15⟩)]
            have HSay : Hid (∀ w', Calls Tryd.prog 26 #[.int .i64 0, .string s, .int .i64 (tabL 0 (LL.take j)).length] w' fun e w'' => e = .returned (.iface 96 (.string s)) ∧ w'' = w') := fun w' => by
              have := say_c 0 s (tabL 0 (LL.take j)).length w' (by unfold maxLen; omega)
              rw [hsay] at this; exact this
            have HWr : Hid (Calls Tryd.prog 28 #[.iface 96 (.string s)] wx fun e w'' => e = .returned (.tuple #[.string (strL (φ j)), .int .i64 0]) ∧ Below wx.heap.size wx w'') := by
              have := write_short s wx (by omega)
              rw [hfl]; exact this
            have U1 := ua_short_ref
            have U2 := ua_short_long
            have HPL := hidE hpl
            have HTb := hidE htb
            clear hpl htb hs hlen hsz htl hTx hLg hsay hfl
            go_wp2_with (first
              | (go_at_call 25; refine (HV.out _).mono ?_; rintro e wa ⟨rfl, hwa⟩; subst wa)
              | (go_at_call 27; refine HLn.out.mono ?_; rintro e wa ⟨rfl, hwa⟩; subst wa)
              | (go_at_call 26; refine (HSay.out _).mono ?_; rintro e wa ⟨rfl, hwa⟩; subst wa)
              | (go_at_call 28; refine HWr.out.mono ?_; rintro e w2 ⟨rfl, hb2⟩; have S2 := hSt.on q hb2; have x2 := (S2.cellF hjn).1; have y2 := (S2.cellF hjn).2; have S3 := S2.setF q hjn; have x3 := (S3.cellG hjn).1; have y3 := (S3.cellG hjn).2)
              | (go_at_call 30; refine (HJo.out _ _ (by simp)).mono ?_; rintro e w4 ⟨rfl, hb4⟩; have S4 := S3.on q hb4)
              | (go_at_call 29; refine (HWs.out _ S4.isB (by have := S4.size; omega)).mono ?_; rintro e w5 ⟨rfl, hi5, hb5, hk5⟩; have S5 := S4.wrote q hi5 hb5 hk5))
            go_roundw
            case rel =>
              have ht : tabL 0 (LL.take j) = tabL 0 (LL.take (j + 1)) := by
                rw [tab_next 0 LL j _ HLj.out, HTb.out, List.append_nil]
              rw [ht] at S3
              exact ⟨j + 1, by omega, by go_num, S3.skipG HPL.out⟩
            case measure => simp [intOf]; omega
          · have hsay : sayV 0 s (tabL 0 (LL.take j)).length = .iface 73 (.int .i64 (tabL 0 (LL.take j)).length) := by unfold sayV; rw [if_neg (by decide), if_neg (fun h => h15 h.2)]
            have hfl : strL (φ j) = ⟨#[47]⟩ ++ strL (dg 10 (tabL 0 (LL.take j)).length) := by rw [HF.out]; unfold fAt fieldOf; rw [hLg, if_neg (by decide), if_neg (fun h => h15 h.2)]; apply ByteArray.ext; simp [strL]
            have hpl : ψ j = [] := by rw [HG.out]; unfold iAt inlOf; rw [if_neg (fun h => absurd h.1 (by decide))]
            have htb : tabOf 0 s.data.toList = s.data.toList ++ [47, 10] := by unfold tabOf; rw [if_pos ⟨by decide, fun h => h15 h.2⟩]
            have HSay : Hid (∀ w', Calls Tryd.prog 26 #[.int .i64 0, .string s, .int .i64 (tabL 0 (LL.take j)).length] w' fun e w'' => e = .returned (.iface 73 (.int .i64 (tabL 0 (LL.take j)).length)) ∧ w'' = w') := fun w' => by
              have := say_c 0 s (tabL 0 (LL.take j)).length w' (by unfold maxLen; omega)
              rw [hsay] at this; exact this
            have HWr : Hid (Calls Tryd.prog 28 #[.iface 73 (.int .i64 (tabL 0 (LL.take j)).length)] wx fun e w'' => e = .returned (.tuple #[.string (strL (φ j)), .int .i64 0]) ∧ Below wx.heap.size wx w'') := by
              have := write_ref (tabL 0 (LL.take j)).length wx hTx (by omega)
              rw [hfl]; exact this
            have U1 := ua_ref_ref
            have U2 := ua_ref_long
            obtain ⟨sj, hsj⟩ : ∃ sj, sj = s ++ (⟨#[47, 10]⟩ : ByteArray) := ⟨_, rfl⟩
            have hsjz : sj.size = s.size + 2 := by rw [hsj, ByteArray.size_append]; rfl
            have HJo : Hid (∀ (W : World) (bk : Nat), bk = W.heap.size → Calls Tryd.prog 30 #[.slice (some ⟨bk, 0, none⟩) 2 2] (W.alloc (.cells #[.string s, .string ⟨#[47, 10]⟩] 9)) fun e w' => e = .returned (.string sj) ∧ Below W.heap.size W w') := fun W bk hbk => by
              subst hbk
              exact (join_c W.heap.size s ⟨#[47, 10]⟩ (W.alloc (.cells #[.string s, .string ⟨#[47, 10]⟩] 9)) _ _ (heap_alloc_new _ _) (by show s.size + 2 ≤ _; omega)).mono fun e w' ⟨he, hb⟩ => ⟨by rw [hsj]; exact he, (bup (Below.refl _ _) _).trans (hb.mono (by simp))⟩
            have HWs : Hid (∀ (W : World), IsB (w.heap.size + 1) (w.heap.size + 1) (tabL 0 (LL.take j)) W → w.heap.size + 1 ≤ W.heap.size → Calls Tryd.prog 29 #[.pointer (some ⟨w.heap.size + 1, 0, none⟩), .string sj] W fun e w' => e = .returned (.tuple #[.int .i64 sj.size, .nilIface]) ∧ IsB (w.heap.size + 1) (w.heap.size + 1) (tabL 0 (LL.take j) ++ sj.data.toList) w' ∧ Below (w.heap.size + 1) W w' ∧ Kept (w.heap.size + 1) W w') := fun W h1 h2 =>
              writeString_c (w.heap.size + 1) (w.heap.size + 1) (tabL 0 (LL.take j)) sj W h1 (by omega) h2
            have HSJ := hidE hsj
            clear hsj hsjz
            have HPL := hidE hpl
            have HTb := hidE htb
            clear hpl htb hs hlen hsz htl hTx hLg hsay hfl
            go_wp2_with (first
              | (go_at_call 25; refine (HV.out _).mono ?_; rintro e wa ⟨rfl, hwa⟩; subst wa)
              | (go_at_call 27; refine HLn.out.mono ?_; rintro e wa ⟨rfl, hwa⟩; subst wa)
              | (go_at_call 26; refine (HSay.out _).mono ?_; rintro e wa ⟨rfl, hwa⟩; subst wa)
              | (go_at_call 28; refine HWr.out.mono ?_; rintro e w2 ⟨rfl, hb2⟩; have S2 := hSt.on q hb2; have x2 := (S2.cellF hjn).1; have y2 := (S2.cellF hjn).2; have S3 := S2.setF q hjn; have x3 := (S3.cellG hjn).1; have y3 := (S3.cellG hjn).2)
              | (go_at_call 30; refine (HJo.out _ _ (by simp)).mono ?_; rintro e w4 ⟨rfl, hb4⟩; have S4 := S3.on q hb4)
              | (go_at_call 29; refine (HWs.out _ S4.isB (by have := S4.size; omega)).mono ?_; rintro e w5 ⟨rfl, hi5, hb5, hk5⟩; have S5 := S4.wrote q hi5 hb5 hk5))
            go_roundw
            case rel =>
              have ht : tabL 0 (LL.take j) ++ sj.data.toList = tabL 0 (LL.take (j + 1)) := by
                rw [tab_next 0 LL j _ HLj.out, HTb.out, HSJ.out]; simp
              rw [ht] at S5
              exact ⟨j + 1, by omega, by go_num, S5.skipG HPL.out⟩
            case measure => simp [intOf]; omega
        · obtain rfl : j = m := by omega
          have HV : Hid (∀ w', Calls Tryd.prog 25 #[.string s] w' fun e w'' => e = .returned (.bool false) ∧ w'' = w') := fun w' => by
            have := pvalid_c s w'
            rw [hs, HV2.out (by have := HN.out; omega), ← hs] at this; exact this
          have hrs := hSt.res
          clear hs hlen hsz htl hTx hLg
          go_wp2_with (first
            | (go_at_call 25; refine (HV.out _).mono ?_; rintro e wa ⟨rfl, hwa⟩; subst wa)
            | refine wpList_store_row rfl _ _ _ rfl w.heap.size names0 rfl rfl _ _ hrs rfl (by kernel_rfl) (by kernel_rfl) ?_)
          exact bodyPost_ret (results_cell_tmp_row rfl _ _ w.heap.size _ _ _ _ _ rfl rfl (setRow_heap _ _ _ _ _ _ hrs) Tryd.underlying36 rfl (by kernel_rfl)) rfl (by first | exact ⟨fun h => by omega, fun _ => ⟨rfl, below_setRow hSt.below (Nat.le_refl _) _⟩⟩ | exact ⟨rfl, below_setRow hSt.below (Nat.le_refl _) _⟩ | exact ⟨fun h => by omega, ⟨rfl, below_setRow hSt.below (Nat.le_refl _) _⟩⟩)
      · obtain rfl : j = n := by omega
        obtain rfl : m = j := by omega
        have HStr : Hid (Calls Tryd.prog 31 #[.pointer (some ⟨w.heap.size + 1, 0, none⟩)] wx fun e w' => e = .returned (.string (strL (tabL 0 (LL.take m)))) ∧ (IsB (w.heap.size + 1) (w.heap.size + 1) (tabL 0 (LL.take m)) w' ∧ Below (w.heap.size + 1) wx w' ∧ Kept (w.heap.size + 1) wx w')) := Tryd.Builder_String_any_k (w.heap.size + 1) (w.heap.size + 1) _ wx hSt.isB (by have := hSt.size; omega)
        have htk : LL.take m = LL := List.take_of_length_le (by rw [HLL.out, List.length_map]; have := HN.out; omega)
        rw [htk] at HStr
        go_wp2_with (first
          | (go_at_call 31; refine HStr.out.mono ?_; rintro e w6 ⟨rfl, hi6, hb6, hk6⟩; have S6 := hSt.wrote q hi6 hb6 hk6; have hrs := S6.res)
          | refine wpList_store_row rfl _ _ _ rfl w.heap.size #[.slice (some ⟨f, 0, none⟩) m m, .slice (some ⟨g, 0, none⟩) m m, .string (strL (tabL 0 LL))] rfl rfl _ _ hrs rfl (by kernel_rfl) (by kernel_rfl) ?_)
        have hf0 := q.f0
        have hg0 := q.g0
        exact bodyPost_ret (results_cell_tmp_row rfl _ _ w.heap.size _ _ _ _ _ rfl rfl (setRow_heap _ _ _ _ _ _ hrs) Tryd.underlying36 rfl (by kernel_rfl)) rfl (by first | exact ⟨fun _ => ⟨f, g, q.ne, by omega, by omega, rfl, (setRow_other _ _ _ _ (by omega)).trans S6.rowF, (setRow_other _ _ _ _ (by omega)).trans S6.rowG, below_setRow S6.below (Nat.le_refl _) _⟩, fun h => by omega⟩ | exact ⟨f, g, q.ne, by omega, by omega, rfl, (setRow_other _ _ _ _ (by omega)).trans S6.rowF, (setRow_other _ _ _ _ (by omega)).trans S6.rowG, below_setRow S6.below (Nat.le_refl _) _⟩)
end Go.Proofs.YtmlnnbinbbmmhaaDoor
