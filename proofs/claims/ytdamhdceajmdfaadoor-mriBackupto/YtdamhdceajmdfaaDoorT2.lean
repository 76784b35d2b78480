
-- The landed Text.
import Derived.Test.YtdamhdceajmdfaaDoorJB
import Derived.Test.YtdamhdceajmdfaaDoorT1
namespace Go.Proofs.YtdamhdceajmdfaaDoor
open Go.ChangeShapes Go.WideShapes Go.ChangeAt Go.RowKit
set_option linter.unusedVariables false
set_option maxRecDepth 100000
set_option linter.unusedSimpArgs false
set_option maxHeartbeats 4000000 in
theorem text_c (v : Value) (P : List (Mr × Value)) (w : World) (hT : VT w) (h : RowR w v P) (ht : totR (P.map (·.1)) ≤ 16777216) :
    Calls Tryd.prog 9 #[v] w fun e w' => e = .returned (.string (byB (textM (P.map (·.1))))) ∧ Below w.heap.size w w' := by
  obtain ⟨a1, c1, q1, _, _⟩ := h.row.form
  obtain ⟨n, hnn⟩ : ∃ n, n = P.length := ⟨_, rfl⟩
  subst q1
  have HV := hidK h
  have HN := hidK hnn
  have HT := hidK hT
  obtain ⟨L, hL⟩ : ∃ L, L = P.map (·.1) := ⟨_, rfl⟩
  have HL := hidK hL
  have hlen := totR_len L
  have hLl : L.length = n := by rw [hL, List.length_map, hnn]
  have HS := hidK (textM_size L)
  rw [← hL] at ht ⊢
  have hl : n ≤ 16777216 := by omega
  have HTT := hidK ht
  have hf : IsB w.heap.size w.heap.size [] (w.alloc (.cells #[.pointer none, .slice none 0 0] 46)) := Lib.IsBuilderF.of (Lib.fresh_isBuilder 46 5 w)
  have hba : Below w.heap.size w (w.alloc (.cells #[.pointer none, .slice none 0 0] 46)) := (Below.refl _ w).alloc (Nat.le_refl _) _
  have HST : Hid (∀ (acc : List UInt8) (wx : World), IsB w.heap.size w.heap.size acc wx → w.heap.size ≤ wx.heap.size → Calls Tryd.prog 20 #[.pointer (some ⟨w.heap.size, 0, none⟩)] wx fun e w' => e = .returned (.string (byB acc)) ∧ (Lib.IsBuilderF 46 5 w.heap.size w.heap.size (Lib.byteCells acc) w' ∧ Below w.heap.size wx w' ∧ Lib.OthersKept 5 (some w.heap.size) wx w')) := fun acc wx h hB => Tryd.Builder_String_any_k w.heap.size w.heap.size acc wx h hB
  rw [← hnn] at HV ⊢
  clear h hnn hT hL hlen hLl ht
  go_enter Tryd.func9, Tryd.ntmps9
  go_wp2
  go_loopw [8] (fun i wx => ∃ k : Nat, i = .int .i64 k ∧ k ≤ n ∧ IsB w.heap.size w.heap.size (textM (L.take k)) wx ∧ Below w.heap.size w wx) (fun i _ => n - (intOf i).toNat)
  case atStart => exact ⟨0, rfl, Nat.zero_le _, hf, hba⟩
  case round =>
    obtain ⟨k, rfl, hkn, hI, hB⟩ := hrel
    have hBs := hB.size
    by_cases hk : k < n
    · have kI : (k : Int) < (n : Int) := by omega
      have k0 : (0 : Int) ≤ (k : Int) := by omega
      have hkl : k < P.length := by have := HN.out; omega
      obtain ⟨⟨⟨vv, nn, ns⟩, uu⟩, hx⟩ : ∃ x, P[k]? = some x := ⟨_, List.getElem?_eq_getElem hkl⟩
      obtain ⟨b1, o1, p1, e1, d0, d1, d2⟩ := (HV.out.on hB).at hx
      have hNm := (HV.out.on hB).names _ (List.mem_of_getElem? hx)
      have hxl : L[k]? = some ⟨vv, nn, ns⟩ := by rw [HL.out]; exact fst_at hx
      simp only [] at d0 d1 d2 hNm
      obtain ⟨ao, cap, hu⟩ := hNm.slice
      have HNm := hidK hNm
      injection e1 with e1 e1b e1c
      subst e1
      obtain ⟨acc, hacc⟩ : ∃ acc, acc = textM (L.take k) := ⟨_, rfl⟩
      obtain ⟨q, hq⟩ : ∃ q, q = lineM ⟨vv, nn, ns⟩ := ⟨_, rfl⟩
      have HX := hidK (textM_take hxl)
      have hm := totR_mem hxl
      have hsz : nn.size ≤ 16777216 ∧ sumS ns ≤ 16777216 := by have := HTT.out; unfold szM at hm; simp only at hm; omega
      have HFx : Hid (∀ W, Below wr.heap.size wr W → Calls Tryd.prog 19 #[.agg #[.int .i64 vv, .string nn, uu]] W fun e w' => e = .returned (.string (byB q)) ∧ Below W.heap.size W w') := fun W hb => by
        rw [hq]
        exact lineOf_c ⟨vv, nn, ns⟩ uu W (HT.out.up (bel3K hB hb)) (HNm.out.on hb) hsz.1 hsz.2
      rw [← hacc] at hI HX
      rw [← hq] at HX
      have hal : acc.length + q.length ≤ 1099511627776 := by
        have h1 := textM_size (L.take (k + 1)); rw [HX.out, List.length_append] at h1
        have h2 := totR_take L (k + 1); have := HTT.out; omega
      have hqs : (byB q).size = q.length := byB_size q
      have H24 : Hid (∀ (wx : World), IsB w.heap.size w.heap.size acc wx → w.heap.size ≤ wx.heap.size → Calls Tryd.prog 18 #[.pointer (some ⟨w.heap.size, 0, none⟩), .string (byB q)] wx fun e w' => e = .returned (.tuple #[.int .i64 (byB q).size, .nilIface]) ∧ IsB w.heap.size w.heap.size (acc ++ q) w' ∧ Below w.heap.size wx w' ∧ Kept w.heap.size wx w') := fun wx h hB => by
        have := writeString_c w.heap.size w.heap.size acc (byB q) wx h (by rw [hqs]; omega) hB
        rwa [show (byB q).data.toList = q from byL_byB q] at this
      subst hu
      clear hx hkl e1b e1c hacc hq hal hqs HS hm hsz hNm hxl
      go_wp2_with (first
        | (refine wpList_store_kz rfl rfl _ _ _ rfl wr.heap.size 0 (.agg #[.int .i64 vv, .string nn, .slice ao ns.length cap]) rfl rfl _ _ #[.int .i64 vv, .string nn, .slice ao ns.length cap] (heap_alloc_new _ _) (by kernel_rfl) rfl rfl rfl ?_; intro W4 S4 q4; have hb4 := q4.belowN (bupK (Below.refl _ wr) _) (Nat.le_refl _) (Nat.le_refl _); have hI4 := isB_on hI hb4; have hB4 := bel3K hB hb4; have c0 := cell_rowK S4 0 _ rfl; have c1 := cell_rowK S4 1 _ rfl; have c2 := cell_rowK S4 2 _ rfl; clear d0 d1 d2 S4 q4)
        | (go_at_call 19; refine (HFx.out _ hb4).mono ?_; rintro e w5 ⟨rfl, hb5⟩; have hI5 := isB_on hI4 hb5; have hB5 := bel3K hB4 hb5; have s5 := hB5.size)
        | (go_at_call 18; refine (H24.out _ hI5 s5).mono ?_; rintro e w6 ⟨rfl, h6, bb6, kk6⟩))
      go_roundw
      case rel => exact ⟨k + 1, by go_num, by omega, by rw [HX.out]; exact h6, hB5.trans bb6⟩
      case measure => simp [intOf]; omega
    · obtain rfl : k = n := by omega
      have HE : Hid (textM (L.take k) = textM L) := by show _ = _; rw [List.take_of_length_le (by rw [HL.out, List.length_map, ← HN.out]; exact Nat.le_refl _)]
      go_wp2_with (go_at_call 20; refine (HST.out _ _ hI (by omega)).mono ?_; rintro e w4 ⟨rfl, _, b4, _⟩)
      go_ret
      exact ⟨by rw [HE.out]; rfl, hB.trans b4⟩
end Go.Proofs.YtdamhdceajmdfaaDoor
