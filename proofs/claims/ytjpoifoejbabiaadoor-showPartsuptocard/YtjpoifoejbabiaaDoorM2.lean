import Derived.Test.YtjpoifoejbabiaaDoorM1
import Derived.Test.YtjpoifoejbabiaaDoorRI

-- each, at List$1.
namespace Go.Proofs.YtjpoifoejbabiaaDoor
open Go.ChangeShapes Go.WideShapes Go.ChangeAt Go.RowKit
set_option linter.unusedVariables false
set_option maxRecDepth 100000
set_option linter.unusedSimpArgs false
set_option maxHeartbeats 4000000 in
theorem eachL_c (S : Mx → List UInt8) (Bv : Nat) (v : Value) (L : List Mx) (w : World) (h : RowM w v L) (hl : L.length ≤ 2097152) (hs : (L.flatMap S).length ≤ 1099511627776)
    (hF : ∀ x ∈ L, ∀ W, Below w.heap.size w W → Calls Tryd.prog 9 #[.agg (mxL x).toArray, .pointer (some ⟨Bv, 0, none⟩)] W fun e w' => e = .returned (.string (strB (S x))) ∧ Below W.heap.size W w') :
    Calls Tryd.prog 8 #[v, .func (.func 9) #[] #[.pointer (some ⟨Bv, 0, none⟩)]] w fun e w' => e = .returned (.string (strB (L.flatMap S))) ∧ Below w.heap.size w w' := by
  obtain ⟨a1, c1, q1, _, _⟩ := h.form
  obtain ⟨n, hnn⟩ : ∃ n, n = L.length := ⟨_, rfl⟩
  subst q1
  have HV := hidK h
  have HN := hidK hnn
  have HS := hidK hs
  have HF := hidK hF
  have hf : IsB w.heap.size w.heap.size [] (w.alloc (.cells #[.pointer none, .slice none 0 0] 39)) := Lib.IsBuilderF.of (Lib.fresh_isBuilder 39 5 w)
  have hba : Below w.heap.size w (w.alloc (.cells #[.pointer none, .slice none 0 0] 39)) := (Below.refl _ w).alloc (Nat.le_refl _) _
  have HST : Hid (∀ (acc : List UInt8) (wx : World), IsB w.heap.size w.heap.size acc wx → w.heap.size ≤ wx.heap.size → Calls Tryd.prog 18 #[.pointer (some ⟨w.heap.size, 0, none⟩)] wx fun e w' => e = .returned (.string (strB acc)) ∧ (Lib.IsBuilderF 39 5 w.heap.size w.heap.size (Lib.byteCells acc) w' ∧ Below w.heap.size wx w' ∧ Lib.OthersKept 5 (some w.heap.size) wx w')) := fun acc wx h hB => Tryd.Builder_String_any_k w.heap.size w.heap.size acc wx h hB
  rw [← hnn] at hl HV ⊢
  clear h hnn hs hF
  go_enter Tryd.func8, Tryd.ntmps8
  go_wp2
  go_loopw [10] (fun i wx => ∃ k : Nat, i = .int .i64 k ∧ k ≤ n ∧ IsB w.heap.size w.heap.size ((L.take k).flatMap S) wx ∧ Below w.heap.size w wx) (fun i _ => n - (intOf i).toNat)
  case atStart => exact ⟨0, rfl, Nat.zero_le _, hf, hba⟩
  case round =>
    obtain ⟨k, rfl, hkn, hI, hB⟩ := hrel
    have hBs := hB.size
    by_cases hk : k < n
    · have kI : (k : Int) < (n : Int) := by omega
      have k0 : (0 : Int) ≤ (k : Int) := by omega
      have hkl : k < L.length := by have := HN.out; omega
      obtain ⟨⟨dd, uu, gg, mm, nn, zz, dt⟩, hx⟩ : ∃ x, L[k]? = some x := ⟨_, List.getElem?_eq_getElem hkl⟩
      obtain ⟨b1, o1, p1, e1, d0, d1, d2, d3, d4, d5, d6⟩ := (HV.out.on hB).mx hx
      simp only [] at d0 d1 d2 d3 d4 d5 d6
      injection e1 with e1 e1b e1c
      subst e1
      obtain ⟨acc, hacc⟩ : ∃ acc, acc = (L.take k).flatMap S := ⟨_, rfl⟩
      obtain ⟨q, hq⟩ : ∃ q, q = S ⟨dd, uu, gg, mm, nn, zz, dt⟩ := ⟨_, rfl⟩
      have HX := hidK (fm_take S hx)
      have hle := fm_le1 S hx
      have HFx : Hid (∀ W, Below w.heap.size w W → Calls Tryd.prog 9 #[.agg #[.int .i64 dd, .int .i64 uu, .int .i64 gg, .int .i64 mm, .string nn, .int .i64 zz, .string dt], .pointer (some ⟨Bv, 0, none⟩)] W fun e w' => e = .returned (.string (strB q)) ∧ Below W.heap.size W w') := fun W hb => by rw [hq]; exact HF.out _ (List.mem_of_getElem? hx) W hb
      rw [← hacc] at hI HX hle
      rw [← hq] at HX hle
      have hss := HS.out
      have hal : acc.length + q.length ≤ 1099511627776 := by omega
      have hqs : (strB q).size = q.length := strB_size q
      have H24 : Hid (∀ (wx : World), IsB w.heap.size w.heap.size acc wx → w.heap.size ≤ wx.heap.size → Calls Tryd.prog 17 #[.pointer (some ⟨w.heap.size, 0, none⟩), .string (strB q)] wx fun e w' => e = .returned (.tuple #[.int .i64 (strB q).size, .nilIface]) ∧ IsB w.heap.size w.heap.size (acc ++ q) w' ∧ Below w.heap.size wx w' ∧ Kept w.heap.size wx w') := fun wx h hB => by
        have := writeString_c w.heap.size w.heap.size acc (strB q) wx h (by rw [hqs]; omega) hB
        rwa [show (strB q).data.toList = q by simp [strB]] at this
      clear hx hkl e1b e1c hacc hq hle hss hal hqs HF HS
      go_wp2_with (first
        | (refine wpList_store_kz rfl rfl _ _ _ rfl wr.heap.size 0 (.agg #[.int .i64 dd, .int .i64 uu, .int .i64 gg, .int .i64 mm, .string nn, .int .i64 zz, .string dt]) rfl rfl _ _ #[.int .i64 dd, .int .i64 uu, .int .i64 gg, .int .i64 mm, .string nn, .int .i64 zz, .string dt] (heap_alloc_new _ _) (by kernel_rfl) rfl rfl rfl ?_; intro W4 S4 q4; have hb4 := q4.belowN (bupK (Below.refl _ wr) _) (Nat.le_refl _) (Nat.le_refl _); have hI4 := isB_on hI hb4; have hB4 := bel3K hB hb4; have c0 := cell_rowK S4 0 _ rfl; have c1 := cell_rowK S4 1 _ rfl; have c2 := cell_rowK S4 2 _ rfl; have c3 := cell_rowK S4 3 _ rfl; have c4 := cell_rowK S4 4 _ rfl; have c5 := cell_rowK S4 5 _ rfl; have c6 := cell_rowK S4 6 _ rfl; clear d0 d1 d2 d3 d4 d5 d6 S4 q4 hb4)
        | (go_at_call 9; refine (HFx.out _ hB4).mono ?_; rintro e w5 ⟨rfl, hb5⟩; have hI5 := isB_on hI4 hb5; have hB5 := bel3K hB4 hb5; have s5 := hB5.size)
        | (go_at_call 17; refine (H24.out _ hI5 s5).mono ?_; rintro e w6 ⟨rfl, h6, bb6, kk6⟩))
      go_roundw
      case rel => exact ⟨k + 1, by go_num, by omega, by rw [HX.out]; exact h6, hB5.trans bb6⟩
      case measure => simp [intOf]; omega
    · obtain rfl : k = n := by omega
      have HE : Hid ((L.take k).flatMap S = L.flatMap S) := by show _ = _; rw [HN.out, List.take_length]
      go_wp2_with (go_at_call 18; refine (HST.out _ _ hI (by omega)).mono ?_; rintro e w4 ⟨rfl, _, b4, _⟩)
      go_ret
      exact ⟨by rw [HE.out]; rfl, hB.trans b4⟩
end Go.Proofs.YtjpoifoejbabiaaDoor

-- The landed List.
namespace Go.Proofs.YtjpoifoejbabiaaDoor
open Go.ChangeShapes Go.WideShapes Go.ChangeAt Go.RowKit
set_option linter.unusedVariables false
set_option maxRecDepth 100000
set_option linter.unusedSimpArgs false
set_option maxHeartbeats 4000000 in
theorem list1_f (dd uu gg mm zz : Int) (nn dt : ByteArray) (Bv : Nat) (w : World) (hv : w.cell? ⟨Bv, 0, none⟩ = some (.bool false)) (hn : nn.size ≤ 2097152) :
    Calls Tryd.prog 9 #[.agg #[.int .i64 dd, .int .i64 uu, .int .i64 gg, .int .i64 mm, .string nn, .int .i64 zz, .string dt], .pointer (some ⟨Bv, 0, none⟩)] w fun e w' => e = .returned (.string (strB (QL nn ++ [10]))) ∧ Below w.heap.size w w' := by
  have hP0 := heap_alloc_new w (.cells #[.int .i64 dd, .int .i64 uu, .int .i64 gg, .int .i64 mm, .string nn, .int .i64 zz, .string dt] 26)
  have c1 := cell_onG hv (bupK (Below.refl w.heap.size w) (.cells #[.int .i64 dd, .int .i64 uu, .int .i64 gg, .int .i64 mm, .string nn, .int .i64 zz, .string dt] 26))
  have c4 := cell_rowK hP0 4 _ rfl
  obtain ⟨R, hR⟩ : ∃ R, R = strB (QL nn ++ [10]) := ⟨_, rfl⟩
  obtain ⟨Q, hQ⟩ : ∃ Q, Q = strB (QL nn) := ⟨_, rfl⟩
  have hQs : Q.size ≤ 8388610 := by rw [hQ, strB_size]; have := QL_len nn; omega
  have HQ : Hid (∀ w, Calls Tryd.prog 11 #[.string nn] w fun e w' => e = .returned (.string Q) ∧ Below w.heap.size w w') := fun w => by rw [hQ]; exact quote_c nn w (by omega)
  have HL : Hid (∀ (W : World) (b : Nat), W.heap[b]? = some (.cells #[.string Q] 9 (0, 0)) → Calls Tryd.prog 10 #[.slice (some ⟨b, 0, none⟩) 1 1] W fun e w' => e = .returned (.string R) ∧ Below W.heap.size W w') := fun W b hb => by
    have h5 := line_new [Q] 1 rfl w W b hb (by simp) (by simp only [List.flatMap_cons, List.flatMap_nil, List.length_append, lsq_size, List.length_nil]; omega)
    have h6 : strB ([Q].flatMap lsq ++ [10]) = R := by
      rw [hR, hQ]
      simp only [List.flatMap_cons, List.flatMap_nil, List.append_nil, lsq_strB]
    rw [h6] at h5
    exact h5
  rw [← hR]
  clear hR hQ hQs hv hn hP0
  go_enter Tryd.func9, Tryd.ntmps9
  go_wp2_with (first
    | (go_at_call 11; refine (HQ.out _).mono ?_; rintro e w2 ⟨rfl, hb2⟩)
    | (go_at_call 10; refine (HL.out _ _ (heap_alloc_new _ _)).mono ?_; rintro e w4 ⟨rfl, hb4⟩))
  go_ret
  exact ⟨rfl, bel3K (bupK (bel3K (bupK (Below.refl _ _) _) hb2) _) hb4⟩
set_option maxHeartbeats 4000000 in
theorem list1_t (dd uu gg mm zz : Int) (nn dt : ByteArray) (Bv : Nat) (w : World) (hv : w.cell? ⟨Bv, 0, none⟩ = some (.bool true)) (hx : okM ⟨dd, uu, gg, mm, nn, zz, dt⟩) (hn : nn.size ≤ 2097152) (hT : LTabs w) :
    Calls Tryd.prog 9 #[.agg #[.int .i64 dd, .int .i64 uu, .int .i64 gg, .int .i64 mm, .string nn, .int .i64 zz, .string dt], .pointer (some ⟨Bv, 0, none⟩)] w fun e w' => e = .returned (.string (lineB ⟨dd, uu, gg, mm, nn, zz, dt⟩)) ∧ Below w.heap.size w w' := by
  have hP0 := heap_alloc_new w (.cells #[.int .i64 dd, .int .i64 uu, .int .i64 gg, .int .i64 mm, .string nn, .int .i64 zz, .string dt] 26)
  have c1 := cell_onG hv (bupK (Below.refl w.heap.size w) (.cells #[.int .i64 dd, .int .i64 uu, .int .i64 gg, .int .i64 mm, .string nn, .int .i64 zz, .string dt] 26))
  obtain ⟨R, hR⟩ : ∃ R, R = lineB ⟨dd, uu, gg, mm, nn, zz, dt⟩ := ⟨_, rfl⟩
  have HL : Hid (Calls Tryd.prog 5 #[.agg #[.int .i64 dd, .int .i64 uu, .int .i64 gg, .int .i64 mm, .string nn, .int .i64 zz, .string dt]] (w.alloc (.cells #[.int .i64 dd, .int .i64 uu, .int .i64 gg, .int .i64 mm, .string nn, .int .i64 zz, .string dt] 26)) fun e w' => e = .returned (.string R) ∧ Below (w.alloc (.cells #[.int .i64 dd, .int .i64 uu, .int .i64 gg, .int .i64 mm, .string nn, .int .i64 zz, .string dt] 26)).heap.size (w.alloc (.cells #[.int .i64 dd, .int .i64 uu, .int .i64 gg, .int .i64 mm, .string nn, .int .i64 zz, .string dt] 26)) w') := by
    rw [hR]
    exact Line_ok ⟨dd, uu, gg, mm, nn, zz, dt⟩ _ hx hn (hT.on (bupK (Below.refl _ _) _))
  rw [← hR]
  clear hR hT hx hn hv hP0
  go_enter Tryd.func9, Tryd.ntmps9
  go_wp2_with (go_at_call 5; refine HL.out.mono ?_; rintro e w4 ⟨rfl, hb4⟩)
  go_ret
  exact ⟨rfl, bel3K (bupK (Below.refl _ _) _) hb4⟩
set_option maxHeartbeats 4000000 in
theorem List_ok : ListOk 4 := by
  intro v L vb w h hl ht hok hT
  obtain ⟨W, hW⟩ : ∃ W, W = w.alloc (.cells #[.bool vb] 4) := ⟨_, rfl⟩
  have hb : Below w.heap.size w W := by rw [hW]; exact bupK (Below.refl _ _) _
  have hc : W.cell? ⟨w.heap.size, 0, none⟩ = some (.bool vb) := by rw [hW]; exact cell_rowK (heap_alloc_new w _) 0 _ rfl
  have HE : Hid (Calls Tryd.prog 8 #[v, .func (.func 9) #[] #[.pointer (some ⟨w.heap.size, 0, none⟩)]] W fun e w' => e = .returned (.string (strB (L.flatMap (lstL vb)))) ∧ Below W.heap.size W w') := by
    refine eachL_c (lstL vb) w.heap.size v L W (h.on hb) hl (by have := lsts_len vb L hok; unfold lstsL at this; omega) ?_
    rintro ⟨dd, uu, gg, mm, nn, zz, dt⟩ hx W' hb'
    have hc' := cell_onG hc hb'
    have hsz : nn.size ≤ 2097152 := by
      obtain ⟨k, hk⟩ := List.getElem?_of_mem hx
      have := totM_at hk
      simp only [] at this
      omega
    cases vb with
    | false => exact list1_f dd uu gg mm zz nn dt w.heap.size W' hc' hsz
    | true =>
      have h5 := list1_t dd uu gg mm zz nn dt w.heap.size W' hc' (hok _ hx) hsz (hT.on (bel3K hb hb'))
      have e5 : strB (lstL true ⟨dd, uu, gg, mm, nn, zz, dt⟩) = lineB ⟨dd, uu, gg, mm, nn, zz, dt⟩ := strB_lsq _
      rw [e5]
      exact h5
  clear hc h hl ht
  obtain ⟨R, hR⟩ : ∃ R, R = strB (lstsL vb L) := ⟨_, rfl⟩
  rw [← hR]
  have HE2 : Hid (Calls Tryd.prog 8 #[v, .func (.func 9) #[] #[.pointer (some ⟨w.heap.size, 0, none⟩)]] (w.alloc (.cells #[.bool vb] 4)) fun e w' => e = .returned (.string R) ∧ Below W.heap.size W w') := by rw [hR, ← hW]; exact HE.out
  clear hR hW HE
  go_enter Tryd.func4, Tryd.ntmps4
  go_wp2_with (go_at_call 8; refine HE2.out.mono ?_; rintro e w1 ⟨rfl, hb1⟩)
  go_ret
  exact ⟨rfl, bel3K hb hb1⟩
end Go.Proofs.YtjpoifoejbabiaaDoor
