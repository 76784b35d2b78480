
-- each, at Events$1.
import Derived.Test.YtjpoifoejbabiaaJB
namespace Go.Proofs.Ytjpoifoejbabiaa
open Go.ChangeShapes Go.WideShapes Go.ChangeAt Go.RowKit
set_option linter.unusedVariables false
set_option maxRecDepth 100000
set_option linter.unusedSimpArgs false
set_option maxHeartbeats 4000000 in
theorem eachE_c (S : Ew → List UInt8) (v : Value) (L : List Ew) (w : World) (h : RowW w v L) (hl : L.length ≤ 2097152) (hs : (L.flatMap S).length ≤ 1099511627776)
    (hF : ∀ x ∈ L, ∀ W, Below w.heap.size w W → Calls Try.prog 30 #[.agg (ewL x).toArray] W fun e w' => e = .returned (.string (strB (S x))) ∧ Below W.heap.size W w') :
    Calls Try.prog 29 #[v, .func (.func 30) #[] #[]] w fun e w' => e = .returned (.string (strB (L.flatMap S))) ∧ Below w.heap.size w w' := by
  obtain ⟨a1, c1, q1, _, _⟩ := h.form
  obtain ⟨n, hnn⟩ : ∃ n, n = L.length := ⟨_, rfl⟩
  subst q1
  have HV := hidK h
  have HN := hidK hnn
  have HS := hidK hs
  have HF := hidK hF
  have hf : IsB w.heap.size w.heap.size [] (w.alloc (.cells #[.pointer none, .slice none 0 0] 59)) := Lib.IsBuilderF.of (Lib.fresh_isBuilder 59 5 w)
  have hba : Below w.heap.size w (w.alloc (.cells #[.pointer none, .slice none 0 0] 59)) := (Below.refl _ w).alloc (Nat.le_refl _) _
  have HST : Hid (∀ (acc : List UInt8) (wx : World), IsB w.heap.size w.heap.size acc wx → w.heap.size ≤ wx.heap.size → Calls Try.prog 28 #[.pointer (some ⟨w.heap.size, 0, none⟩)] wx fun e w' => e = .returned (.string (strB acc)) ∧ (Lib.IsBuilderF 59 5 w.heap.size w.heap.size (Lib.byteCells acc) w' ∧ Below w.heap.size wx w' ∧ Lib.OthersKept 5 (some w.heap.size) wx w')) := fun acc wx h hB => Try.Builder_String_any_k w.heap.size w.heap.size acc wx h hB
  rw [← hnn] at hl HV ⊢
  clear h hnn hs hF
  go_enter Try.func29, Try.ntmps29
  go_wp2
  go_loopw [10] (fun i wx => ∃ k : Nat, i = .int .i64 k ∧ k ≤ n ∧ IsB w.heap.size w.heap.size ((L.take k).flatMap S) wx ∧ Below w.heap.size w wx) (fun i _ => n - (intOf i).toNat)
  case atStart => exact ⟨0, rfl, Nat.zero_le _, hf, hba⟩
  case round =>
    obtain ⟨k, rfl, hkn, hI, hB⟩ := hrel
    have hBs := hB.size
    by_cases hk : k < n
    · have kI : (k : Int) < (n : Int) := by omega
      have k0 : (0 : Int) ≤ (k : Int) := by omega
      have hkl : k < L.length := by have := HN.out; omega
      obtain ⟨⟨ch, nn⟩, hx⟩ : ∃ x, L[k]? = some x := ⟨_, List.getElem?_eq_getElem hkl⟩
      obtain ⟨b1, o1, p1, e1, d0, d1⟩ := (HV.out.on hB).ew hx
      simp only [] at d0 d1
      injection e1 with e1 e1b e1c
      subst e1
      obtain ⟨acc, hacc⟩ : ∃ acc, acc = (L.take k).flatMap S := ⟨_, rfl⟩
      obtain ⟨q, hq⟩ : ∃ q, q = S ⟨ch, nn⟩ := ⟨_, rfl⟩
      have HX := hidK (fm_take S hx)
      have hle := fm_le1 S hx
      have HFx : Hid (∀ W, Below w.heap.size w W → Calls Try.prog 30 #[.agg #[.int .u8 (ch.toNat : Int), .string nn]] W fun e w' => e = .returned (.string (strB q)) ∧ Below W.heap.size W w') := fun W hb => by rw [hq]; exact HF.out _ (List.mem_of_getElem? hx) W hb
      rw [← hacc] at hI HX hle
      rw [← hq] at HX hle
      have hss := HS.out
      have hal : acc.length + q.length ≤ 1099511627776 := by omega
      have hqs : (strB q).size = q.length := strB_size q
      have H24 : Hid (∀ (wx : World), IsB w.heap.size w.heap.size acc wx → w.heap.size ≤ wx.heap.size → Calls Try.prog 43 #[.pointer (some ⟨w.heap.size, 0, none⟩), .string (strB q)] wx fun e w' => e = .returned (.tuple #[.int .i64 (strB q).size, .nilIface]) ∧ IsB w.heap.size w.heap.size (acc ++ q) w' ∧ Below w.heap.size wx w' ∧ Kept w.heap.size wx w') := fun wx h hB => by
        have := writeString_c w.heap.size w.heap.size acc (strB q) wx h (by rw [hqs]; omega) hB
        rwa [show (strB q).data.toList = q by simp [strB]] at this
      clear hx hkl e1b e1c hacc hq hle hss hal hqs HF HS
      go_wp2_with (first
        | (refine wpList_store_kz rfl rfl _ _ _ rfl wr.heap.size 0 (.agg #[.int .u8 (ch.toNat : Int), .string nn]) rfl rfl _ _ #[.int .u8 (ch.toNat : Int), .string nn] (heap_alloc_new _ _) (by kernel_rfl) rfl rfl rfl ?_; intro W4 S4 q4; have hb4 := q4.belowN (bupK (Below.refl _ wr) _) (Nat.le_refl _) (Nat.le_refl _); have hI4 := isB_on hI hb4; have hB4 := bel3K hB hb4; have c0 := cell_rowK S4 0 _ rfl; have c1 := cell_rowK S4 1 _ rfl; clear d0 d1 S4 q4 hb4)
        | (go_at_call 30; refine (HFx.out _ hB4).mono ?_; rintro e w5 ⟨rfl, hb5⟩; have hI5 := isB_on hI4 hb5; have hB5 := bel3K hB4 hb5; have s5 := hB5.size)
        | (go_at_call 43; refine (H24.out _ hI5 s5).mono ?_; rintro e w6 ⟨rfl, h6, bb6, kk6⟩))
      go_roundw
      case rel => exact ⟨k + 1, by go_num, by omega, by rw [HX.out]; exact h6, hB5.trans bb6⟩
      case measure => simp [intOf]; omega
    · obtain rfl : k = n := by omega
      have HE : Hid ((L.take k).flatMap S = L.flatMap S) := by show _ = _; rw [HN.out, List.take_length]
      go_wp2_with (go_at_call 28; refine (HST.out _ _ hI (by omega)).mono ?_; rintro e w4 ⟨rfl, _, b4, _⟩)
      go_ret
      exact ⟨by rw [HE.out]; rfl, hB.trans b4⟩
end Go.Proofs.Ytjpoifoejbabiaa
