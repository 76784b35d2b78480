import Derived.Test.YtjpoifoejbabiaaDoorM1
import Derived.Test.YtjpoifoejbabiaaDoorGT
import Derived.Deep.Cut
import Derived.Deep.RegionHeld3
import Derived.Test.YtjpoifoejbabiaaDoorLK
import Derived.Test.YtjpoifoejbabiaaDoorM2
import Derived.Great.BuildSlice

-- each, at Print$1.
namespace Go.Proofs.YtjpoifoejbabiaaDoor
open Go.ChangeShapes Go.WideShapes Go.ChangeAt Go.RowKit
set_option linter.unusedVariables false
set_option maxRecDepth 100000
set_option linter.unusedSimpArgs false
set_option maxHeartbeats 4000000 in
theorem eachP_c (S : Mx → List UInt8) (Bv : Nat) (v : Value) (L : List Mx) (w : World) (h : RowM w v L) (hl : L.length ≤ 2097152) (hs : (L.flatMap S).length ≤ 1099511627776)
    (hF : ∀ x ∈ L, ∀ W, Below w.heap.size w W → Calls Tryd.prog 16 #[.agg (mxL x).toArray, .pointer (some ⟨Bv, 0, none⟩)] W fun e w' => e = .returned (.string (strB (S x))) ∧ Below W.heap.size W w') :
    Calls Tryd.prog 8 #[v, .func (.func 16) #[] #[.pointer (some ⟨Bv, 0, none⟩)]] w fun e w' => e = .returned (.string (strB (L.flatMap S))) ∧ Below w.heap.size w w' := by
  obtain ⟨a1, c1, q1, _, _⟩ := h.form
  obtain ⟨n, hnn⟩ : ∃ n, n = L.length := ⟨_, rfl⟩
  subst q1
  have HV := hidK h
  have HN := hidK hnn
  have HS := hidK hs
  have HF := hidK hF
  have hf : IsB w.heap.size w.heap.size [] (w.alloc (.cells #[.pointer none, .slice none 0 0] 39)) := Lib.IsBuilderF.of (Lib.fresh_isBuilder 39 5 w)
  have hba : Below w.heap.size w (w.alloc (.cells #[.pointer none, .slice none 0 0] 39)) := (Below.refl _ w).alloc (Nat.le_refl _) _
  have HST : Hid (∀ (acc : List UInt8) (wx : World), IsB w.heap.size w.heap.size acc wx → w.heap.size ≤ wx.heap.size → Calls Tryd.prog 18 #[.pointer (some ⟨w.heap.size, 0, none⟩)] wx fun e w' => e = .returned (.string (strB acc)) ∧ (Lib.IsBuilderF 39 5 w.heap.size w.heap.size (Lib.byteCells acc) w' ∧ Below w.heap.size wx w' ∧ Lib.OthersKept 5 (some w.heap.size) wx w')) := fun acc wx h hB => Tryd.Builder_String_any_k w.heap.size w.heap.size acc wx h hB
  rw [← hnn] at hl HV ⊢
  clear h hnn hs hF
  go_enter Tryd.func8, Tryd.ntmps8
  go_wp2
  go_loopw [10] (fun i wx => ∃ k : Nat, i = .int .i64 k ∧ k ≤ n ∧ IsB w.heap.size w.heap.size ((L.take k).flatMap S) wx ∧ Below w.heap.size w wx) (fun i _ => n - (intOf i).toNat)
  case atStart => exact ⟨0, rfl, Nat.zero_le _, hf, hba⟩
  case round =>
    obtain ⟨k, rfl, hkn, hI, hB⟩ := hrel
    have hBs := hB.size
    by_cases hk : k < n
    · have kI : (k : Int) < (n : Int) := by omega
      have k0 : (0 : Int) ≤ (k : Int) := by omega
      have hkl : k < L.length := by have := HN.out; omega
      obtain ⟨⟨dd, uu, gg, mm, nn, zz, dt⟩, hx⟩ : ∃ x, L[k]? = some x := ⟨_, List.getElem?_eq_getElem hkl⟩
      obtain ⟨b1, o1, p1, e1, d0, d1, d2, d3, d4, d5, d6⟩ := (HV.out.on hB).mx hx
      simp only [] at d0 d1 d2 d3 d4 d5 d6
      injection e1 with e1 e1b e1c
      subst e1
      obtain ⟨acc, hacc⟩ : ∃ acc, acc = (L.take k).flatMap S := ⟨_, rfl⟩
      obtain ⟨q, hq⟩ : ∃ q, q = S ⟨dd, uu, gg, mm, nn, zz, dt⟩ := ⟨_, rfl⟩
      have HX := hidK (fm_take S hx)
      have hle := fm_le1 S hx
      have HFx : Hid (∀ W, Below w.heap.size w W → Calls Tryd.prog 16 #[.agg #[.int .i64 dd, .int .i64 uu, .int .i64 gg, .int .i64 mm, .string nn, .int .i64 zz, .string dt], .pointer (some ⟨Bv, 0, none⟩)] W fun e w' => e = .returned (.string (strB q)) ∧ Below W.heap.size W w') := fun W hb => by rw [hq]; exact HF.out _ (List.mem_of_getElem? hx) W hb
      rw [← hacc] at hI HX hle
      rw [← hq] at HX hle
      have hss := HS.out
      have hal : acc.length + q.length ≤ 1099511627776 := by omega
      have hqs : (strB q).size = q.length := strB_size q
      have H24 : Hid (∀ (wx : World), IsB w.heap.size w.heap.size acc wx → w.heap.size ≤ wx.heap.size → Calls Tryd.prog 17 #[.pointer (some ⟨w.heap.size, 0, none⟩), .string (strB q)] wx fun e w' => e = .returned (.tuple #[.int .i64 (strB q).size, .nilIface]) ∧ IsB w.heap.size w.heap.size (acc ++ q) w' ∧ Below w.heap.size wx w' ∧ Kept w.heap.size wx w') := fun wx h hB => by
        have := writeString_c w.heap.size w.heap.size acc (strB q) wx h (by rw [hqs]; omega) hB
        rwa [show (strB q).data.toList = q by simp [strB]] at this
      clear hx hkl e1b e1c hacc hq hle hss hal hqs HF HS
      go_wp2_with (first
        | (refine wpList_store_kz rfl rfl _ _ _ rfl wr.heap.size 0 (.agg #[.int .i64 dd, .int .i64 uu, .int .i64 gg, .int .i64 mm, .string nn, .int .i64 zz, .string dt]) rfl rfl _ _ #[.int .i64 dd, .int .i64 uu, .int .i64 gg, .int .i64 mm, .string nn, .int .i64 zz, .string dt] (heap_alloc_new _ _) (by kernel_rfl) rfl rfl rfl ?_; intro W4 S4 q4; have hb4 := q4.belowN (bupK (Below.refl _ wr) _) (Nat.le_refl _) (Nat.le_refl _); have hI4 := isB_on hI hb4; have hB4 := bel3K hB hb4; have c0 := cell_rowK S4 0 _ rfl; have c1 := cell_rowK S4 1 _ rfl; have c2 := cell_rowK S4 2 _ rfl; have c3 := cell_rowK S4 3 _ rfl; have c4 := cell_rowK S4 4 _ rfl; have c5 := cell_rowK S4 5 _ rfl; have c6 := cell_rowK S4 6 _ rfl; clear d0 d1 d2 d3 d4 d5 d6 S4 q4 hb4)
        | (go_at_call 16; refine (HFx.out _ hB4).mono ?_; rintro e w5 ⟨rfl, hb5⟩; have hI5 := isB_on hI4 hb5; have hB5 := bel3K hB4 hb5; have s5 := hB5.size)
        | (go_at_call 17; refine (H24.out _ hI5 s5).mono ?_; rintro e w6 ⟨rfl, h6, bb6, kk6⟩))
      go_roundw
      case rel => exact ⟨k + 1, by go_num, by omega, by rw [HX.out]; exact h6, hB5.trans bb6⟩
      case measure => simp [intOf]; omega
    · obtain rfl : k = n := by omega
      have HE : Hid ((L.take k).flatMap S = L.flatMap S) := by show _ = _; rw [HN.out, List.take_length]
      go_wp2_with (go_at_call 18; refine (HST.out _ _ hI (by omega)).mono ?_; rintro e w4 ⟨rfl, _, b4, _⟩)
      go_ret
      exact ⟨by rw [HE.out]; rfl, hB.trans b4⟩
end Go.Proofs.YtjpoifoejbabiaaDoor

-- ShowPrint's walk, over any Print that tells so.
namespace Go.Proofs.YtjpoifoejbabiaaDoor
open Go.ChangeShapes Go.WideShapes Go.ChangeAt Go.RowKit
set_option linter.unusedVariables false
set_option maxRecDepth 100000
set_option linter.unusedSimpArgs false
def PrintOk (f : Nat) : Prop := ∀ (v : Value) (L : List Mx) (vb : Bool) (w : World), RowM w v L → L.length ≤ 2097152 → totM L ≤ 2097152 → Calls Tryd.prog f #[v, .bool vb] w fun e w' => e = .returned (.string (strB (prtsL vb L))) ∧ Below w.heap.size w w'
end Go.Proofs.YtjpoifoejbabiaaDoor

-- The landed Print.
namespace Go.Proofs.YtjpoifoejbabiaaDoor
open Go.ChangeShapes Go.WideShapes Go.ChangeAt Go.RowKit
set_option linter.unusedVariables false
set_option maxRecDepth 100000
set_option linter.unusedSimpArgs false
theorem keepNew {w wx : World} {nn dt : ByteArray} (h : wx.cell? ⟨w.heap.size, 4, none⟩ = some (.string nn) ∧ wx.cell? ⟨w.heap.size, 6, none⟩ = some (.string dt) ∧ Below w.heap.size w wx) (o : Obj) : (wx.alloc o).cell? ⟨w.heap.size, 4, none⟩ = some (.string nn) ∧ (wx.alloc o).cell? ⟨w.heap.size, 6, none⟩ = some (.string dt) ∧ Below w.heap.size w (wx.alloc o) :=
  ⟨cell_onG h.1 (bupK (Below.refl _ _) _), cell_onG h.2.1 (bupK (Below.refl _ _) _), bupK h.2.2 _⟩
set_option maxHeartbeats 4000000 in
theorem print1_f (dd uu gg mm zz : Int) (nn dt : ByteArray) (Bv : Nat) (w : World) (hv : w.cell? ⟨Bv, 0, none⟩ = some (.bool false)) :
    Calls Tryd.prog 16 #[.agg #[.int .i64 dd, .int .i64 uu, .int .i64 gg, .int .i64 mm, .string nn, .int .i64 zz, .string dt], .pointer (some ⟨Bv, 0, none⟩)] w fun e w' => e = .returned (.string dt) ∧ Below w.heap.size w w' := by
  have hP0 := heap_alloc_new w (.cells #[.int .i64 dd, .int .i64 uu, .int .i64 gg, .int .i64 mm, .string nn, .int .i64 zz, .string dt] 26)
  have c1 := cell_onG hv (bupK (Below.refl w.heap.size w) (.cells #[.int .i64 dd, .int .i64 uu, .int .i64 gg, .int .i64 mm, .string nn, .int .i64 zz, .string dt] 26))
  go_enter Tryd.func16, Tryd.ntmps16
  go_wp2
  go_ret
  exact ⟨rfl, bupK (Below.refl _ _) _⟩
set_option maxHeartbeats 8000000 in
theorem print1_t (dd uu gg mm zz : Int) (nn dt : ByteArray) (Bv : Nat) (w : World) (hv : w.cell? ⟨Bv, 0, none⟩ = some (.bool true)) (hn : nn.size ≤ 2097152) (hd : dt.size ≤ 2097152) :
    Calls Tryd.prog 16 #[.agg #[.int .i64 dd, .int .i64 uu, .int .i64 gg, .int .i64 mm, .string nn, .int .i64 zz, .string dt], .pointer (some ⟨Bv, 0, none⟩)] w fun e w' => e = .returned (.string (strB (prtL true ⟨dd, uu, gg, mm, nn, zz, dt⟩))) ∧ Below w.heap.size w w' := by
  obtain ⟨Q, hQ⟩ : ∃ Q, Q = strB (QL nn) := ⟨_, rfl⟩
  have hQs : Q.size ≤ 8388610 := by rw [hQ, strB_size]; have := QL_len nn; omega
  obtain ⟨Y, hY⟩ : ∃ Y, Y = strB ([⟨#[60]⟩, Q, ⟨#[62]⟩].flatMap lsq ++ [10]) := ⟨_, rfl⟩
  have hYs : Y.size ≤ 8388613 := by
    rw [hY, strB_size]
    simp only [List.flatMap_cons, List.flatMap_nil, List.length_append, lsq_size, List.length_nil, List.length_singleton]
    have e1 : (⟨#[60]⟩ : ByteArray).size = 1 := rfl
    have e2 : (⟨#[62]⟩ : ByteArray).size = 1 := rfl
    omega
  have hP0 := heap_alloc_new w (.cells #[.int .i64 dd, .int .i64 uu, .int .i64 gg, .int .i64 mm, .string nn, .int .i64 zz, .string dt] 26)
  have c1 := cell_onG hv (bupK (Below.refl w.heap.size w) (.cells #[.int .i64 dd, .int .i64 uu, .int .i64 gg, .int .i64 mm, .string nn, .int .i64 zz, .string dt] 26))
  have hB0 : Below w.heap.size w (w.alloc (.cells #[.int .i64 dd, .int .i64 uu, .int .i64 gg, .int .i64 mm, .string nn, .int .i64 zz, .string dt] 26)) := bupK (Below.refl _ _) _
  have KEEP : ∀ wx w' : World, (wx.cell? ⟨w.heap.size, 4, none⟩ = some (.string nn) ∧ wx.cell? ⟨w.heap.size, 6, none⟩ = some (.string dt) ∧ Below w.heap.size w wx) → Below wx.heap.size wx w' → (w'.cell? ⟨w.heap.size, 4, none⟩ = some (.string nn) ∧ w'.cell? ⟨w.heap.size, 6, none⟩ = some (.string dt) ∧ Below w.heap.size w w') := fun wx w' hS hb => ⟨cell_onG hS.1 hb, cell_onG hS.2.1 hb, bel3K hS.2.2 hb⟩
  have H0 : Hid (∀ wx, (wx.cell? ⟨w.heap.size, 4, none⟩ = some (.string nn) ∧ wx.cell? ⟨w.heap.size, 6, none⟩ = some (.string dt) ∧ Below w.heap.size w wx) → Calls Tryd.prog 10 #[.slice none 0 0] wx fun e w' => e = .returned (.string ⟨#[10]⟩) ∧ (w'.cell? ⟨w.heap.size, 4, none⟩ = some (.string nn) ∧ w'.cell? ⟨w.heap.size, 6, none⟩ = some (.string dt) ∧ Below w.heap.size w w')) := fun wx hS => (line0_c wx).mono fun e w' ⟨he, hw⟩ => ⟨he, by subst hw; exact hS⟩
  have HQ : Hid (∀ wx, (wx.cell? ⟨w.heap.size, 4, none⟩ = some (.string nn) ∧ wx.cell? ⟨w.heap.size, 6, none⟩ = some (.string dt) ∧ Below w.heap.size w wx) → Calls Tryd.prog 11 #[.string nn] wx fun e w' => e = .returned (.string Q) ∧ (w'.cell? ⟨w.heap.size, 4, none⟩ = some (.string nn) ∧ w'.cell? ⟨w.heap.size, 6, none⟩ = some (.string dt) ∧ Below w.heap.size w w')) := fun wx hS => (quote_c nn wx (by omega)).mono fun e w' ⟨he, hb⟩ => ⟨by rw [he, hQ]; rfl, KEEP wx w' hS hb⟩
  have HL : Hid (∀ wx b, (wx.cell? ⟨w.heap.size, 4, none⟩ = some (.string nn) ∧ wx.cell? ⟨w.heap.size, 6, none⟩ = some (.string dt) ∧ Below w.heap.size w wx) → wx.heap[b]? = some (.cells #[.string ⟨#[60]⟩, .string Q, .string ⟨#[62]⟩] 9 (0, 0)) → Calls Tryd.prog 10 #[.slice (some ⟨b, 0, none⟩) 3 3] wx fun e w' => e = .returned (.string Y) ∧ (w'.cell? ⟨w.heap.size, 4, none⟩ = some (.string nn) ∧ w'.cell? ⟨w.heap.size, 6, none⟩ = some (.string dt) ∧ Below w.heap.size w w')) := fun wx b hS hb => (line_new [⟨#[60]⟩, Q, ⟨#[62]⟩] 3 rfl w wx b hb (by simp) (by
      simp only [List.flatMap_cons, List.flatMap_nil, List.length_append, lsq_size, List.length_nil]
      have e1 : (⟨#[60]⟩ : ByteArray).size = 1 := rfl
      have e2 : (⟨#[62]⟩ : ByteArray).size = 1 := rfl
      omega)).mono fun e w' ⟨he, hb⟩ => ⟨by rw [he, hY], KEEP wx w' hS hb⟩
  obtain ⟨P1, h1⟩ : ∃ P, (⟨#[10]⟩ : ByteArray) ++ Y = P := ⟨_, rfl⟩
  have s1 : P1.size ≤ 8388614 := by rw [← h1, ByteArray.size_append]; have : (⟨#[10]⟩ : ByteArray).size = 1 := rfl; omega
  obtain ⟨P2, h2⟩ : ∃ P, P1 ++ ⟨#[10]⟩ = P := ⟨_, rfl⟩
  have s2 : P2.size ≤ 8388615 := by rw [← h2, ByteArray.size_append]; have : (⟨#[10]⟩ : ByteArray).size = 1 := rfl; omega
  obtain ⟨P3, h3⟩ : ∃ P, P2 ++ dt = P := ⟨_, rfl⟩
  have HF := hidK (show P3 = strB (prtL true ⟨dd, uu, gg, mm, nn, zz, dt⟩) by
    rw [← h3, ← h2, ← h1, hY, hQ, show (⟨#[10]⟩ : ByteArray) = strB [10] from rfl, strB_app, strB_app]
    conv => lhs; rhs; rw [← strB_lsq dt]
    rw [strB_app]
    congr 1
    unfold prtL
    simp only [List.flatMap_cons, List.flatMap_nil, lsq_strB, if_pos]
    simp [lsq])
  have q1 : ¬ (9223372036854775807 < 1 + Y.size) := by omega
  have q2 : ¬ (9223372036854775807 < P1.size + 1) := by omega
  have q3 : ¬ (9223372036854775807 < P2.size + dt.size) := by omega
  have hSw : (w.alloc (.cells #[.int .i64 dd, .int .i64 uu, .int .i64 gg, .int .i64 mm, .string nn, .int .i64 zz, .string dt] 26)).cell? ⟨w.heap.size, 4, none⟩ = some (.string nn) ∧ (w.alloc (.cells #[.int .i64 dd, .int .i64 uu, .int .i64 gg, .int .i64 mm, .string nn, .int .i64 zz, .string dt] 26)).cell? ⟨w.heap.size, 6, none⟩ = some (.string dt) ∧ Below w.heap.size w (w.alloc (.cells #[.int .i64 dd, .int .i64 uu, .int .i64 gg, .int .i64 mm, .string nn, .int .i64 zz, .string dt] 26)) := ⟨cell_rowK hP0 4 _ rfl, cell_rowK hP0 6 _ rfl, hB0⟩
  rw [← HF.out]
  clear hQ hY hB0 KEEP HF hQs hYs
  go_enter Tryd.func16, Tryd.ntmps16
  go_upto_region 3 with fail
  go_region_held3 (fun w' => (w'.cell? ⟨w.heap.size, 4, none⟩ = some (.string nn) ∧ w'.cell? ⟨w.heap.size, 6, none⟩ = some (.string dt) ∧ Below w.heap.size w w')) (first | assumption | exact ⟨hSw.1, hSw.2.1, hSw.2.2.drew⟩ | exact hSw | (refine keepNew ?_ _; assumption)) (first
    | (go_at_call_of 10 (Value.slice none 0 0); refine (H0.out _ (by assumption)).mono ?_; rintro e w' ⟨rfl, hS'⟩)
    | (go_at_call 11; refine (HQ.out _ (by assumption)).mono ?_; rintro e w' ⟨rfl, hS'⟩)
    | (go_at_call 10; refine (HL.out _ _ (by first | assumption | (refine keepNew ?_ _; assumption)) (heap_alloc_new _ _)).mono ?_; rintro e w' ⟨rfl, hS'⟩))
  have d6 := hS'.2.1
  go_wp2
  go_ret
  exact ⟨rfl, hS'.2.2⟩
set_option maxHeartbeats 4000000 in
theorem Print_ok : PrintOk 6 := by
  intro v L vb w h hl ht
  obtain ⟨W, hW⟩ : ∃ W, W = w.alloc (.cells #[.bool vb] 4) := ⟨_, rfl⟩
  have hb : Below w.heap.size w W := by rw [hW]; exact bupK (Below.refl _ _) _
  have hc : W.cell? ⟨w.heap.size, 0, none⟩ = some (.bool vb) := by rw [hW]; exact cell_rowK (heap_alloc_new w _) 0 _ rfl
  have HE : Hid (Calls Tryd.prog 8 #[v, .func (.func 16) #[] #[.pointer (some ⟨w.heap.size, 0, none⟩)]] W fun e w' => e = .returned (.string (strB (L.flatMap (prtL vb)))) ∧ Below W.heap.size W w') := by
    refine eachP_c (prtL vb) w.heap.size v L W (h.on hb) hl (by have := prts_len vb L; unfold prtsL at this; omega) ?_
    rintro ⟨dd, uu, gg, mm, nn, zz, dt⟩ hx W' hb'
    have hc' := cell_onG hc hb'
    have hsz : nn.size ≤ 2097152 ∧ dt.size ≤ 2097152 := by
      obtain ⟨k, hk⟩ := List.getElem?_of_mem hx
      have := totM_at hk
      simp only [] at this
      omega
    cases vb with
    | false =>
      have h5 := print1_f dd uu gg mm zz nn dt w.heap.size W' hc'
      have e5 : strB (prtL false ⟨dd, uu, gg, mm, nn, zz, dt⟩) = dt := strB_lsq dt
      rw [e5]
      exact h5
    | true => exact print1_t dd uu gg mm zz nn dt w.heap.size W' hc' hsz.1 hsz.2
  clear hc h hl ht
  obtain ⟨R, hR⟩ : ∃ R, R = strB (prtsL vb L) := ⟨_, rfl⟩
  rw [← hR]
  have HE2 : Hid (Calls Tryd.prog 8 #[v, .func (.func 16) #[] #[.pointer (some ⟨w.heap.size, 0, none⟩)]] (w.alloc (.cells #[.bool vb] 4)) fun e w' => e = .returned (.string R) ∧ Below W.heap.size W w') := by rw [hR, ← hW]; exact HE.out
  clear hR hW HE
  go_enter Tryd.func6, Tryd.ntmps6
  go_wp2_with (go_at_call 8; refine HE2.out.mono ?_; rintro e w1 ⟨rfl, hb1⟩)
  go_ret
  exact ⟨rfl, bel3K hb hb1⟩
end Go.Proofs.YtjpoifoejbabiaaDoor

-- ShowParts' walk.
namespace Go.Proofs.YtjpoifoejbabiaaDoor
open Go.ChangeShapes Go.WideShapes Go.ChangeAt Go.RowKit
set_option linter.unusedVariables false
set_option maxRecDepth 100000
set_option linter.unusedSimpArgs false
theorem emp_bS {q : ByteArray} (h : q.size ≠ 0) : (q.toList == []) = false := by
  rw [ByteArray.toList_eq]
  have h2 : q.data.toList.length ≠ 0 := by simpa using h
  cases hl : q.data.toList with
  | nil => rw [hl] at h2; exact absurd rfl h2
  | cons a r => rfl
theorem getS (S : ByteArray) (k : Nat) (h : k < S.size) : (lsq S)[k]'(by rw [lsq_size]; exact h) = S[k] := by
  simp only [lsq, Array.getElem_toList]
  rfl
theorem lsq_app (a b : ByteArray) : lsq (a ++ b) = lsq a ++ lsq b := by simp [lsq]
theorem lst_last (vb : Bool) (x : Mx) : ∃ l, lstL vb x = l ++ [10] := by
  unfold lstL
  cases vb with
  | false => exact ⟨QL x.n, rfl⟩
  | true =>
    rw [if_pos rfl]
    unfold lineB
    rw [lsq_app]
    exact ⟨_, rfl⟩
theorem one_row (x : Mx) (W : World) (g : Nat) (hg : W.heap[g]? = some (.cells (mxL x).toArray 26 (0, 0))) : RowM W (.slice (some ⟨g, 0, none⟩) 1 1) [x] :=
  OwnM.row (B := 0) (L := [x]) (own_wholeG (L := [x]) mxL_len rfl (Nat.zero_le _) (by unfold maxLen; decide) (by rw [show ([x].flatMap mxL) = mxL x by simp]; exact hg))
theorem lsts_one (vb : Bool) (x : Mx) : lstsL vb [x] = lstL vb x := by simp [lstsL]
theorem prts_one (vb : Bool) (x : Mx) : prtsL vb [x] = prtL vb x := by simp [prtsL]
set_option maxHeartbeats 8000000 in
theorem showParts_w (HP0 : ListOk 4) (HN0 : LineOk 5) (HR0 : PrintOk 6) (v0 : Value) (L : List Mx) (vb : Bool) (w : World) (h0 : RowM w v0 L) (hl : L.length ≤ 1048576) (ht : totM L ≤ 1048576) (hok : ∀ m ∈ L, okM m) (hT0 : LTabs w) :
    Calls Tryd.prog 3 #[v0, .bool vb] w fun e w' => e = .returned (.bool true) ∧ Below w.heap.size w w' := by
  obtain ⟨a0, c0, q0, _, _⟩ := h0.form
  obtain ⟨n, hnn⟩ : ∃ n, n = L.length := ⟨_, rfl⟩
  have HTW := hidK (fun (W : World) (hb : Below w.heap.size w W) => twin14_c v0 L W (h0.on hb) (by omega))
  subst q0
  have HV := hidK h0
  have HN := hidK hnn
  have HT := hidK ht
  have HOK := hidK hok
  have HTB := hidK hT0
  have HPO := hidK HP0
  have HNO := hidK HN0
  have HRO := hidK HR0
  rw [← hnn] at hl HV HTW ⊢
  clear h0 hnn ht hok hT0 HP0 HN0 HR0
  go_enter Tryd.func3, Tryd.ntmps3
  go_wp2
  go_loopw [5, 6, 7] (fun a d i wx => ∃ (k : Nat) (NA ND : ByteArray), a = .string NA ∧ d = .string ND ∧ i = .int .i64 k ∧ k ≤ n ∧ Hid (NA = strB (lstsL vb (L.take k))) ∧ Hid (ND = strB (prtsL vb (L.take k))) ∧ Below w.heap.size w wx) (fun _ _ i _ => n - (intOf i).toNat)
  case atStart => exact ⟨0, ⟨#[]⟩, ⟨#[]⟩, rfl, rfl, rfl, Nat.zero_le _, rfl, rfl, Below.refl _ _⟩
  case round =>
    obtain ⟨k, NA, ND, rfl, rfl, rfl, hkn, hNA, hND, hB⟩ := hrel
    by_cases hk : k < n
    · have kI : (k : Int) < (n : Int) := by omega
      have k0 : (0 : Int) ≤ (k : Int) := by omega
      have hkl : k < L.length := by have := HN.out; omega
      obtain ⟨⟨dd, uu, gg, mm, nn, zz, dt⟩, hx⟩ : ∃ x, L[k]? = some x := ⟨_, List.getElem?_eq_getElem hkl⟩
      obtain ⟨b1, o1, p1, e1, D0, D1, D2, D3, D4, D5, D6⟩ := HV.out.mx hx
      simp only [] at D0 D1 D2 D3 D4 D5 D6
      injection e1 with e1 e1b e1c
      subst e1
      have hokx := HOK.out _ (List.mem_of_getElem? hx)
      have HX := hidK (lsts_take (vb := vb) hx)
      have HY := hidK (prts_take (vb := vb) hx)
      have htt := totM_at hx
      have hle := lsts_len vb (L.take k) (fun m hm => HOK.out m (List.mem_of_mem_take hm))
      have hlp := prts_len vb (L.take k)
      have htl : (L.take k).length ≤ k := by rw [List.length_take]; omega
      have htb := HT.out
      have hlx := lstL_len (vb := vb) hokx
      have hpx := prtL_len vb ⟨dd, uu, gg, mm, nn, zz, dt⟩
      simp only [] at htt hlx hpx
      obtain ⟨Q, hQ⟩ : ∃ Q, Q = strB (lstL vb ⟨dd, uu, gg, mm, nn, zz, dt⟩) := ⟨_, rfl⟩
      obtain ⟨P, hP⟩ : ∃ P, P = strB (prtL vb ⟨dd, uu, gg, mm, nn, zz, dt⟩) := ⟨_, rfl⟩
      have hQs : Q.size ≤ 8388608 := by rw [hQ, strB_size]; omega
      have hPs : P.size ≤ 8388608 := by rw [hP, strB_size]; omega
      have hNs : NA.size ≤ 1073741824 := by rw [hNA.out, strB_size]; omega
      have hDs : ND.size ≤ 1073741824 := by rw [hND.out, strB_size]; omega
      have HLi : Hid (∀ (W : World) (g : Nat), Below w.heap.size w W → W.heap[g]? = some (.cells #[.int .i64 dd, .int .i64 uu, .int .i64 gg, .int .i64 mm, .string nn, .int .i64 zz, .string dt] 26 (0, 0)) → Calls Tryd.prog 4 #[.slice (some ⟨g, 0, none⟩) 1 1, .bool vb] W fun e w' => e = .returned (.string Q) ∧ Below W.heap.size W w') := fun W g hb hg => by
        have h5 := HPO.out _ [⟨dd, uu, gg, mm, nn, zz, dt⟩] vb W (one_row ⟨dd, uu, gg, mm, nn, zz, dt⟩ W g hg) (by simp) (by simp [totM]; omega) (by simpa using hokx) (HTB.out.on hb)
        rw [lsts_one, ← hQ] at h5
        exact h5
      have HPr : Hid (∀ (W : World) (g : Nat), W.heap[g]? = some (.cells #[.int .i64 dd, .int .i64 uu, .int .i64 gg, .int .i64 mm, .string nn, .int .i64 zz, .string dt] 26 (0, 0)) → Calls Tryd.prog 6 #[.slice (some ⟨g, 0, none⟩) 1 1, .bool vb] W fun e w' => e = .returned (.string P) ∧ Below W.heap.size W w') := fun W g hg => by
        have h5 := HRO.out _ [⟨dd, uu, gg, mm, nn, zz, dt⟩] vb W (one_row ⟨dd, uu, gg, mm, nn, zz, dt⟩ W g hg) (by simp) (by simp [totM]; omega)
        rw [prts_one, ← hP] at h5
        exact h5
      have HLn : Hid (vb = true → ∀ (W : World), Below w.heap.size w W → Calls Tryd.prog 5 #[.agg #[.int .i64 dd, .int .i64 uu, .int .i64 gg, .int .i64 mm, .string nn, .int .i64 zz, .string dt]] W fun e w' => e = .returned (.string Q) ∧ Below W.heap.size W w') := fun hvb W hb => by
        have h5 := HNO.out ⟨dd, uu, gg, mm, nn, zz, dt⟩ W hokx (by show nn.size ≤ _; omega) (HTB.out.on hb)
        have e5 : lineB ⟨dd, uu, gg, mm, nn, zz, dt⟩ = Q := by rw [hQ, hvb]; exact (strB_lsq _).symm
        rw [e5] at h5
        exact h5
      obtain ⟨LL, hLL⟩ := lst_last vb ⟨dd, uu, gg, mm, nn, zz, dt⟩
      have hls : lsq Q = LL ++ [10] := by rw [hQ, lsq_strB, hLL]
      have hSz : Q.size = LL.length + 1 := by rw [← lsq_size, hls, List.length_append]; rfl
      have hlast : ∀ w, (Instr.index 9 (.string Q) (.int .i64 ((Q.size : Int) - 1))).run Tryd.prog w = .ok (.int .u8 10) w := by
        intro w
        have h5 := idx Q (Q.size - 1) (by omega) w
        have e1 : ((Q.size - 1 : Nat) : Int) = (Q.size : Int) - 1 := by omega
        rw [e1] at h5
        rw [h5]
        have h6 := getS Q (Q.size - 1) (by omega)
        have h7 : (lsq Q)[Q.size - 1]'(by rw [lsq_size]; omega) = 10 := by
          simp only [hls]
          rw [List.getElem_append_right (by omega)]
          simp
        rw [← h6, h7]; rfl
      have hemp : (Q.toList == []) = false := emp_bS (by omega)
      have hemp2 : Q.toList.isEmpty = false := by rw [ByteArray.toList_eq]; rw [ByteArray.toList_eq] at hemp; cases h : Q.data.toList with | nil => rw [h] at hemp; cases hemp | cons a r => rfl
      have hw1 : IntKind.i64.wrap ((Q.size : Int) - 1) = (Q.size : Int) - 1 := by rw [IntKind.wrap_i64]; omega
      have q1 : ¬ (9223372036854775807 < NA.size + Q.size) := by omega
      have q2 : ¬ (9223372036854775807 < ND.size + P.size) := by omega
      have HFA : Hid (NA ++ Q = strB (lstsL vb (L.take (k + 1)))) := by show _ = _; rw [hNA.out, hQ, strB_app, HX.out]
      have HFD : Hid (ND ++ P = strB (prtsL vb (L.take (k + 1)))) := by show _ = _; rw [hND.out, hP, strB_app, HY.out]
      obtain ⟨NB, hNB⟩ : ∃ NB, NA ++ Q = NB := ⟨_, rfl⟩
      obtain ⟨NE, hNE⟩ : ∃ NE, ND ++ P = NE := ⟨_, rfl⟩
      rw [hNB] at HFA
      rw [hNE] at HFD
      have hD := hidK (fun (W : World) (hb : Below w.heap.size w W) => And.intro (cell_onG D0 hb) (And.intro (cell_onG D1 hb) (And.intro (cell_onG D2 hb) (And.intro (cell_onG D3 hb) (And.intro (cell_onG D4 hb) (And.intro (cell_onG D5 hb) (cell_onG D6 hb)))))))
      obtain ⟨d0, d1, d2, d3, d4, d5, d6⟩ := hD.out wr hB
      clear hx hkl e1b e1c hQ hP hle hlp htl htt htb hlx hpx hokx hls hLL hSz HX HY D0 D1 D2 D3 D4 D5 D6 hQs hPs hNs hDs
      go_upto_region 7 with fail
      have hB1 := bupK hB (.cells #[.int .i64 dd, .int .i64 uu, .int .i64 gg, .int .i64 mm, .string nn, .int .i64 zz, .string dt] 26)
      have hg1 := heap_alloc_new wr (.cells #[.int .i64 dd, .int .i64 uu, .int .i64 gg, .int .i64 mm, .string nn, .int .i64 zz, .string dt] 26)
      clear d0 d1 d2 d3 d4 d5 d6
      go_upto_region 8 with (go_at_call 4; refine (HLi.out _ _ hB1 hg1).mono ?_; rintro e w2 ⟨rfl, hb2⟩)
      have hB2 := bel3K hB1 hb2
      obtain ⟨d0, d1, d2, d3, d4, d5, d6⟩ := hD.out w2 hB2
      cases vb with
      | false =>
        go_upto_region 11 with fail
        go_upto_region 12 with fail
        have hB3 := bupK hB2 (.cells #[.int .i64 dd, .int .i64 uu, .int .i64 gg, .int .i64 mm, .string nn, .int .i64 zz, .string dt] 26)
        have hg3 := heap_alloc_new w2 (.cells #[.int .i64 dd, .int .i64 uu, .int .i64 gg, .int .i64 mm, .string nn, .int .i64 zz, .string dt] 26)
        clear d0 d1 d2 d3 d4 d5 d6
        go_wp2_with (go_at_call 6; refine (HPr.out _ _ hg3).mono ?_; rintro e w4 ⟨rfl, hb4⟩)
        go_roundw
        case rel => exact ⟨k + 1, NB, NE, rfl, rfl, by go_num, by omega, HFA, HFD, bel3K hB3 hb4⟩
        case measure => simp [intOf]; omega
      | true =>
        have HLn2 := hidK (HLn.out rfl)
        go_upto_region 10 with (go_at_call 5; refine (HLn2.out _ hB2).mono ?_; rintro e w3 ⟨rfl, hb3⟩)
        have hB3 := bel3K hB2 hb3
        clear d0 d1 d2 d3 d4 d5 d6
        obtain ⟨d0, d1, d2, d3, d4, d5, d6⟩ := hD.out w3 hB3
        go_upto_region 11 with fail
        go_upto_region 12 with fail
        have hB4 := bupK hB3 (.cells #[.int .i64 dd, .int .i64 uu, .int .i64 gg, .int .i64 mm, .string nn, .int .i64 zz, .string dt] 26)
        have hg4 := heap_alloc_new w3 (.cells #[.int .i64 dd, .int .i64 uu, .int .i64 gg, .int .i64 mm, .string nn, .int .i64 zz, .string dt] 26)
        clear d0 d1 d2 d3 d4 d5 d6
        go_wp2_with (go_at_call 6; refine (HPr.out _ _ hg4).mono ?_; rintro e w4 ⟨rfl, hb4⟩)
        go_roundw
        case rel => exact ⟨k + 1, NB, NE, rfl, rfl, by go_num, by omega, HFA, HFD, bel3K hB4 hb4⟩
        case measure => simp [intOf]; omega
    · obtain rfl : k = n := by omega
      have hE : L.take k = L := by rw [HN.out]; exact List.take_length
      rw [hE] at hNA hND
      have HL2 : Hid (∀ (W : World) (u : Value), RowM W u L → Below w.heap.size w W → Calls Tryd.prog 4 #[u, .bool vb] W fun e w' => e = .returned (.string NA) ∧ Below W.heap.size W w') := fun W u hu hb => by
        rw [hNA.out]; exact HPO.out u L vb W hu (by have := HN.out; omega) (by have := HT.out; omega) HOK.out (HTB.out.on hb)
      have HP2 : Hid (∀ (W : World) (u : Value), RowM W u L → Calls Tryd.prog 6 #[u, .bool vb] W fun e w' => e = .returned (.string ND) ∧ Below W.heap.size W w') := fun W u hu => by
        rw [hND.out]; exact HRO.out u L vb W hu (by have := HN.out; omega) (by have := HT.out; omega)
      clear hE HPO HRO HNO HOK HTB
      go_wp2_with (first
        | (go_at_call 7; refine (HTW.out _ (by assumption)).mono ?_; rintro e w1 ⟨u1, rfl, hu1, hb1⟩; have hB1 := bel3K (by assumption) hb1)
        | (go_at_call 4; refine (HL2.out _ _ (by assumption) (by assumption)).mono ?_; rintro e w2 ⟨rfl, hb2⟩; have hB2 := bel3K hB1 hb2; clear hB hB1 hb1 hu1)
        | (go_at_call 6; refine (HP2.out _ _ (by assumption)).mono ?_; rintro e w4 ⟨rfl, hb4⟩))
      go_ret
      exact ⟨by simp, bel3K (by assumption) hb4⟩
end Go.Proofs.YtjpoifoejbabiaaDoor
