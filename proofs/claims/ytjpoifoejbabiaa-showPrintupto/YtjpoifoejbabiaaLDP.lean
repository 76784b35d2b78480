
-- The landed Print.
import Derived.Test.YtjpoifoejbabiaaJO
import Derived.Test.YtjpoifoejbabiaaEA
import Derived.Test.YtjpoifoejbabiaaLP
import Derived.Deep.RegionHeld3
namespace Go.Proofs.Ytjpoifoejbabiaa
open Go.ChangeShapes Go.WideShapes Go.ChangeAt Go.RowKit
set_option linter.unusedVariables false
set_option maxRecDepth 100000
set_option linter.unusedSimpArgs false
theorem keepNew {w wx : World} {nn dt : ByteArray} (h : wx.cell? ⟨w.heap.size, 4, none⟩ = some (.string nn) ∧ wx.cell? ⟨w.heap.size, 6, none⟩ = some (.string dt) ∧ Below w.heap.size w wx) (o : Obj) : (wx.alloc o).cell? ⟨w.heap.size, 4, none⟩ = some (.string nn) ∧ (wx.alloc o).cell? ⟨w.heap.size, 6, none⟩ = some (.string dt) ∧ Below w.heap.size w (wx.alloc o) :=
  ⟨cell_onG h.1 (bupK (Below.refl _ _) _), cell_onG h.2.1 (bupK (Below.refl _ _) _), bupK h.2.2 _⟩
set_option maxHeartbeats 4000000 in
theorem print1_f (dd uu gg mm zz : Int) (nn dt : ByteArray) (Bv : Nat) (w : World) (hv : w.cell? ⟨Bv, 0, none⟩ = some (.bool false)) :
    Calls Try.prog 34 #[.agg #[.int .i64 dd, .int .i64 uu, .int .i64 gg, .int .i64 mm, .string nn, .int .i64 zz, .string dt], .pointer (some ⟨Bv, 0, none⟩)] w fun e w' => e = .returned (.string dt) ∧ Below w.heap.size w w' := by
  have hP0 := heap_alloc_new w (.cells #[.int .i64 dd, .int .i64 uu, .int .i64 gg, .int .i64 mm, .string nn, .int .i64 zz, .string dt] 44)
  have c1 := cell_onG hv (bupK (Below.refl w.heap.size w) (.cells #[.int .i64 dd, .int .i64 uu, .int .i64 gg, .int .i64 mm, .string nn, .int .i64 zz, .string dt] 44))
  go_enter Try.func34, Try.ntmps34
  go_wp2
  go_ret
  exact ⟨rfl, bupK (Below.refl _ _) _⟩
set_option maxHeartbeats 8000000 in
theorem print1_t (dd uu gg mm zz : Int) (nn dt : ByteArray) (Bv : Nat) (w : World) (hv : w.cell? ⟨Bv, 0, none⟩ = some (.bool true)) (hn : nn.size ≤ 2097152) (hd : dt.size ≤ 2097152) :
    Calls Try.prog 34 #[.agg #[.int .i64 dd, .int .i64 uu, .int .i64 gg, .int .i64 mm, .string nn, .int .i64 zz, .string dt], .pointer (some ⟨Bv, 0, none⟩)] w fun e w' => e = .returned (.string (strB (prtL true ⟨dd, uu, gg, mm, nn, zz, dt⟩))) ∧ Below w.heap.size w w' := by
  obtain ⟨Q, hQ⟩ : ∃ Q, Q = strB (QL nn) := ⟨_, rfl⟩
  have hQs : Q.size ≤ 8388610 := by rw [hQ, strB_size]; have := QL_len nn; omega
  obtain ⟨Y, hY⟩ : ∃ Y, Y = strB ([⟨#[60]⟩, Q, ⟨#[62]⟩].flatMap lsq ++ [10]) := ⟨_, rfl⟩
  have hYs : Y.size ≤ 8388613 := by
    rw [hY, strB_size]
    simp only [List.flatMap_cons, List.flatMap_nil, List.length_append, lsq_size, List.length_nil, List.length_singleton]
    have e1 : (⟨#[60]⟩ : ByteArray).size = 1 := rfl
    have e2 : (⟨#[62]⟩ : ByteArray).size = 1 := rfl
    omega
  have hP0 := heap_alloc_new w (.cells #[.int .i64 dd, .int .i64 uu, .int .i64 gg, .int .i64 mm, .string nn, .int .i64 zz, .string dt] 44)
  have c1 := cell_onG hv (bupK (Below.refl w.heap.size w) (.cells #[.int .i64 dd, .int .i64 uu, .int .i64 gg, .int .i64 mm, .string nn, .int .i64 zz, .string dt] 44))
  have hB0 : Below w.heap.size w (w.alloc (.cells #[.int .i64 dd, .int .i64 uu, .int .i64 gg, .int .i64 mm, .string nn, .int .i64 zz, .string dt] 44)) := bupK (Below.refl _ _) _
  have KEEP : ∀ wx w' : World, (wx.cell? ⟨w.heap.size, 4, none⟩ = some (.string nn) ∧ wx.cell? ⟨w.heap.size, 6, none⟩ = some (.string dt) ∧ Below w.heap.size w wx) → Below wx.heap.size wx w' → (w'.cell? ⟨w.heap.size, 4, none⟩ = some (.string nn) ∧ w'.cell? ⟨w.heap.size, 6, none⟩ = some (.string dt) ∧ Below w.heap.size w w') := fun wx w' hS hb => ⟨cell_onG hS.1 hb, cell_onG hS.2.1 hb, bel3K hS.2.2 hb⟩
  have H0 : Hid (∀ wx, (wx.cell? ⟨w.heap.size, 4, none⟩ = some (.string nn) ∧ wx.cell? ⟨w.heap.size, 6, none⟩ = some (.string dt) ∧ Below w.heap.size w wx) → Calls Try.prog 20 #[.slice none 0 0] wx fun e w' => e = .returned (.string ⟨#[10]⟩) ∧ (w'.cell? ⟨w.heap.size, 4, none⟩ = some (.string nn) ∧ w'.cell? ⟨w.heap.size, 6, none⟩ = some (.string dt) ∧ Below w.heap.size w w')) := fun wx hS => (line0_c wx).mono fun e w' ⟨he, hw⟩ => ⟨he, by subst hw; exact hS⟩
  have HQ : Hid (∀ wx, (wx.cell? ⟨w.heap.size, 4, none⟩ = some (.string nn) ∧ wx.cell? ⟨w.heap.size, 6, none⟩ = some (.string dt) ∧ Below w.heap.size w wx) → Calls Try.prog 11 #[.string nn] wx fun e w' => e = .returned (.string Q) ∧ (w'.cell? ⟨w.heap.size, 4, none⟩ = some (.string nn) ∧ w'.cell? ⟨w.heap.size, 6, none⟩ = some (.string dt) ∧ Below w.heap.size w w')) := fun wx hS => (quote_c nn wx (by omega)).mono fun e w' ⟨he, hb⟩ => ⟨by rw [he, hQ]; rfl, KEEP wx w' hS hb⟩
  have HL : Hid (∀ wx b, (wx.cell? ⟨w.heap.size, 4, none⟩ = some (.string nn) ∧ wx.cell? ⟨w.heap.size, 6, none⟩ = some (.string dt) ∧ Below w.heap.size w wx) → wx.heap[b]? = some (.cells #[.string ⟨#[60]⟩, .string Q, .string ⟨#[62]⟩] 9 (0, 0)) → Calls Try.prog 20 #[.slice (some ⟨b, 0, none⟩) 3 3] wx fun e w' => e = .returned (.string Y) ∧ (w'.cell? ⟨w.heap.size, 4, none⟩ = some (.string nn) ∧ w'.cell? ⟨w.heap.size, 6, none⟩ = some (.string dt) ∧ Below w.heap.size w w')) := fun wx b hS hb => (line_new [⟨#[60]⟩, Q, ⟨#[62]⟩] 3 rfl w wx b hb (by simp) (by
      simp only [List.flatMap_cons, List.flatMap_nil, List.length_append, lsq_size, List.length_nil]
      have e1 : (⟨#[60]⟩ : ByteArray).size = 1 := rfl
      have e2 : (⟨#[62]⟩ : ByteArray).size = 1 := rfl
      omega)).mono fun e w' ⟨he, hb⟩ => ⟨by rw [he, hY], KEEP wx w' hS hb⟩
  obtain ⟨P1, h1⟩ : ∃ P, (⟨#[10]⟩ : ByteArray) ++ Y = P := ⟨_, rfl⟩
  have s1 : P1.size ≤ 8388614 := by rw [← h1, ByteArray.size_append]; have : (⟨#[10]⟩ : ByteArray).size = 1 := rfl; omega
  obtain ⟨P2, h2⟩ : ∃ P, P1 ++ ⟨#[10]⟩ = P := ⟨_, rfl⟩
  have s2 : P2.size ≤ 8388615 := by rw [← h2, ByteArray.size_append]; have : (⟨#[10]⟩ : ByteArray).size = 1 := rfl; omega
  obtain ⟨P3, h3⟩ : ∃ P, P2 ++ dt = P := ⟨_, rfl⟩
  have HF := hidK (show P3 = strB (prtL true ⟨dd, uu, gg, mm, nn, zz, dt⟩) by
    rw [← h3, ← h2, ← h1, hY, hQ, show (⟨#[10]⟩ : ByteArray) = strB [10] from rfl, strB_app, strB_app]
    conv => lhs; rhs; rw [← strB_lsq dt]
    rw [strB_app]
    congr 1
    unfold prtL
    simp only [List.flatMap_cons, List.flatMap_nil, lsq_strB, if_pos]
    simp [lsq])
  have q1 : ¬ (9223372036854775807 < 1 + Y.size) := by omega
  have q2 : ¬ (9223372036854775807 < P1.size + 1) := by omega
  have q3 : ¬ (9223372036854775807 < P2.size + dt.size) := by omega
  have hSw : (w.alloc (.cells #[.int .i64 dd, .int .i64 uu, .int .i64 gg, .int .i64 mm, .string nn, .int .i64 zz, .string dt] 44)).cell? ⟨w.heap.size, 4, none⟩ = some (.string nn) ∧ (w.alloc (.cells #[.int .i64 dd, .int .i64 uu, .int .i64 gg, .int .i64 mm, .string nn, .int .i64 zz, .string dt] 44)).cell? ⟨w.heap.size, 6, none⟩ = some (.string dt) ∧ Below w.heap.size w (w.alloc (.cells #[.int .i64 dd, .int .i64 uu, .int .i64 gg, .int .i64 mm, .string nn, .int .i64 zz, .string dt] 44)) := ⟨cell_rowK hP0 4 _ rfl, cell_rowK hP0 6 _ rfl, hB0⟩
  rw [← HF.out]
  clear hQ hY hB0 KEEP HF hQs hYs
  go_enter Try.func34, Try.ntmps34
  go_upto_region 3 with fail
  go_region_held3 (fun w' => (w'.cell? ⟨w.heap.size, 4, none⟩ = some (.string nn) ∧ w'.cell? ⟨w.heap.size, 6, none⟩ = some (.string dt) ∧ Below w.heap.size w w')) (first | assumption | exact ⟨hSw.1, hSw.2.1, hSw.2.2.drew⟩ | exact hSw | (refine keepNew ?_ _; assumption)) (first
    | (go_at_call_of 20 (Value.slice none 0 0); refine (H0.out _ (by assumption)).mono ?_; rintro e w' ⟨rfl, hS'⟩)
    | (go_at_call 11; refine (HQ.out _ (by assumption)).mono ?_; rintro e w' ⟨rfl, hS'⟩)
    | (go_at_call 20; refine (HL.out _ _ (by first | assumption | (refine keepNew ?_ _; assumption)) (heap_alloc_new _ _)).mono ?_; rintro e w' ⟨rfl, hS'⟩))
  have d6 := hS'.2.1
  go_wp2
  go_ret
  exact ⟨rfl, hS'.2.2⟩
set_option maxHeartbeats 4000000 in
theorem Print_ok : PrintOk 16 := by
  intro v L vb w h hl ht
  obtain ⟨W, hW⟩ : ∃ W, W = w.alloc (.cells #[.bool vb] 4) := ⟨_, rfl⟩
  have hb : Below w.heap.size w W := by rw [hW]; exact bupK (Below.refl _ _) _
  have hc : W.cell? ⟨w.heap.size, 0, none⟩ = some (.bool vb) := by rw [hW]; exact cell_rowK (heap_alloc_new w _) 0 _ rfl
  have HE : Hid (Calls Try.prog 33 #[v, .func (.func 34) #[] #[.pointer (some ⟨w.heap.size, 0, none⟩)]] W fun e w' => e = .returned (.string (strB (L.flatMap (prtL vb)))) ∧ Below W.heap.size W w') := by
    refine eachP_c (prtL vb) w.heap.size v L W (h.on hb) hl (by have := prts_len vb L; unfold prtsL at this; omega) ?_
    rintro ⟨dd, uu, gg, mm, nn, zz, dt⟩ hx W' hb'
    have hc' := cell_onG hc hb'
    have hsz : nn.size ≤ 2097152 ∧ dt.size ≤ 2097152 := by
      obtain ⟨k, hk⟩ := List.getElem?_of_mem hx
      have := totM_at hk
      simp only [] at this
      omega
    cases vb with
    | false =>
      have h5 := print1_f dd uu gg mm zz nn dt w.heap.size W' hc'
      have e5 : strB (prtL false ⟨dd, uu, gg, mm, nn, zz, dt⟩) = dt := strB_lsq dt
      rw [e5]
      exact h5
    | true => exact print1_t dd uu gg mm zz nn dt w.heap.size W' hc' hsz.1 hsz.2
  clear hc h hl ht
  obtain ⟨R, hR⟩ : ∃ R, R = strB (prtsL vb L) := ⟨_, rfl⟩
  rw [← hR]
  have HE2 : Hid (Calls Try.prog 33 #[v, .func (.func 34) #[] #[.pointer (some ⟨w.heap.size, 0, none⟩)]] (w.alloc (.cells #[.bool vb] 4)) fun e w' => e = .returned (.string R) ∧ Below W.heap.size W w') := by rw [hR, ← hW]; exact HE.out
  clear hR hW HE
  go_enter Try.func16, Try.ntmps16
  go_wp2_with (go_at_call 33; refine HE2.out.mono ?_; rintro e w1 ⟨rfl, hb1⟩)
  go_ret
  exact ⟨rfl, bel3K hb hb1⟩
end Go.Proofs.Ytjpoifoejbabiaa
