
-- The landed Events.
import Derived.Test.YtjpoifoejbabiaaJO
import Derived.Test.YtjpoifoejbabiaaEW
import Derived.Test.YtjpoifoejbabiaaLE
import Derived.Deep.RegionHeld3
namespace Go.Proofs.Ytjpoifoejbabiaa
open Go.ChangeShapes Go.WideShapes Go.ChangeAt Go.RowKit
set_option linter.unusedVariables false
set_option maxRecDepth 100000
set_option linter.unusedSimpArgs false
theorem own1 (w : World) (c : UInt8) : (w.alloc (.cells #[.int .u8 (c.toNat : Int)] 5)).ownsRow w.heap.size 5 1 (.slice (some ⟨w.heap.size, 0, none⟩) 1 1) [c].length (Lib.byteCells [c]) :=
  own_wholeG (c := fun x : UInt8 => [Value.int .u8 (x.toNat : Int)]) (L := [c]) (z := 1) (fun _ => rfl) rfl (Nat.le_refl _) (by unfold maxLen; decide) (heap_alloc_new w _)
set_option maxHeartbeats 1000000 in
theorem oneByte_c (c : UInt8) (w : World) :
    Calls Try.prog 31 #[.int .u8 (c.toNat : Int)] w fun e w' => e = .returned (.string (strB [c])) ∧ Below w.heap.size w w' := by
  have hc := conv_q _ w.heap.size _ [c] (own1 w c)
  obtain ⟨n, hn⟩ : ∃ n : Int, n = (c.toNat : Int) := ⟨_, rfl⟩
  rw [← hn] at hc ⊢
  clear hn
  go_enter Try.func31, Try.ntmps31
  go_wp2
  go_ret
  exact ⟨rfl, bupK (Below.refl _ _) _⟩
theorem keepNewF {w wx : World} {n : Int} {nn : ByteArray} (h : wx.cell? ⟨w.heap.size, 0, none⟩ = some (.int .u8 n) ∧ wx.cell? ⟨w.heap.size, 1, none⟩ = some (.string nn) ∧ Below w.heap.size w wx) (o : Obj) : (wx.alloc o).cell? ⟨w.heap.size, 0, none⟩ = some (.int .u8 n) ∧ (wx.alloc o).cell? ⟨w.heap.size, 1, none⟩ = some (.string nn) ∧ Below w.heap.size w (wx.alloc o) :=
  ⟨cell_onG h.1 (bupK (Below.refl _ _) _), cell_onG h.2.1 (bupK (Below.refl _ _) _), bupK h.2.2 _⟩
set_option maxHeartbeats 4000000 in
theorem events1_u (nn : ByteArray) (w : World) :
    Calls Try.prog 30 #[.agg #[.int .u8 117, .string nn]] w fun e w' => e = .returned (.string ⟨#[]⟩) ∧ Below w.heap.size w w' := by
  go_enter Try.func30, Try.ntmps30
  go_wp2
  go_ret
  exact ⟨rfl, bupK (Below.refl _ _) _⟩
set_option maxHeartbeats 8000000 in
theorem events1_t (ch : UInt8) (nn : ByteArray) (w : World) (hch : ch ≠ 117) (hn : nn.size ≤ 2097152) :
    Calls Try.prog 30 #[.agg #[.int .u8 (ch.toNat : Int), .string nn]] w fun e w' => e = .returned (.string (strB (evtL ⟨ch, nn⟩))) ∧ Below w.heap.size w w' := by
  obtain ⟨Q, hQ⟩ : ∃ Q, Q = strB (QL nn) := ⟨_, rfl⟩
  have hQs : Q.size ≤ 8388610 := by rw [hQ, strB_size]; have := QL_len nn; omega
  obtain ⟨C, hC⟩ : ∃ C, C = strB [ch] := ⟨_, rfl⟩
  have hCs : C.size = 1 := by rw [hC, strB_size]; rfl
  obtain ⟨Y, hY⟩ : ∃ Y, Y = strB (evtL ⟨ch, nn⟩) := ⟨_, rfl⟩
  have hF : strB ([C, ⟨#[32, 45, 32]⟩, Q].flatMap lsq ++ [10]) = Y := by
    rw [hY, hC, hQ]
    unfold evtL
    rw [if_neg hch]
    simp only [List.flatMap_cons, List.flatMap_nil, lsq_strB]
    simp [lsq]
  have hne : ((ch.toNat : Int) == 117) = false := by
    have : ¬ ((ch.toNat : Int) = 117) := fun e => hch (by apply UInt8.toNat.inj; show ch.toNat = 117; omega)
    simp [this]
  have hP0 := heap_alloc_new w (.cells #[.int .u8 (ch.toNat : Int), .string nn] 33)
  have hB0 : Below w.heap.size w (w.alloc (.cells #[.int .u8 (ch.toNat : Int), .string nn] 33)) := bupK (Below.refl _ _) _
  have KEEP : ∀ wx w' : World, (wx.cell? ⟨w.heap.size, 0, none⟩ = some (.int .u8 (ch.toNat : Int)) ∧ wx.cell? ⟨w.heap.size, 1, none⟩ = some (.string nn) ∧ Below w.heap.size w wx) → Below wx.heap.size wx w' → (w'.cell? ⟨w.heap.size, 0, none⟩ = some (.int .u8 (ch.toNat : Int)) ∧ w'.cell? ⟨w.heap.size, 1, none⟩ = some (.string nn) ∧ Below w.heap.size w w') := fun wx w' hS hb => ⟨cell_onG hS.1 hb, cell_onG hS.2.1 hb, bel3K hS.2.2 hb⟩
  have H0 : Hid (∀ wx, (wx.cell? ⟨w.heap.size, 0, none⟩ = some (.int .u8 (ch.toNat : Int)) ∧ wx.cell? ⟨w.heap.size, 1, none⟩ = some (.string nn) ∧ Below w.heap.size w wx) → Calls Try.prog 31 #[.int .u8 (ch.toNat : Int)] wx fun e w' => e = .returned (.string C) ∧ (w'.cell? ⟨w.heap.size, 0, none⟩ = some (.int .u8 (ch.toNat : Int)) ∧ w'.cell? ⟨w.heap.size, 1, none⟩ = some (.string nn) ∧ Below w.heap.size w w')) := fun wx hS => (oneByte_c ch wx).mono fun e w' ⟨he, hb⟩ => ⟨by rw [he, hC], KEEP wx w' hS hb⟩
  have HQ : Hid (∀ wx, (wx.cell? ⟨w.heap.size, 0, none⟩ = some (.int .u8 (ch.toNat : Int)) ∧ wx.cell? ⟨w.heap.size, 1, none⟩ = some (.string nn) ∧ Below w.heap.size w wx) → Calls Try.prog 11 #[.string nn] wx fun e w' => e = .returned (.string Q) ∧ (w'.cell? ⟨w.heap.size, 0, none⟩ = some (.int .u8 (ch.toNat : Int)) ∧ w'.cell? ⟨w.heap.size, 1, none⟩ = some (.string nn) ∧ Below w.heap.size w w')) := fun wx hS => (quote_c nn wx (by omega)).mono fun e w' ⟨he, hb⟩ => ⟨by rw [he, hQ]; rfl, KEEP wx w' hS hb⟩
  have HL : Hid (∀ wx b, (wx.cell? ⟨w.heap.size, 0, none⟩ = some (.int .u8 (ch.toNat : Int)) ∧ wx.cell? ⟨w.heap.size, 1, none⟩ = some (.string nn) ∧ Below w.heap.size w wx) → wx.heap[b]? = some (.cells #[.string C, .string ⟨#[32, 45, 32]⟩, .string Q] 9 (0, 0)) → Calls Try.prog 20 #[.slice (some ⟨b, 0, none⟩) 3 3] wx fun e w' => e = .returned (.string Y) ∧ (w'.cell? ⟨w.heap.size, 0, none⟩ = some (.int .u8 (ch.toNat : Int)) ∧ w'.cell? ⟨w.heap.size, 1, none⟩ = some (.string nn) ∧ Below w.heap.size w w')) := fun wx b hS hb => (line_new [C, ⟨#[32, 45, 32]⟩, Q] 3 rfl w wx b hb (by simp) (by
      simp only [List.flatMap_cons, List.flatMap_nil, List.length_append, lsq_size, List.length_nil]
      have e1 : (⟨#[32, 45, 32]⟩ : ByteArray).size = 3 := rfl
      omega)).mono fun e w' ⟨he, hb⟩ => ⟨by rw [he, hF], KEEP wx w' hS hb⟩
  have hSw : (w.alloc (.cells #[.int .u8 (ch.toNat : Int), .string nn] 33)).cell? ⟨w.heap.size, 0, none⟩ = some (.int .u8 (ch.toNat : Int)) ∧ (w.alloc (.cells #[.int .u8 (ch.toNat : Int), .string nn] 33)).cell? ⟨w.heap.size, 1, none⟩ = some (.string nn) ∧ Below w.heap.size w (w.alloc (.cells #[.int .u8 (ch.toNat : Int), .string nn] 33)) := ⟨cell_rowK hP0 0 _ rfl, cell_rowK hP0 1 _ rfl, hB0⟩
  have hcc := hSw.1
  rw [← hY]
  obtain ⟨n, hnn⟩ : ∃ n : Int, n = (ch.toNat : Int) := ⟨_, rfl⟩
  simp only [← hnn] at *
  clear hnn hQ hC hY hB0 KEEP hF hQs hCs hP0
  go_enter Try.func30, Try.ntmps30
  go_upto_region 3 with fail
  go_region_held3 (fun w' => (w'.cell? ⟨w.heap.size, 0, none⟩ = some (.int .u8 n) ∧ w'.cell? ⟨w.heap.size, 1, none⟩ = some (.string nn) ∧ Below w.heap.size w w')) (first | assumption | exact ⟨hSw.1, hSw.2.1, hSw.2.2.drew⟩ | exact hSw | (refine keepNewF ?_ _; assumption)) (first
    | (go_at_call 31; refine (H0.out _ (by assumption)).mono ?_; rintro e w' ⟨rfl, hS'⟩)
    | (go_at_call 11; refine (HQ.out _ (by assumption)).mono ?_; rintro e w' ⟨rfl, hS'⟩)
    | (go_at_call 20; refine (HL.out _ _ (by first | assumption | (refine keepNewF ?_ _; assumption)) (heap_alloc_new _ _)).mono ?_; rintro e w' ⟨rfl, hS'⟩))
  go_wp2
  go_ret
  exact ⟨rfl, hS'.2.2⟩
set_option maxHeartbeats 4000000 in
theorem Events_ok : EventsOk 12 := by
  intro v L w h hl ht
  have HE : Hid (Calls Try.prog 29 #[v, .func (.func 30) #[] #[]] w fun e w' => e = .returned (.string (strB (evtsL L))) ∧ Below w.heap.size w w') := by
    refine eachE_c evtL v L w h hl (by have := evts_len L; unfold evtsL at this; omega) ?_
    rintro ⟨ch, nn⟩ hx W' hb'
    have hsz : nn.size ≤ 2097152 := by
      obtain ⟨k, hk⟩ := List.getElem?_of_mem hx
      have := totE_at hk
      simp only [] at this
      omega
    by_cases hch : ch = 117
    · subst hch
      exact events1_u nn W'
    · exact events1_t ch nn W' hch hsz
  clear h hl ht
  obtain ⟨R, hR⟩ : ∃ R, R = strB (evtsL L) := ⟨_, rfl⟩
  rw [← hR] at HE ⊢
  clear hR
  go_enter Try.func12, Try.ntmps12
  go_wp2_with (go_at_call 29; refine HE.out.mono ?_; rintro e w1 ⟨rfl, hb1⟩)
  go_ret
  exact ⟨rfl, hb1⟩
end Go.Proofs.Ytjpoifoejbabiaa
