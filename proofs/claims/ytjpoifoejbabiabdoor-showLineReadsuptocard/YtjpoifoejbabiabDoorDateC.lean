
-- The document's own text of a date.
import Derived.Test.YtjpoifoejbabiabDoorDateB
namespace Go.Proofs.YtjpoifoejbabiabDoor
open Go.RowKit
set_option linter.unusedVariables false
set_option maxRecDepth 100000
def namesB : ByteArray := ⟨#[74, 97, 110, 70, 101, 98, 77, 97, 114, 65, 112, 114, 77, 97, 121, 74, 117, 110, 74, 117, 108, 65, 117, 103, 83, 101, 112, 79, 99, 116, 78, 111, 118, 68, 101, 99]⟩
theorem names_at (k : Nat) (h : k < 12) : namesB.extract (3 * k) (3 * k + 3) = mName k := by
  have : ∀ k : Fin 12, namesB.extract (3 * k.val) (3 * k.val + 3) = mName k.val := by decide
  exact this ⟨k, h⟩
theorem rdate_out (s : Int) (w : World) (h : ¬ (0 ≤ s ∧ s ≤ 999999999999)) :
    Calls Tryd.prog 35 #[.int .i64 s] w fun e w' => e = .returned (.string qs) ∧ Below w.heap.size w w' := by
  rcases Int.lt_or_le s 0 with h0 | h0
  · have hb : decide (s < 0) = true := by simp [h0]
    go_enter Tryd.func35, Tryd.ntmps35
    go_wp2
    go_ret
    exact ⟨rfl, by first | exact Below.refl _ _ | exact (Below.refl _ w).alloc (Nat.le_refl _) _⟩
  · have hb : decide (s < 0) = false := by simp; omega
    have hb2 : decide (999999999999 < s) = true := by simp; omega
    go_enter Tryd.func35, Tryd.ntmps35
    go_wp2
    go_ret
    exact ⟨rfl, by first | exact Below.refl _ _ | exact (Below.refl _ w).alloc (Nat.le_refl _) _⟩
theorem itoa_one (n : Nat) (h : n < 10) (w : World) : Calls Tryd.prog 10 #[.int .i64 n] w fun e w' => e = .returned (.string (oneB n)) ∧ w' = w := by
  have := Tryd.strconv_Itoa_small n (by omega) w
  rw [dec_one n h] at this; exact this
theorem itoa_any (n : Int) (h0 : 0 ≤ n) (h1 : n ≤ 9223372036854775807) (w : World) (htab : Lib.TabIs Tryd.prog w "internal/strconv.uint64pow10" .u64 Lib.pow10Tab) :
    Calls Tryd.prog 10 #[.int .i64 n] w fun e w' => e = .returned (.string (yearB n)) ∧ Below w.heap.size w w' :=
  (Tryd.strconv_Itoa n (by omega) h1 w htab).mono fun e w' ⟨he, k, os, hw⟩ => ⟨he, by rw [hw]; exact below_grown w k os⟩
theorem day_one (d : Nat) (h : d < 10) : (⟨#[32]⟩ : ByteArray) ++ oneB d = dayB d := by
  unfold dayB; rw [if_pos h]
  show strB [32] ++ oneB d = _
  unfold oneB; rw [strB_app]; rfl
theorem day_two (d : Nat) (h : 10 ≤ d) : twoB d = dayB d := by unfold dayB; rw [if_neg (by omega)]
set_option maxHeartbeats 4000000 in
theorem rdate_in (s : Int) (w : World) (h0 : 0 ≤ s) (h1 : s ≤ 999999999999) (hT : DTabs w) :
    Calls Tryd.prog 35 #[.int .i64 s] w fun e w' => ∃ (y : Int) (m d : Nat), e = .returned (.string (dateS y m d (s % 86400 / 3600).toNat (s % 3600 / 60).toNat)) ∧ Below w.heap.size w w' ∧ IsDay (s / 86400) y m d := by
  have hb : decide (s < 0) = false := by simp; omega
  have hb2 : decide (999999999999 < s) = false := by simp; omega
  have HC : Hid (∀ w, Calls Tryd.prog 51 #[.int .i64 s] w fun e w' => ∃ (y : Int) (k d : Nat), e = .returned (.agg #[.int .i64 y, .int .i64 ((k : Int) + 1), .int .i64 d, .int .i64 ((s % 86400 / 3600).toNat : Nat), .int .i64 ((s % 3600 / 60).toNat : Nat)]) ∧ Below w.heap.size w w' ∧ k < 12 ∧ d < 32 ∧ 0 ≤ y ∧ y ≤ 100000000 ∧ IsDay (s / 86400) y ((k : Int) + 1) d) := fun w => by
    refine (rcivil_c s w h0 h1).mono fun e w' ⟨y, m, d, he, hw, hD, hy⟩ => ?_
    obtain ⟨a1, a2, a3, a4, a5, a6⟩ := hD
    have hml := (ml_pos y m).2
    refine ⟨y, (m - 1).toNat, d.toNat, ?_, hw, by omega, by omega, by omega, by omega, ?_⟩
    · rw [he, show (((m - 1).toNat : Nat) : Int) + 1 = m by omega, show ((d.toNat : Nat) : Int) = d by omega, show (((s % 86400 / 3600).toNat : Nat) : Int) = s % 86400 / 3600 by omega, show (((s % 3600 / 60).toNat : Nat) : Int) = s % 3600 / 60 by omega]
    · rw [show (((m - 1).toNat : Nat) : Int) + 1 = m by omega, show ((d.toNat : Nat) : Int) = d by omega]
      exact ⟨a1, a2, a3, a4, a5, a6⟩
  have hh9 : (s % 86400 / 3600).toNat < 100 := by omega
  have hi9 : (s % 3600 / 60).toNat < 100 := by omega
  obtain ⟨h, hh⟩ : ∃ h, h = (s % 86400 / 3600).toNat := ⟨_, rfl⟩
  obtain ⟨i, hi⟩ : ∃ i, i = (s % 3600 / 60).toNat := ⟨_, rfl⟩
  rw [← hh] at HC hh9
  rw [← hi] at HC hi9
  rw [← hh, ← hi]
  clear hh hi h0 h1
  have HT : Hid (DTabs w) := hT
  clear hT
  go_enter Tryd.func35, Tryd.ntmps35
  go_wp2_with (go_at_call 51; refine (HC.out _).mono ?_; rintro e w1 ⟨y, k, d, rfl, hb1, hk, hd, hy0, hy1, hD⟩)
  have HDAY : Hid (IsDay (s / 86400) y ((k : Int) + 1) d) := hD
  have hms := mName_size k hk
  have hds := dayB_size d
  have hhs := twoB_size h
  have his := twoB_size i
  have hys := yearB_size y hy0 hy1
  have hyb1 : ¬ 9223372036854775807 < 13 + (yearB y).size := by omega
  have hyb2 : ¬ 9223372036854775794 < (yearB y).size := by omega
  have hyb3 : (yearB y).size ≤ 9223372036854775794 := by omega
  have s1 := hb1.size
  obtain ⟨b, hbn⟩ : ∃ b, b = w1.heap.size := ⟨_, rfl⟩
  obtain ⟨w2, hw2⟩ : ∃ w2, w2 = w1.alloc (.cells #[.int .i64 y, .int .i64 ((k : Int) + 1), .int .i64 d, .int .i64 (h : Nat), .int .i64 (i : Nat)] 77) := ⟨_, rfl⟩
  have hblk : w2.heap[b]? = some (.cells #[.int .i64 y, .int .i64 ((k : Int) + 1), .int .i64 d, .int .i64 (h : Nat), .int .i64 (i : Nat)] 77 (0, 0)) := by rw [hw2, hbn]; exact heap_alloc_new w1 _
  have hbb2 : Below w.heap.size w w2 := by rw [hw2]; exact hb1.alloc s1 _
  rw [← hw2, ← hbn]
  clear hw2
  refine (two_c d (by omega) w2).mono ?_
  rintro e w3 ⟨rfl, hb3⟩
  have hbl : b < w2.heap.size := (Array.getElem?_eq_some_iff.1 hblk).1
  have hbk3 : w3.heap[b]? = some (.cells #[.int .i64 y, .int .i64 ((k : Int) + 1), .int .i64 d, .int .i64 (h : Nat), .int .i64 (i : Nat)] 77 (0, 0)) := (hb3.block b hbl).trans hblk
  have hbb3 : Below w.heap.size w w3 := hbb2.trans (hb3.mono hbb2.size)
  have s3 := hb3.size
  have hbl3 : b < w3.heap.size := by omega
  have c0 : w3.cell? ⟨b, 0, none⟩ = some (.int .i64 y) := by rw [Lib.cell_of_heap hbk3]; rfl
  have c1 : w3.cell? ⟨b, 1, none⟩ = some (.int .i64 ((k : Int) + 1)) := by rw [Lib.cell_of_heap hbk3]; rfl
  have c2 : w3.cell? ⟨b, 2, none⟩ = some (.int .i64 (d : Nat)) := by rw [Lib.cell_of_heap hbk3]; rfl
  have c3 : w3.cell? ⟨b, 3, none⟩ = some (.int .i64 (h : Nat)) := by rw [Lib.cell_of_heap hbk3]; rfl
  have c4 : w3.cell? ⟨b, 4, none⟩ = some (.int .i64 (i : Nat)) := by rw [Lib.cell_of_heap hbk3]; rfl
  have hwb : w.heap.size ≤ b := by rw [hbn]; exact s1
  have HNB : Hid (b < w3.heap.size ∧ w3.heap.size ≤ w3.heap.size) := ⟨hbl3, Nat.le_refl _⟩
  -- what holds in every world of the region, from w3 on
  have KEEP : ∀ wx w' : World, w3.heap.size ≤ wx.heap.size → (wx.cell? ⟨b, 0, none⟩ = some (.int .i64 y) ∧ wx.cell? ⟨b, 1, none⟩ = some (.int .i64 ((k : Int) + 1)) ∧ wx.cell? ⟨b, 3, none⟩ = some (.int .i64 (h : Nat)) ∧ wx.cell? ⟨b, 4, none⟩ = some (.int .i64 (i : Nat)) ∧ Below w.heap.size w wx) → Below wx.heap.size wx w' → (w'.cell? ⟨b, 0, none⟩ = some (.int .i64 y) ∧ w'.cell? ⟨b, 1, none⟩ = some (.int .i64 ((k : Int) + 1)) ∧ w'.cell? ⟨b, 3, none⟩ = some (.int .i64 (h : Nat)) ∧ w'.cell? ⟨b, 4, none⟩ = some (.int .i64 (i : Nat)) ∧ Below w.heap.size w w') := fun wx w' hz hS hb => by
    have hs := hS.2.2.2.2.size
    exact ⟨(hb.cell (p := ⟨b, 0, none⟩) (by show b < _; omega)).trans hS.1, (hb.cell (p := ⟨b, 1, none⟩) (by show b < _; omega)).trans hS.2.1, (hb.cell (p := ⟨b, 3, none⟩) (by show b < _; omega)).trans hS.2.2.1, (hb.cell (p := ⟨b, 4, none⟩) (by show b < _; omega)).trans hS.2.2.2.1, hS.2.2.2.2.trans (hb.mono hs)⟩
  have LT : ∀ wx : World, (wx.cell? ⟨b, 0, none⟩ = some (.int .i64 y) ∧ wx.cell? ⟨b, 1, none⟩ = some (.int .i64 ((k : Int) + 1)) ∧ wx.cell? ⟨b, 3, none⟩ = some (.int .i64 (h : Nat)) ∧ wx.cell? ⟨b, 4, none⟩ = some (.int .i64 (i : Nat)) ∧ Below w.heap.size w wx) → b < wx.heap.size := fun wx hS => World.block_lt_of_cell? wx _ hS.1
  have KEEP2 : ∀ wx w' : World, (wx.cell? ⟨b, 0, none⟩ = some (.int .i64 y) ∧ wx.cell? ⟨b, 1, none⟩ = some (.int .i64 ((k : Int) + 1)) ∧ wx.cell? ⟨b, 3, none⟩ = some (.int .i64 (h : Nat)) ∧ wx.cell? ⟨b, 4, none⟩ = some (.int .i64 (i : Nat)) ∧ Below w.heap.size w wx) → Below wx.heap.size wx w' → (w'.cell? ⟨b, 0, none⟩ = some (.int .i64 y) ∧ w'.cell? ⟨b, 1, none⟩ = some (.int .i64 ((k : Int) + 1)) ∧ w'.cell? ⟨b, 3, none⟩ = some (.int .i64 (h : Nat)) ∧ w'.cell? ⟨b, 4, none⟩ = some (.int .i64 (i : Nat)) ∧ Below w.heap.size w w') := fun wx w' hS hb => by
    have hs := hS.2.2.2.2.size
    have hlt := LT wx hS
    exact ⟨(hb.cell (p := ⟨b, 0, none⟩) hlt).trans hS.1, (hb.cell (p := ⟨b, 1, none⟩) hlt).trans hS.2.1, (hb.cell (p := ⟨b, 3, none⟩) hlt).trans hS.2.2.1, (hb.cell (p := ⟨b, 4, none⟩) hlt).trans hS.2.2.2.1, hS.2.2.2.2.trans (hb.mono hs)⟩
  have HH : Hid (∀ wx, (wx.cell? ⟨b, 0, none⟩ = some (.int .i64 y) ∧ wx.cell? ⟨b, 1, none⟩ = some (.int .i64 ((k : Int) + 1)) ∧ wx.cell? ⟨b, 3, none⟩ = some (.int .i64 (h : Nat)) ∧ wx.cell? ⟨b, 4, none⟩ = some (.int .i64 (i : Nat)) ∧ Below w.heap.size w wx) → Calls Tryd.prog 52 #[.int .i64 (h : Nat)] wx fun e w' => e = .returned (.string (twoB h)) ∧ (w'.cell? ⟨b, 0, none⟩ = some (.int .i64 y) ∧ w'.cell? ⟨b, 1, none⟩ = some (.int .i64 ((k : Int) + 1)) ∧ w'.cell? ⟨b, 3, none⟩ = some (.int .i64 (h : Nat)) ∧ w'.cell? ⟨b, 4, none⟩ = some (.int .i64 (i : Nat)) ∧ Below w.heap.size w w')) := fun wx hS => (two_c h hh9 wx).mono fun e w' ⟨he, hb⟩ => ⟨he, KEEP2 wx w' hS hb⟩
  have HI : Hid (∀ wx, (wx.cell? ⟨b, 0, none⟩ = some (.int .i64 y) ∧ wx.cell? ⟨b, 1, none⟩ = some (.int .i64 ((k : Int) + 1)) ∧ wx.cell? ⟨b, 3, none⟩ = some (.int .i64 (h : Nat)) ∧ wx.cell? ⟨b, 4, none⟩ = some (.int .i64 (i : Nat)) ∧ Below w.heap.size w wx) → Calls Tryd.prog 52 #[.int .i64 (i : Nat)] wx fun e w' => e = .returned (.string (twoB i)) ∧ (w'.cell? ⟨b, 0, none⟩ = some (.int .i64 y) ∧ w'.cell? ⟨b, 1, none⟩ = some (.int .i64 ((k : Int) + 1)) ∧ w'.cell? ⟨b, 3, none⟩ = some (.int .i64 (h : Nat)) ∧ w'.cell? ⟨b, 4, none⟩ = some (.int .i64 (i : Nat)) ∧ Below w.heap.size w w')) := fun wx hS => (two_c i hi9 wx).mono fun e w' ⟨he, hb⟩ => ⟨he, KEEP2 wx w' hS hb⟩
  have HY : Hid (∀ wx, (wx.cell? ⟨b, 0, none⟩ = some (.int .i64 y) ∧ wx.cell? ⟨b, 1, none⟩ = some (.int .i64 ((k : Int) + 1)) ∧ wx.cell? ⟨b, 3, none⟩ = some (.int .i64 (h : Nat)) ∧ wx.cell? ⟨b, 4, none⟩ = some (.int .i64 (i : Nat)) ∧ Below w.heap.size w wx) → Calls Tryd.prog 10 #[.int .i64 y] wx fun e w' => e = .returned (.string (yearB y)) ∧ (w'.cell? ⟨b, 0, none⟩ = some (.int .i64 y) ∧ w'.cell? ⟨b, 1, none⟩ = some (.int .i64 ((k : Int) + 1)) ∧ w'.cell? ⟨b, 3, none⟩ = some (.int .i64 (h : Nat)) ∧ w'.cell? ⟨b, 4, none⟩ = some (.int .i64 (i : Nat)) ∧ Below w.heap.size w w')) := fun wx hS => (itoa_any y hy0 (by omega) wx (HT.out.on hS.2.2.2.2).pow).mono fun e w' ⟨he, hb⟩ => ⟨he, KEEP2 wx w' hS hb⟩
  have hSw : (w3.cell? ⟨b, 0, none⟩ = some (.int .i64 y) ∧ w3.cell? ⟨b, 1, none⟩ = some (.int .i64 ((k : Int) + 1)) ∧ w3.cell? ⟨b, 3, none⟩ = some (.int .i64 (h : Nat)) ∧ w3.cell? ⟨b, 4, none⟩ = some (.int .i64 (i : Nat)) ∧ Below w.heap.size w w3) := ⟨c0, c1, c3, c4, hbb3⟩
  obtain ⟨M, hM⟩ : ∃ M, M = mName k := ⟨_, rfl⟩
  have hext := names_at k hk
  rw [← hM] at hms hext
  have HMN : Hid (M = mName k) := hM
  obtain ⟨a3, ha3⟩ : ∃ a3 : Nat, a3 = 3 * k := ⟨_, rfl⟩
  obtain ⟨b3, hb3n⟩ : ∃ b3 : Nat, b3 = 3 * k + 3 := ⟨_, rfl⟩
  rw [← hb3n, ← ha3] at hext
  have e1 : 3 * ((k : Int) + 1) = (b3 : Int) := by omega
  have e2 : (b3 : Int) - 3 = (a3 : Int) := by omega
  have e3 : IntKind.i64.wrap (b3 : Int) = (b3 : Int) := by rw [IntKind.wrap_i64]; omega
  have e4 : IntKind.i64.wrap (a3 : Int) = (a3 : Int) := by rw [IntKind.wrap_i64]; omega
  have e5 : ((b3 : Int) + 9223372036854775808) % 18446744073709551616 - 9223372036854775808 = (b3 : Int) := by omega
  have e6 : ((a3 : Int) + 9223372036854775808) % 18446744073709551616 - 9223372036854775808 = (a3 : Int) := by omega
  have f1 : (a3 : Int) ≤ (b3 : Int) := by omega
  have f2 : (b3 : Int) ≤ 36 := by omega
  have f3 : (0 : Int) ≤ (a3 : Int) := by omega
  have f4 : a3 ≤ b3 := by omega
  have f5 : b3 ≤ 36 := by omega
  clear KEEP KEEP2 LT hD hM ha3 hb3n hblk hbk3 hb3 hbb2 hbn hbl hbl3 hb1 hk HC HNB
  unfold namesB at hext
  rcases Nat.lt_or_ge d 10 with hd10 | hd10
  · have g1 : decide ((d : Int) < 10) = true := by simp; omega
    have hdo := day_one d hd10
    have hos : (oneB d).size = 1 := by unfold oneB; rw [strB_size]; rfl
    have HO : Hid (∀ w, Calls Tryd.prog 10 #[.int .i64 (d : Nat)] w fun e w' => e = .returned (.string (oneB d)) ∧ w' = w) := fun w => itoa_one d hd10 w
    go_wp2_with (go_at_call 10; refine (HO.out _).mono ?_; rintro e w4 ⟨rfl, hw4⟩; subst w4)
    go_region_held3 (fun w' => (w'.cell? ⟨b, 0, none⟩ = some (.int .i64 y) ∧ w'.cell? ⟨b, 1, none⟩ = some (.int .i64 ((k : Int) + 1)) ∧ w'.cell? ⟨b, 3, none⟩ = some (.int .i64 (h : Nat)) ∧ w'.cell? ⟨b, 4, none⟩ = some (.int .i64 (i : Nat)) ∧ Below w.heap.size w w')) (first | assumption | exact ⟨hSw.1, hSw.2.1, hSw.2.2.1, hSw.2.2.2.1, hSw.2.2.2.2.drew⟩) (first
      | (go_at_call_of 52 (Value.int IntKind.i64 h); refine (HH.out _ (by assumption)).mono ?_; rintro e w' ⟨rfl, hS'⟩)
      | (go_at_call_of 52 (Value.int IntKind.i64 i); refine (HI.out _ (by assumption)).mono ?_; rintro e w' ⟨rfl, hS'⟩)
      | (go_at_call 10; refine (HY.out _ (by assumption)).mono ?_; rintro e w' ⟨rfl, hS'⟩))
    go_wp2
    go_ret
    refine ⟨y, k + 1, d, ?_, hS'.2.2.2.2, ?_⟩
    · unfold dateS; rw [show k + 1 - 1 = k by omega, ← HMN.out]; rfl
    · rw [show ((k + 1 : Nat) : Int) = (k : Int) + 1 by omega]; exact HDAY.out
  · have g1 : decide ((d : Int) < 10) = false := by simp; omega
    have hdo := day_two d hd10
    go_wp2
    go_region_held3 (fun w' => (w'.cell? ⟨b, 0, none⟩ = some (.int .i64 y) ∧ w'.cell? ⟨b, 1, none⟩ = some (.int .i64 ((k : Int) + 1)) ∧ w'.cell? ⟨b, 3, none⟩ = some (.int .i64 (h : Nat)) ∧ w'.cell? ⟨b, 4, none⟩ = some (.int .i64 (i : Nat)) ∧ Below w.heap.size w w')) (first | assumption | exact ⟨hSw.1, hSw.2.1, hSw.2.2.1, hSw.2.2.2.1, hSw.2.2.2.2.drew⟩) (first
      | (go_at_call_of 52 (Value.int IntKind.i64 h); refine (HH.out _ (by assumption)).mono ?_; rintro e w' ⟨rfl, hS'⟩)
      | (go_at_call_of 52 (Value.int IntKind.i64 i); refine (HI.out _ (by assumption)).mono ?_; rintro e w' ⟨rfl, hS'⟩)
      | (go_at_call 10; refine (HY.out _ (by assumption)).mono ?_; rintro e w' ⟨rfl, hS'⟩))
    go_wp2
    go_ret
    refine ⟨y, k + 1, d, ?_, hS'.2.2.2.2, ?_⟩
    · unfold dateS; rw [show k + 1 - 1 = k by omega, ← HMN.out]; rfl
    · rw [show ((k + 1 : Nat) : Int) = (k : Int) + 1 by omega]; exact HDAY.out
end Go.Proofs.YtjpoifoejbabiabDoor
