
-- The program's text of a date.
import Derived.Test.YtjpoifoejbabiaaDoorDateA
import Derived.Deep.RegionHeld3
import Derived.BigRegion
namespace Go.Proofs.YtjpoifoejbabiaaDoor
open Go.RowKit
set_option linter.unusedVariables false
set_option maxRecDepth 100000
def mName (k : Nat) : ByteArray := strB (([[74, 97, 110], [70, 101, 98], [77, 97, 114], [65, 112, 114], [77, 97, 121], [74, 117, 110], [74, 117, 108], [65, 117, 103], [83, 101, 112], [79, 99, 116], [78, 111, 118], [68, 101, 99]] : List (List UInt8)).getD k [])
/-- What the three tables hold. -/
structure DTabs (w : World) : Prop where
  names : ∀ i : Nat, i < 12 → w.cell? ⟨1, i, none⟩ = some (.string (mName i))
  days : MonTab w
  pow : Lib.TabIs Tryd.prog w "internal/strconv.uint64pow10" .u64 Lib.pow10Tab
  low : 5 ≤ w.heap.size
theorem gPow : Tryd.prog.globalNamed "internal/strconv.uint64pow10" = some 4 := by kernel_rfl
theorem DTabs.on {w w' : World} (h : DTabs w) (b : Below w.heap.size w w') : DTabs w' := by
  have hl := h.low
  exact ⟨fun i hi => (b.cell (p := ⟨1, i, none⟩) (by show 1 < _; omega)).trans (h.names i hi), fun i hi => (b.cell (p := ⟨2, i, none⟩) (by show 2 < _; omega)).trans (h.days i hi), var?_below b gPow (by omega) h.pow, Nat.le_trans h.low b.size⟩
def yearB (y : Int) : ByteArray := ⟨(Lib.itoa y).toArray⟩
/-- A date's text. -/
def dateS (y : Int) (m d h i : Nat) : ByteArray := mName (m - 1) ++ ⟨#[32]⟩ ++ dayB d ++ ⟨#[32]⟩ ++ twoB h ++ ⟨#[58]⟩ ++ twoB i ++ ⟨#[32]⟩ ++ yearB y
theorem mName_size (k : Nat) (h : k < 12) : (mName k).size = 3 := by
  have : ∀ k : Fin 12, (mName k.val).size = 3 := by decide
  exact this ⟨k, h⟩
theorem dayB_size (d : Nat) : (dayB d).size = 2 := by
  unfold dayB twoB; split <;> rw [strB_size] <;> rfl
theorem twoB_size (d : Nat) : (twoB d).size = 2 := by unfold twoB; rw [strB_size]; rfl
theorem dec_len : ∀ (n u : Nat), u < 10 ^ (n + 1) → (Lib.decDigits u).length ≤ n + 1
  | 0, u, h => by rw [Lib.decDigits, dif_pos (by simpa using h)]; simp
  | n + 1, u, h => by
    by_cases hu : u < 10
    · rw [Lib.decDigits, dif_pos hu]; simp
    · rw [Lib.decDigits, dif_neg hu, List.length_append]
      have := dec_len n (u / 10) (by rw [Nat.pow_succ] at h; omega)
      simp only [List.length_singleton]
      omega
theorem yearB_size (y : Int) (h0 : 0 ≤ y) (h1 : y ≤ 100000000) : (yearB y).size ≤ 100 := by
  have e : (yearB y).size = (Lib.decDigits y.toNat).length := by
    unfold yearB Lib.itoa
    rw [if_neg (by omega)]
    simp [ByteArray.size]
  have := dec_len 9 y.toNat (by have : (10 : Nat) ^ (9 + 1) = 10000000000 := by decide
                                omega)
  omega
set_option maxHeartbeats 2000000 in
theorem date_in (s : Int) (w : World) (h0 : 0 ≤ s) (h1 : s ≤ 999999999999) (hT : DTabs w) :
    Calls Tryd.prog 15 #[.int .i64 s] w fun e w' => ∃ (y : Int) (m d : Nat), e = .returned (.string (dateS y m d (s % 86400 / 3600).toNat (s % 3600 / 60).toNat)) ∧ Below w.heap.size w w' ∧ IsDay (s / 86400) y m d := by
  have HD : Hid (∀ w, Calls Tryd.prog 27 #[.int .i64 s] w fun e w' => e = .returned (.bool true) ∧ w' = w) := fun w => by
    have := isDate_c s w; rwa [decide_eq_true (⟨h0, h1⟩)] at this
  have HC : Hid (∀ w, DTabs w → Calls Tryd.prog 28 #[.int .i64 s] w fun e w' => ∃ (y : Int) (k d : Nat), e = .returned (.tuple #[.int .i64 y, .int .i64 ((k : Int) + 1), .int .i64 d, .int .i64 ((s % 86400 / 3600).toNat : Nat), .int .i64 ((s % 3600 / 60).toNat : Nat)]) ∧ w' = w ∧ k < 12 ∧ d < 32 ∧ 0 ≤ y ∧ y ≤ 100000000 ∧ IsDay (s / 86400) y ((k : Int) + 1) d) := fun w hT => by
    refine (civil_in s w h0 h1 hT.days).mono fun e w' ⟨y, m, d, he, hw, hD, hy⟩ => ?_
    obtain ⟨a1, a2, a3, a4, a5, a6⟩ := hD
    have hml := (ml_pos y m).2
    refine ⟨y, (m - 1).toNat, d.toNat, ?_, hw, by omega, by omega, by omega, by omega, ?_⟩
    · rw [he, show (((m - 1).toNat : Nat) : Int) + 1 = m by omega, show ((d.toNat : Nat) : Int) = d by omega, show (((s % 86400 / 3600).toNat : Nat) : Int) = s % 86400 / 3600 by omega, show (((s % 3600 / 60).toNat : Nat) : Int) = s % 3600 / 60 by omega]
    · rw [show (((m - 1).toNat : Nat) : Int) + 1 = m by omega, show ((d.toNat : Nat) : Int) = d by omega]
      exact ⟨a1, a2, a3, a4, a5, a6⟩
  have hh9 : (s % 86400 / 3600).toNat < 100 := by omega
  have hi9 : (s % 3600 / 60).toNat < 100 := by omega
  obtain ⟨h, hh⟩ : ∃ h, h = (s % 86400 / 3600).toNat := ⟨_, rfl⟩
  obtain ⟨i, hi⟩ : ∃ i, i = (s % 3600 / 60).toNat := ⟨_, rfl⟩
  rw [← hh] at HC hh9
  rw [← hi] at HC hi9
  rw [← hh, ← hi]
  clear hh hi h0 h1
  have HT : Hid (DTabs w) := hT
  have HCW := HC.out w hT
  have HCW' : Hid (Calls Tryd.prog 28 #[.int .i64 s] w fun e w' => ∃ (y : Int) (k d : Nat), e = .returned (.tuple #[.int .i64 y, .int .i64 ((k : Int) + 1), .int .i64 d, .int .i64 (h : Nat), .int .i64 (i : Nat)]) ∧ w' = w ∧ k < 12 ∧ d < 32 ∧ 0 ≤ y ∧ y ≤ 100000000 ∧ IsDay (s / 86400) y ((k : Int) + 1) d) := HCW
  clear HCW HC hT
  go_enter Tryd.func15, Tryd.ntmps15
  go_wp2_with (first
    | (go_at_call 27; refine (HD.out _).mono ?_; rintro e w1 ⟨rfl, hw1⟩; subst w1)
    | (go_at_call 28; refine (HCW'.out).mono ?_; rintro e w1 ⟨y, k, d, rfl, hw1, hk, hd, hy0, hy1, hD⟩; subst w1))
  have HDAY : Hid (IsDay (s / 86400) y ((k : Int) + 1) d) := hD
  have hck := HT.out.names k hk
  have hms := mName_size k hk
  have hds := dayB_size d
  have hhs := twoB_size h
  have his := twoB_size i
  obtain ⟨M, hM⟩ : ∃ M, M = mName k := ⟨_, rfl⟩
  rw [← hM] at hck hms
  have hblk : 1 < w.heap.size := by have := HT.out.low; omega
  -- what holds in every world of the region
  have HH : Hid (∀ wx, (wx.cell? ⟨1, k, none⟩ = some (.string M) ∧ Below w.heap.size w wx) → Calls Tryd.prog 30 #[.int .i64 (h : Nat)] wx fun e w' => e = .returned (.string (twoB h)) ∧ (w'.cell? ⟨1, k, none⟩ = some (.string M) ∧ Below w.heap.size w w')) := fun wx hS => (twoDigits_c h hh9 wx).mono fun e w' ⟨he, hw⟩ => ⟨he, by rw [hw]; exact hS⟩
  have HI : Hid (∀ wx, (wx.cell? ⟨1, k, none⟩ = some (.string M) ∧ Below w.heap.size w wx) → Calls Tryd.prog 30 #[.int .i64 (i : Nat)] wx fun e w' => e = .returned (.string (twoB i)) ∧ (w'.cell? ⟨1, k, none⟩ = some (.string M) ∧ Below w.heap.size w w')) := fun wx hS => (twoDigits_c i hi9 wx).mono fun e w' ⟨he, hw⟩ => ⟨he, by rw [hw]; exact hS⟩
  have KEEP : ∀ wx w' : World, (wx.cell? ⟨1, k, none⟩ = some (.string M) ∧ Below w.heap.size w wx) → Below wx.heap.size wx w' → (w'.cell? ⟨1, k, none⟩ = some (.string M) ∧ Below w.heap.size w w') := fun wx w' hS hb => by
    have hs := hS.2.size
    exact ⟨(hb.cell (p := ⟨1, k, none⟩) (by show 1 < _; omega)).trans hS.1, hS.2.trans (hb.mono hs)⟩
  have HY : Hid (∀ wx, (wx.cell? ⟨1, k, none⟩ = some (.string M) ∧ Below w.heap.size w wx) → Calls Tryd.prog 29 #[.int .i64 y] wx fun e w' => e = .returned (.string (yearB y)) ∧ (w'.cell? ⟨1, k, none⟩ = some (.string M) ∧ Below w.heap.size w w')) := fun wx hS => (decimal_any y hy0 (by omega) wx (HT.out.on hS.2).pow).mono fun e w' ⟨he, hb⟩ => ⟨he, KEEP wx w' hS hb⟩
  have hys : (yearB y).size ≤ 100 := yearB_size y hy0 hy1
  have hy1 : ¬ 9223372036854775807 < 13 + (yearB y).size := by omega
  have hy2 : ¬ 9223372036854775794 < (yearB y).size := by omega
  have hy3 : (yearB y).size ≤ 9223372036854775794 := by omega
  have HK : Hid (∀ wx w' : World, (wx.cell? ⟨1, k, none⟩ = some (.string M) ∧ Below w.heap.size w wx) → Below wx.heap.size wx w' → (w'.cell? ⟨1, k, none⟩ = some (.string M) ∧ Below w.heap.size w w')) := KEEP
  have hSw : w.cell? ⟨1, k, none⟩ = some (.string M) ∧ Below w.heap.size w w := ⟨hck, Below.refl _ _⟩
  have kI : (k : Int) < 12 := by omega
  have kI0 : (0 : Int) ≤ (k : Int) := by omega
  have hw1 : IntKind.i64.wrap (k : Int) = (k : Int) := by rw [IntKind.wrap_i64]; omega
  have hw2 : ((k : Int) + 9223372036854775808) % 18446744073709551616 - 9223372036854775808 = (k : Int) := by omega
  have HMN : Hid (M = mName k) := hM
  clear KEEP hD hM hck
  rcases Nat.lt_or_ge d 10 with hd10 | hd10
  · have HA : Hid (∀ wx, (wx.cell? ⟨1, k, none⟩ = some (.string M) ∧ Below w.heap.size w wx) → Calls Tryd.prog 29 #[.int .i64 (d : Nat)] wx fun e w' => e = .returned (.string (oneB d)) ∧ (w'.cell? ⟨1, k, none⟩ = some (.string M) ∧ Below w.heap.size w w')) := fun wx hS => (decimal_one d hd10 wx).mono fun e w' ⟨he, hw⟩ => ⟨he, by rw [hw]; exact hS⟩
    have HB : Hid (∀ wx, (wx.cell? ⟨1, k, none⟩ = some (.string M) ∧ Below w.heap.size w wx) → Calls Tryd.prog 14 #[.string (oneB d), .int .i64 2] wx fun e w' => e = .returned (.string (dayB d)) ∧ (w'.cell? ⟨1, k, none⟩ = some (.string M) ∧ Below w.heap.size w w')) := fun wx hS => (right_one d hd10 wx).mono fun e w' ⟨he, hb⟩ => ⟨he, HK.out wx w' hS hb⟩
    go_region_held3 (fun w' => w'.cell? ⟨1, k, none⟩ = some (.string M) ∧ Below w.heap.size w w') (first | assumption | exact ⟨hSw.1, hSw.2.drew⟩) (first
      | (go_at_call 14; refine (HB.out _ (by assumption)).mono ?_; rintro e w' ⟨rfl, hS'⟩)
      | (go_at_call_of 30 (Value.int IntKind.i64 h); refine (HH.out _ (by assumption)).mono ?_; rintro e w' ⟨rfl, hS'⟩)
      | (go_at_call_of 30 (Value.int IntKind.i64 i); refine (HI.out _ (by assumption)).mono ?_; rintro e w' ⟨rfl, hS'⟩)
      | (go_at_call_of 29 (Value.int IntKind.i64 d); refine (HA.out _ (by assumption)).mono ?_; rintro e w' ⟨rfl, hS'⟩)
      | (go_at_call_of 29 (Value.int IntKind.i64 y); refine (HY.out _ (by assumption)).mono ?_; rintro e w' ⟨rfl, hS'⟩))
    go_wp2
    go_ret
    refine ⟨y, k + 1, d, ?_, hS'.2, ?_⟩
    · unfold dateS; rw [show k + 1 - 1 = k by omega, ← HMN.out]; rfl
    · rw [show ((k + 1 : Nat) : Int) = (k : Int) + 1 by omega]; exact HDAY.out
  · have HA : Hid (∀ wx, (wx.cell? ⟨1, k, none⟩ = some (.string M) ∧ Below w.heap.size w wx) → Calls Tryd.prog 29 #[.int .i64 (d : Nat)] wx fun e w' => e = .returned (.string (twoB d)) ∧ (w'.cell? ⟨1, k, none⟩ = some (.string M) ∧ Below w.heap.size w w')) := fun wx hS => (decimal_two d hd10 (by omega) wx).mono fun e w' ⟨he, hw⟩ => ⟨he, by rw [hw]; exact hS⟩
    have HB : Hid (∀ wx, (wx.cell? ⟨1, k, none⟩ = some (.string M) ∧ Below w.heap.size w wx) → Calls Tryd.prog 14 #[.string (twoB d), .int .i64 2] wx fun e w' => e = .returned (.string (dayB d)) ∧ (w'.cell? ⟨1, k, none⟩ = some (.string M) ∧ Below w.heap.size w w')) := fun wx hS => (right_two d hd10 (by omega) wx).mono fun e w' ⟨he, hb⟩ => ⟨he, HK.out wx w' hS hb⟩
    go_region_held3 (fun w' => w'.cell? ⟨1, k, none⟩ = some (.string M) ∧ Below w.heap.size w w') (first | assumption | exact ⟨hSw.1, hSw.2.drew⟩) (first
      | (go_at_call 14; refine (HB.out _ (by assumption)).mono ?_; rintro e w' ⟨rfl, hS'⟩)
      | (go_at_call_of 30 (Value.int IntKind.i64 h); refine (HH.out _ (by assumption)).mono ?_; rintro e w' ⟨rfl, hS'⟩)
      | (go_at_call_of 30 (Value.int IntKind.i64 i); refine (HI.out _ (by assumption)).mono ?_; rintro e w' ⟨rfl, hS'⟩)
      | (go_at_call_of 29 (Value.int IntKind.i64 d); refine (HA.out _ (by assumption)).mono ?_; rintro e w' ⟨rfl, hS'⟩)
      | (go_at_call_of 29 (Value.int IntKind.i64 y); refine (HY.out _ (by assumption)).mono ?_; rintro e w' ⟨rfl, hS'⟩))
    go_wp2
    go_ret
    refine ⟨y, k + 1, d, ?_, hS'.2, ?_⟩
    · unfold dateS; rw [show k + 1 - 1 = k by omega, ← HMN.out]; rfl
    · rw [show ((k + 1 : Nat) : Int) = (k : Int) + 1 by omega]; exact HDAY.out
def qs : ByteArray := ⟨#[63, 63, 63, 32, 63, 63, 32, 63, 63, 58, 63, 63, 32, 63, 63, 63, 63]⟩
theorem date_out (s : Int) (w : World) (h : ¬ (0 ≤ s ∧ s ≤ 999999999999)) :
    Calls Tryd.prog 15 #[.int .i64 s] w fun e w' => e = .returned (.string qs) ∧ w' = w := by
  have HD : Hid (∀ w, Calls Tryd.prog 27 #[.int .i64 s] w fun e w' => e = .returned (.bool false) ∧ w' = w) := fun w => by
    have := isDate_c s w; rwa [decide_eq_false h] at this
  clear h
  go_enter Tryd.func15, Tryd.ntmps15
  go_wp2_with (go_at_call 27; refine (HD.out _).mono ?_; rintro e w1 ⟨rfl, hw1⟩; subst w1)
  go_ret
  exact ⟨rfl, rfl⟩
end Go.Proofs.YtjpoifoejbabiaaDoor
