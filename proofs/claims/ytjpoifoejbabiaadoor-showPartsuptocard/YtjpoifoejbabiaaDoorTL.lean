
-- What a line is made of, on both sides.
import Derived.Test.YtjpoifoejbabiaaDoorPS
import Derived.Test.YtjpoifoejbabiaaDoorDateC
import Derived.Test.YtjpoifoejbabiaaDoorModeL
import Derived.Test.YtjpoifoejbabiaaDoorDay
import Derived.Lib.ItoaLen
namespace Go.Proofs.YtjpoifoejbabiaaDoor
open Go.ChangeShapes Go.WideShapes Go.ChangeAt Go.RowKit
set_option linter.unusedVariables false
set_option maxRecDepth 100000
set_option linter.unusedSimpArgs false
/-- what the tables hold -/
structure LTabs (w : World) : Prop where
  mode : ModeTab w
  date : DTabs w
theorem LTabs.on {w w' : World} (h : LTabs w) (b : Below w.heap.size w w') : LTabs w' := by
  refine ⟨?_, h.date.on b⟩
  obtain ⟨t, fr, hg⟩ := h.mode
  exact ⟨t, fr, hkeepK b hg⟩
def itB (n : Int) : ByteArray := ⟨(Lib.itoa n).toArray⟩
theorem itB_size {n : Int} (h : inI n) : (itB n).size ≤ 21 := by
  have := Lib.itoa_length_le n h.1 h.2
  show (Lib.itoa n).toArray.size ≤ 21
  simpa using this
theorem itoa_c {n : Int} (h : inI n) (w : World) (hT : LTabs w) :
    Calls Tryd.prog 25 #[.int .i64 n] w fun e w' => e = .returned (.string (itB n)) ∧ Below w.heap.size w w' :=
  (Tryd.strconv_Itoa n h.1 h.2 w hT.date.pow).mono fun e w' ⟨he, k, os, hw⟩ => ⟨he, by rw [hw]; exact below_grown w k os⟩
def padB (s : ByteArray) : ByteArray := spB (lackN s 6) ++ s
theorem padB_size (s : ByteArray) : (padB s).size ≤ 256 + s.size := by
  unfold padB
  have := lack_le s 6
  have e : (spB (lackN s 6)).size = lackN s 6 := by simp [spB, strB, ByteArray.size]
  rw [ByteArray.size_append]; omega
set_option maxHeartbeats 1000000 in
theorem textRight_c (s : ByteArray) (w : World) (hm : s.size ≤ 1048576) :
    Calls Tryd.prog 14 #[.string s, .int .i64 6] w fun e w' => e = .returned (.string (padB s)) ∧ Below w.heap.size w w' := by
  have HP : Hid (∀ wx, Calls Tryd.prog 26 #[.string s, .int .i64 6] wx fun e w' => e = .returned (.string (spB (lackN s 6))) ∧ Below wx.heap.size wx w') := fun wx => padding_c s 6 wx (by omega) (by omega)
  have hps : (spB (lackN s 6)).size ≤ 256 := by
    have := lack_le s 6
    have e : (spB (lackN s 6)).size = lackN s 6 := by simp [spB, strB, ByteArray.size]
    omega
  unfold padB
  obtain ⟨p, hp⟩ : ∃ p, p = spB (lackN s 6) := ⟨_, rfl⟩
  rw [← hp] at HP hps ⊢
  clear hp
  go_enter Tryd.func14, Tryd.ntmps14
  go_wp2_with (go_at_call 26; refine (HP.out _).mono ?_; rintro e w1 ⟨rfl, hb1⟩)
  go_ret
  exact ⟨rfl, hb1⟩
def modeB (m : Int) : ByteArray := strI (lets m 3)
theorem modeB_size (m : Int) : (modeB m).size = 9 := rfl
def isDayB (D y m d : Int) : Bool := decide (1970 ≤ y) && decide (1 ≤ m) && decide (m ≤ 12) && decide (1 ≤ d) && decide (d ≤ ml y m) && decide (D = byear y + bmon y m + (d - 1))
theorem isDayB_iff {D y m d : Int} : isDayB D y m d = true ↔ IsDay D y m d := by
  unfold isDayB IsDay
  simp only [Bool.and_eq_true, decide_eq_true_eq, and_assoc]
def cands (D : Int) : List (Int × Nat × Nat) := (List.range (D.toNat + 1)).flatMap fun (y : Nat) => (List.range 13).flatMap fun (m : Nat) => (List.range 32).map fun (d : Nat) => (1970 + (y : Int), m, d)
theorem ml_le (y m : Int) : ml y m ≤ 31 := by
  unfold ml
  repeat' split
  all_goals omega
theorem cands_mem {D y : Int} {m d : Nat} (h : IsDay D y m d) : (y, m, d) ∈ cands D := by
  have hy := IsDay.year_le h
  have hl := ml_le y m
  obtain ⟨h1, h2, h3, h4, h5, _⟩ := h
  unfold cands
  refine List.mem_flatMap.2 ⟨(y - 1970).toNat, List.mem_range.2 (by omega), List.mem_flatMap.2 ⟨m, List.mem_range.2 (by omega), List.mem_map.2 ⟨d, List.mem_range.2 (by omega), ?_⟩⟩⟩
  rw [show (1970 : Int) + ((y - 1970).toNat : Int) = y by omega]
def dayOf (D : Int) : Option (Int × Nat × Nat) := (cands D).find? (fun x => isDayB D x.1 x.2.1 x.2.2)
theorem dayOf_is {D y : Int} {m d : Nat} (h : IsDay D y m d) : dayOf D = some (y, m, d) := by
  unfold dayOf
  cases hf : (cands D).find? (fun x => isDayB D x.1 x.2.1 x.2.2) with
  | none =>
    rw [List.find?_eq_none] at hf
    exact absurd (isDayB_iff.2 h) (hf _ (cands_mem h))
  | some x =>
    have h1 := isDayB_iff.1 (show isDayB D x.1 x.2.1 x.2.2 = true from List.find?_some (p := fun x : Int × Nat × Nat => isDayB D x.1 x.2.1 x.2.2) hf)
    have hu := IsDay.uniq h1 h
    obtain ⟨a, b, c⟩ := x
    simp only [] at hu
    obtain ⟨u1, u2, u3⟩ := hu
    rw [u1, show b = m by omega, show c = d by omega]
/-- a date's text -/
def dateT (s : Int) : ByteArray := if 0 ≤ s ∧ s ≤ 999999999999 then (match dayOf (s / 86400) with | some x => dateS x.1 x.2.1 x.2.2 (s % 86400 / 3600).toNat (s % 3600 / 60).toNat | none => qs) else qs
theorem dateT_in {s : Int} {y : Int} {m d : Nat} (h0 : 0 ≤ s) (h1 : s ≤ 999999999999) (hD : IsDay (s / 86400) y m d) : dateT s = dateS y m d (s % 86400 / 3600).toNat (s % 3600 / 60).toNat := by
  unfold dateT
  rw [if_pos ⟨h0, h1⟩, dayOf_is hD]
theorem dateT_ways (s : Int) : dateT s = qs ∨ ∃ (y : Int) (m d : Nat), (0 ≤ s ∧ s ≤ 999999999999) ∧ IsDay (s / 86400) y m d ∧ dateT s = dateS y m d (s % 86400 / 3600).toNat (s % 3600 / 60).toNat := by
  unfold dateT
  by_cases h : 0 ≤ s ∧ s ≤ 999999999999
  · rw [if_pos h]
    cases hf : dayOf (s / 86400) with
    | none => exact .inl rfl
    | some x => exact .inr ⟨x.1, x.2.1, x.2.2, h, isDayB_iff.1 (show isDayB (s / 86400) x.1 x.2.1 x.2.2 = true from List.find?_some (p := fun x : Int × Nat × Nat => isDayB (s / 86400) x.1 x.2.1 x.2.2) hf), rfl⟩
  · rw [if_neg h]; exact .inl rfl
theorem dateT_out {s : Int} (h : ¬ (0 ≤ s ∧ s ≤ 999999999999)) : dateT s = qs := by
  unfold dateT
  rw [if_neg h]
theorem date_c (s : Int) (w : World) (hT : LTabs w) : Calls Tryd.prog 15 #[.int .i64 s] w fun e w' => e = .returned (.string (dateT s)) ∧ Below w.heap.size w w' := by
  by_cases h : 0 ≤ s ∧ s ≤ 999999999999
  · refine (date_in s w h.1 h.2 hT.date).mono ?_
    rintro e w' ⟨y, m, d, rfl, hb, hD⟩
    exact ⟨by rw [dateT_in h.1 h.2 hD], hb⟩
  · refine (date_out s w h).mono ?_
    rintro e w' ⟨rfl, rfl⟩
    exact ⟨by rw [dateT_out h], Below.refl _ _⟩
theorem mode_c (m : Int) (w : World) (hT : LTabs w) : Calls Tryd.prog 12 #[.int .i64 m] w fun e w' => e = .returned (.string (modeB m)) ∧ Below w.heap.size w w' := modeString_c m w hT.mode
/-- a line -/
def lineB (m : Mx) : ByteArray := modeB m.m ++ ⟨#[32]⟩ ++ itB m.u ++ ⟨#[47]⟩ ++ itB m.g ++ ⟨#[32]⟩ ++ padB (itB m.s) ++ ⟨#[32]⟩ ++ dateT m.d ++ ⟨#[32]⟩ ++ strB (QL m.n) ++ ⟨#[10]⟩
end Go.Proofs.YtjpoifoejbabiaaDoor
