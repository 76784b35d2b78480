
-- The pieces of a date's text: the program's and the document's.
import Derived.Test.YtjpoifoejbabiaaDoorPad
import Derived.Test.YtjpoifoejbabiaaDoorCivR
import Derived.Test.YtjpoifoejbabiaaDoorConv
namespace Go.Proofs.YtjpoifoejbabiaaDoor
open Go.RowKit
set_option linter.unusedVariables false
set_option maxRecDepth 100000
/-- A digit's sign. -/
def dv (n : Nat) : UInt8 := UInt8.ofNat (48 + n)
theorem dv_nat (n : Nat) (h : n < 10) : (dv n).toNat = 48 + n := by
  unfold dv; simp; omega
def oneB (n : Nat) : ByteArray := strB [dv n]
def twoB (n : Nat) : ByteArray := strB [dv (n / 10), dv (n % 10)]
def dayB (n : Nat) : ByteArray := if n < 10 then strB [32, dv n] else twoB n
theorem strB_app (a b : List UInt8) : strB a ++ strB b = strB (a ++ b) := by
  apply ByteArray.ext
  apply Array.ext'
  simp [strB]
theorem strB_size (a : List UInt8) : (strB a).size = a.length := by simp [strB, ByteArray.size]
theorem one_one (a b : Nat) : oneB a ++ oneB b = strB [dv a, dv b] := by unfold oneB; rw [strB_app]; rfl
theorem dec_one (n : Nat) (h : n < 10) : Lib.decDigits n = [dv n] := by rw [Lib.decDigits, dif_pos h]; rfl
theorem dec_two (n : Nat) (h : 10 ≤ n) (h2 : n < 100) : Lib.decDigits n = [dv (n / 10), dv (n % 10)] := by
  rw [Lib.decDigits, dif_neg (by omega), dec_one (n / 10) (by omega)]; rfl
theorem decimal_one (n : Nat) (h : n < 10) (w : World) : Calls Tryd.prog 29 #[.int .i64 n] w fun e w' => e = .returned (.string (oneB n)) ∧ w' = w := by
  have HI : Hid (∀ w, Calls Tryd.prog 25 #[.int .i64 n] w fun e w' => e = .returned (.string (oneB n)) ∧ w' = w) := fun w => by
    have := Tryd.strconv_Itoa_small n (by omega) w
    rw [dec_one n h] at this; exact this
  go_enter Tryd.func29, Tryd.ntmps29
  go_wp2_with (go_at_call 25; refine (HI.out _).mono ?_; rintro e w1 ⟨rfl, hw1⟩; subst w1)
  go_ret
  exact ⟨rfl, rfl⟩
theorem decimal_two (n : Nat) (h : 10 ≤ n) (h2 : n < 100) (w : World) : Calls Tryd.prog 29 #[.int .i64 n] w fun e w' => e = .returned (.string (twoB n)) ∧ w' = w := by
  have HI : Hid (∀ w, Calls Tryd.prog 25 #[.int .i64 n] w fun e w' => e = .returned (.string (twoB n)) ∧ w' = w) := fun w => by
    have := Tryd.strconv_Itoa_small n (by omega) w
    rw [dec_two n h h2] at this; exact this
  go_enter Tryd.func29, Tryd.ntmps29
  go_wp2_with (go_at_call 25; refine (HI.out _).mono ?_; rintro e w1 ⟨rfl, hw1⟩; subst w1)
  go_ret
  exact ⟨rfl, rfl⟩
theorem below_grown (w : World) (k : Nat) (os : Array Obj) : Below w.heap.size w (Sort.grow (w.drewN k) os) :=
  ⟨rfl, rfl, rfl, by show w.heap.size ≤ (w.heap ++ os).size; rw [Array.size_append]; omega, fun j hj => by show (w.heap ++ os)[j]? = w.heap[j]?; rw [Array.getElem?_append_left hj]⟩
theorem decimal_any (n : Int) (h0 : 0 ≤ n) (h1 : n ≤ 9223372036854775807) (w : World) (htab : Lib.TabIs Tryd.prog w "internal/strconv.uint64pow10" .u64 Lib.pow10Tab) :
    Calls Tryd.prog 29 #[.int .i64 n] w fun e w' => e = .returned (.string ⟨(Lib.itoa n).toArray⟩) ∧ Below w.heap.size w w' := by
  have HI : Hid (Calls Tryd.prog 25 #[.int .i64 n] w fun e w' => e = .returned (.string ⟨(Lib.itoa n).toArray⟩) ∧ ∃ k os, w' = Sort.grow (w.drewN k) os) := Tryd.strconv_Itoa n (by omega) h1 w htab
  obtain ⟨b, hb⟩ : ∃ b : ByteArray, b = ⟨(Lib.itoa n).toArray⟩ := ⟨_, rfl⟩
  rw [← hb] at HI ⊢
  clear hb htab
  go_enter Tryd.func29, Tryd.ntmps29
  go_wp2_with (go_at_call 25; refine (HI.out).mono ?_; rintro e w1 ⟨rfl, k, os, hw1⟩; have hb1 : Below w.heap.size w w1 := (by rw [hw1]; exact below_grown w k os); clear hw1)
  go_ret
  exact ⟨rfl, hb1⟩
theorem twoDigits_c (n : Nat) (h : n < 100) (w : World) : Calls Tryd.prog 30 #[.int .i64 n] w fun e w' => e = .returned (.string (twoB n)) ∧ w' = w := by
  have HA : Hid (∀ w, Calls Tryd.prog 29 #[.int .i64 ((n / 10 : Nat) : Int)] w fun e w' => e = .returned (.string (oneB (n / 10))) ∧ w' = w) := fun w => decimal_one (n / 10) (by omega) w
  have HB : Hid (∀ w, Calls Tryd.prog 29 #[.int .i64 ((n % 10 : Nat) : Int)] w fun e w' => e = .returned (.string (oneB (n % 10))) ∧ w' = w) := fun w => decimal_one (n % 10) (by omega) w
  have HE : Hid (twoB n = oneB (n / 10) ++ oneB (n % 10)) := by show _ = _; rw [one_one]; rfl
  have s1 : (oneB (n / 10)).size = 1 := by unfold oneB; rw [strB_size]; rfl
  have s2 : (oneB (n % 10)).size = 1 := by unfold oneB; rw [strB_size]; rfl
  obtain ⟨a, ha⟩ : ∃ a : Nat, a = n / 10 := ⟨_, rfl⟩
  obtain ⟨b, hb⟩ : ∃ b : Nat, b = n % 10 := ⟨_, rfl⟩
  have e3 : (n : Int) / 10 = (a : Int) := by rw [ha]; omega
  have e4 : (n : Int) % 10 = (b : Int) := by rw [hb]; omega
  rw [← ha] at HA HE s1
  rw [← hb] at HB HE s2
  rw [HE.out]
  clear HE ha hb
  go_enter Tryd.func30, Tryd.ntmps30
  go_wp2_with fail
  refine (HA.out _).mono ?_
  rintro e w1 ⟨rfl, hw1⟩
  subst w1
  go_wp2_with fail
  refine (HB.out _).mono ?_
  rintro e w1 ⟨rfl, hw1⟩
  subst w1
  go_wp2
  go_ret
  exact ⟨rfl, rfl⟩
theorem wid_dv (n : Nat) (h : n < 10) (r : List UInt8) : wid (dv n :: r) = 1 := by
  have hd := dv_nat n h
  unfold wid
  rw [runLen_eq]
  have : fitsL [(0, 127)] (dv n :: r) = true := by simp [fitsL]; omega
  rw [this]; rfl
theorem runes_one (n : Nat) (h : n < 10) : runesL (lsq (oneB n)) = 1 := by
  show runesL [dv n] = 1
  rw [runesL_cons _ (by simp), wid_dv n h]
  show 1 + runesL [] = 1
  rw [runesL_nil]
theorem runes_two (n : Nat) (h : n < 100) : runesL (lsq (twoB n)) = 2 := by
  show runesL [dv (n / 10), dv (n % 10)] = 2
  rw [runesL_cons _ (by simp), wid_dv (n / 10) (by omega)]
  show 1 + runesL [dv (n % 10)] = 2
  rw [runesL_cons _ (by simp), wid_dv (n % 10) (by omega)]
  show 1 + (1 + runesL []) = 2
  rw [runesL_nil]
theorem right_c (n : Nat) (s : ByteArray) (hs : s.size ≤ 100) (hR : spB (lackN s 2) ++ s = dayB n) (w : World) :
    Calls Tryd.prog 14 #[.string s, .int .i64 2] w fun e w' => e = .returned (.string (dayB n)) ∧ Below w.heap.size w w' := by
  have HP : Hid (∀ wx, Calls Tryd.prog 26 #[.string s, .int .i64 2] wx fun e w' => e = .returned (.string (spB (lackN s 2))) ∧ Below wx.heap.size wx w') := fun wx => padding_c s 2 wx (by omega) (by decide)
  have hps : (spB (lackN s 2)).size ≤ 256 := by
    have := lack_le s 2
    have e : (spB (lackN s 2)).size = lackN s 2 := by simp [spB, strB, ByteArray.size]
    omega
  obtain ⟨p, hp⟩ : ∃ p, p = spB (lackN s 2) := ⟨_, rfl⟩
  rw [← hp] at HP hps hR
  rw [← hR]
  clear hp hR
  go_enter Tryd.func14, Tryd.ntmps14
  go_wp2_with (go_at_call 26; refine (HP.out _).mono ?_; rintro e w1 ⟨rfl, hb1⟩)
  go_ret
  exact ⟨rfl, hb1⟩
theorem right_one (n : Nat) (h : n < 10) (w : World) : Calls Tryd.prog 14 #[.string (oneB n), .int .i64 2] w fun e w' => e = .returned (.string (dayB n)) ∧ Below w.heap.size w w' := by
  refine right_c n (oneB n) (by unfold oneB; rw [strB_size]; simp) ?_ w
  have : lackN (oneB n) 2 = 1 := by unfold lackN; rw [runes_one n h]; decide
  rw [this]
  unfold dayB
  rw [if_pos h]
  unfold spB oneB
  rw [strB_app]; rfl
theorem right_two (n : Nat) (h : 10 ≤ n) (h2 : n < 100) (w : World) : Calls Tryd.prog 14 #[.string (twoB n), .int .i64 2] w fun e w' => e = .returned (.string (dayB n)) ∧ Below w.heap.size w w' := by
  refine right_c n (twoB n) (by unfold twoB; rw [strB_size]; simp) ?_ w
  have : lackN (twoB n) 2 = 0 := by unfold lackN; rw [runes_two n h2]; decide
  rw [this]
  unfold dayB
  rw [if_neg (by omega)]
  unfold spB twoB
  rw [strB_app]; rfl
end Go.Proofs.YtjpoifoejbabiaaDoor
