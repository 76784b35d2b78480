-- shelflaw1.power, fits, wide: contracts; what a padded number reads as.
import Derived.Test.YtfjmjgnifbgneabDoorRead
import Derived.Test.YtfjmjgnifbgneabDoorRPut
namespace Go.Proofs.YtfjmjgnifbgneabDoor
open Go.ChangeShapes Go.WideShapes Go.ChangeAt Go.RowKit
set_option linter.unusedVariables false

theorem ret_b {a b : Bool} (h : a = b) : Ending.returned (.bool a) = .returned (.bool b) := by rw [h]
theorem cnt_field (B : Nat) (A : List UInt8) (k : Nat) (hA : ∀ x ∈ A, dig B x = true) : cnt B (A ++ List.replicate k 32) = A.length := by
  induction A with
  | nil =>
    cases k with
    | zero => rfl
    | succ k => simp [List.replicate_succ, cnt, dig]
  | cons x t ih =>
    have hx := hA x (by simp)
    rw [List.cons_append, cnt, if_pos hx, ih (fun y hy => hA y (by simp [hy])), List.length_cons]
theorem rd_field (B : Nat) (A : List UInt8) (k : Nat) (hA : ∀ x ∈ A, dig B x = true) (hv : val B 0 A ≤ 9223372036854775807) : rd B (A ++ List.replicate k 32) = (val B 0 A, 0) := by
  have hb : blank (List.replicate k 32) = true := by
    unfold blank; rw [List.all_replicate]; simp
  unfold rd
  rw [cnt_field B A k hA, List.drop_left, hb, if_pos rfl, List.take_left, if_pos hv]
theorem pad_reads (B v width : Nat) (hB : B = 8 ∨ B = 10) (hv : v ≤ 9223372036854775807) : rd B (pad B v width) = (v, 0) := by
  have hB2 : 2 ≤ B ∧ B ≤ 10 ∧ 8 ≤ B := by omega
  have h64 := big64 B v hB2.2.2 hv
  have hval := dg_val B hB2.1 hB2.2.1 v h64
  unfold pad
  rw [Int.toNat_natCast, rd_field B _ _ (dg_dig B hB2.1 hB2.2.1 v h64) (by omega), hval]
theorem pad_len (B v width : Nat) (h : (dg B v).length ≤ width) : (pad B v width).length = width := by
  unfold pad; rw [Int.toNat_natCast, Int.toNat_natCast, List.length_append, List.length_replicate]; omega
theorem pad_first (B v width : Nat) (hB : B = 8 ∨ B = 10) (hv : v ≤ 9223372036854775807) : ∃ c r, pad B v width = c :: r ∧ 48 ≤ c.toNat ∧ c.toNat < 58 ∧ (0 < v → ¬ c.toNat = 48) := by
  obtain ⟨c, r, e, h1, h2, h3⟩ := dg_first B (by omega) (by omega) v (big64 B v (by omega) hv)
  unfold pad
  rw [Int.toNat_natCast, e, List.cons_append]
  exact ⟨c, _, rfl, h1, by omega, h3⟩
-- a place in a padded number: a digit ahead of its end, a blank behind
theorem pad_at (B v width i : Nat) (hB : B = 8 ∨ B = 10) (hv : v ≤ 9223372036854775807) (h : (dg B v).length ≤ width) (hi : i < width) :
    ∃ h1 : i < (strL (pad B v width)).size, (i < (dg B v).length → ¬ (strL (pad B v width))[i].toNat = 32) ∧ ((dg B v).length ≤ i → (strL (pad B v width))[i].toNat = 32) := by
  have hl := pad_len B v width h
  have h1 : i < (strL (pad B v width)).size := by rw [strL_size]; omega
  have e : (strL (pad B v width))[i] = (pad B v width)[i]'(by omega) := rfl
  refine ⟨h1, fun hlt => ?_, fun hge => ?_⟩
  · rw [e]
    have hd := dg_dig B (by omega) (by omega) v (big64 B v (by omega) hv) ((dg B v)[i]) (List.getElem_mem hlt)
    have e2 : (pad B v width)[i]'(by omega) = (dg B v)[i] := by
      simp only [pad, Int.toNat_natCast]; rw [List.getElem_append_left hlt]
    rw [e2]
    have := (Rd.dig_iff _ _).1 hd
    omega
  · rw [e]
    have e2 : (pad B v width)[i]'(by omega) = 32 := by
      simp only [pad, Int.toNat_natCast]; rw [List.getElem_append_right hge, List.getElem_replicate]
    rw [e2]; rfl

theorem pow_le_10 (n : Nat) (h : n ≤ 18) : 10 ^ n ≤ 1000000000000000000 := by
  have h1 : 10 ^ n ≤ 10 ^ 18 := Nat.pow_le_pow_right (by omega) h
  have e : (10 : Nat) ^ 18 = 1000000000000000000 := by decide
  omega
def pw10 (n : Nat) : Nat := 10 ^ n
theorem power_10 (n : Nat) (w : World) (hn : n ≤ 18) :
    Calls Tryd.prog 16 #[.int .i64 10, .int .i64 n] w fun e w' => e = .returned (.int .i64 (pw10 n)) ∧ w' = w := by
  go_enter Tryd.func16, Tryd.ntmps16
  go_wp2
  go_loop [5, 6] (fun p i => ∃ k : Nat, k ≤ n ∧ i = .int .i64 k ∧ p = .int .i64 (pw10 k)) (fun _ i => n - (intOf i).toNat)
  case atStart => exact ⟨0, Nat.zero_le _, rfl, rfl⟩
  case round =>
    obtain ⟨k, hk, rfl, rfl⟩ := hrel
    by_cases hlt : k < n
    · have hp : pw10 k * 10 ≤ 1000000000000000000 := by have := pow_le_10 (k + 1) (by omega); unfold pw10; rw [← Nat.pow_succ]; exact this
      have HN : Hid (pw10 (k + 1) = pw10 k * 10) := Nat.pow_succ 10 k
      go_wp2
      go_round
      case rel => exact ⟨k + 1, by omega, by go_num, Rd.int_eq_of (by rw [HN.out]; omega)⟩
      case measure => simp [intOf]; omega
    · obtain rfl : k = n := by omega
      go_wp2
      go_ret
      exact ⟨rfl, rfl⟩

theorem fits_10_all (v width : Int) (w : World) (h : 19 ≤ width) :
    Calls Tryd.prog 10 #[.int .i64 v, .int .i64 width, .int .i64 10] w fun e w' => e = .returned (.bool true) ∧ w' = w := by
  have b : decide (19 ≤ width) = true := by simp; omega
  go_enter Tryd.func10, Tryd.ntmps10
  go_wp2
  go_ret
  exact ⟨rfl, rfl⟩
theorem fits_10_some (v width : Nat) (w : World) (h : width ≤ 18) :
    Calls Tryd.prog 10 #[.int .i64 v, .int .i64 width, .int .i64 10] w fun e w' => e = .returned (.bool (decide (v < 10 ^ width))) ∧ w' = w := by
  have b : decide ((19 : Int) ≤ width) = false := by simp; omega
  have HP : Hid (∀ w, Calls Tryd.prog 16 #[.int .i64 10, .int .i64 width] w fun e w' => e = .returned (.int .i64 (pw10 width)) ∧ w' = w) := fun w => power_10 width w h
  go_enter Tryd.func10, Tryd.ntmps10
  go_wp2_with (go_at_call 16; refine (HP.out _).mono ?_; rintro e w1 ⟨rfl, hw1⟩; subst w1)
  go_ret
  exact ⟨ret_b (by unfold pw10; rw [decide_eq_decide]), rfl⟩

theorem pow_le_8 (n : Nat) (h : n ≤ 20) : 8 ^ n ≤ 1152921504606846976 := by
  have h1 : 8 ^ n ≤ 8 ^ 20 := Nat.pow_le_pow_right (by omega) h
  have e : (8 : Nat) ^ 20 = 1152921504606846976 := by decide
  omega
def pw8 (n : Nat) : Nat := 8 ^ n
theorem power_8 (n : Nat) (w : World) (hn : n ≤ 20) :
    Calls Tryd.prog 16 #[.int .i64 8, .int .i64 n] w fun e w' => e = .returned (.int .i64 (pw8 n)) ∧ w' = w := by
  go_enter Tryd.func16, Tryd.ntmps16
  go_wp2
  go_loop [5, 6] (fun p i => ∃ k : Nat, k ≤ n ∧ i = .int .i64 k ∧ p = .int .i64 (pw8 k)) (fun _ i => n - (intOf i).toNat)
  case atStart => exact ⟨0, Nat.zero_le _, rfl, rfl⟩
  case round =>
    obtain ⟨k, hk, rfl, rfl⟩ := hrel
    by_cases hlt : k < n
    · have hp : pw8 k * 8 ≤ 1152921504606846976 := by have := pow_le_8 (k + 1) (by omega); unfold pw8; rw [← Nat.pow_succ]; exact this
      have HN : Hid (pw8 (k + 1) = pw8 k * 8) := Nat.pow_succ 8 k
      go_wp2
      go_round
      case rel => exact ⟨k + 1, by omega, by go_num, Rd.int_eq_of (by rw [HN.out]; omega)⟩
      case measure => simp [intOf]; omega
    · obtain rfl : k = n := by omega
      go_wp2
      go_ret
      exact ⟨rfl, rfl⟩

theorem fits_8_some (v width : Nat) (w : World) (h : width ≤ 20) :
    Calls Tryd.prog 10 #[.int .i64 v, .int .i64 width, .int .i64 8] w fun e w' => e = .returned (.bool (decide (v < 8 ^ width))) ∧ w' = w := by
  have HP : Hid (∀ w, Calls Tryd.prog 16 #[.int .i64 8, .int .i64 width] w fun e w' => e = .returned (.int .i64 (pw8 width)) ∧ w' = w) := fun w => power_8 width w h
  go_enter Tryd.func10, Tryd.ntmps10
  go_wp2_with (go_at_call 16; refine (HP.out _).mono ?_; rintro e w1 ⟨rfl, hw1⟩; subst w1)
  go_ret
  exact ⟨ret_b (by unfold pw8; rw [decide_eq_decide]), rfl⟩

theorem fits_any (B v width : Nat) (w : World) (hB : B = 8 ∨ B = 10) (hv : v ≤ 9223372036854775807) (h1 : 1 ≤ width) (h : width ≤ 20) :
    Calls Tryd.prog 10 #[.int .i64 v, .int .i64 width, .int .i64 B] w fun e w' => e = .returned (.bool (decide ((dg B v).length ≤ width))) ∧ w' = w := by
  have e : decide ((dg B v).length ≤ width) = decide (v < B ^ width) := by
    rw [decide_eq_decide]; exact dg_len B (by omega) width v (big64 B v (by omega) hv) h1
  rw [e]
  rcases hB with rfl | rfl
  · exact fits_8_some v width w h
  · by_cases h19 : width ≤ 18
    · exact fits_10_some v width w h19
    · have ht : decide (v < 10 ^ width) = true := by
        have h1 : 10 ^ 19 ≤ 10 ^ width := Nat.pow_le_pow_right (by omega) (by omega)
        rw [pow10_19] at h1
        simp; omega
      rw [ht]; exact fits_10_all v width w (by omega)
def padded (s : ByteArray) (m width : Nat) : Prop := ∀ i, i < width → ∃ h1 : i < s.size, (i < m → ¬ s[i].toNat = 32) ∧ (m ≤ i → s[i].toNat = 32)
set_option maxHeartbeats 400000 in
theorem wide_core (s : ByteArray) (m width : Nat) (w : World) (hp : 1 ≤ m) (h1 : 1 ≤ width) (h : width ≤ 20) (hsz : s.size = width) (hA : padded s m width) :
    Calls Tryd.prog 12 #[.string s, .int .i64 width] w fun e w' => e = .returned (.bool true) ∧ w' = w := by
  obtain ⟨k0, n0, _⟩ := hA 0 (by omega)
  have hidx0 := Rd.idx s 0 k0
  have hc0 : ((s[0].toNat : Int) == 32) = false := by have := n0 (by omega); simp; omega
  have HA : Hid (padded s m width) := hA
  clear n0 hA
  go_enter Tryd.func12, Tryd.ntmps12
  go_wp2
  clear hidx0 hc0
  go_loop [5] (fun i => ∃ k : Nat, k + 1 ≤ width ∧ i = .int .i64 k) (fun i => width - (intOf i).toNat)
  case atStart => exact ⟨0, by omega, rfl⟩
  case round =>
    obtain ⟨k, hk, rfl⟩ := hrel
    by_cases hlt : k + 1 < width
    · obtain ⟨a1, a2, a3⟩ := HA.out k (by omega)
      obtain ⟨b1, b2, b3⟩ := HA.out (k + 1) (by omega)
      have hi1 := Rd.idx s k a1
      have hi2 : ∀ w, (Instr.index 9 (.string s) (.int .i64 ((k : Int) + 1))).run Tryd.prog w = .ok (.int .u8 (s[k + 1].toNat : Int)) w := fun w => by
        have h := Rd.idx s (k + 1) b1 w
        rw [Int.natCast_add] at h; exact h
      by_cases hkm : k < m
      · have c1 : ((s[k].toNat : Int) == 32) = false := by have := a2 hkm; simp; omega
        clear a2 a3 b2 b3
        go_wp2
        go_round
        case rel => exact ⟨k + 1, by omega, by go_num⟩
        case measure => simp [intOf]; omega
      · have c1 : ((s[k].toNat : Int) == 32) = true := by have := a3 (by omega); simp; omega
        have c2 : ((s[k + 1].toNat : Int) != 32) = false := by have := b3 (by omega); simp; omega
        clear a2 a3 b2 b3
        go_wp2
        go_round
        case rel => exact ⟨k + 1, by omega, by go_num⟩
        case measure => simp [intOf]; omega
    · go_wp2
      go_ret
      exact ⟨rfl, rfl⟩
theorem wide_any (B v width : Nat) (w : World) (hB : B = 8 ∨ B = 10) (hv : v ≤ 9223372036854775807) (h1 : 1 ≤ width) (h : width ≤ 20) (hl : (dg B v).length ≤ width) :
    Calls Tryd.prog 12 #[.string (strL (pad B v width)), .int .i64 width] w fun e w' => e = .returned (.bool true) ∧ w' = w :=
  wide_core _ (dg B v).length width w (dg_pos B (by omega) v (big64 B v (by omega) hv)) h1 h (by rw [strL_size, pad_len B v width hl]) (fun i hi => pad_at B v width i hB hv hl hi)
end Go.Proofs.YtfjmjgnifbgneabDoor
