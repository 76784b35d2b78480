
-- shelfref1.digits, put, PutDec, PutOct; num.PutDec, PutOct: contracts.
import Derived.Test.YtbkfkanknfdelaaDoorFmt
namespace Go.Proofs.YtbkfkanknfdelaaDoor
open Go.ChangeShapes Go.WideShapes Go.ChangeAt Go.RowKit
set_option linter.unusedVariables false
set_option maxRecDepth 100000

def strOfV : Value → ByteArray | .string s => s | _ => ByteArray.empty
def hd (B x : Nat) : List UInt8 := if x = 0 then [] else dg B x
theorem hd_step (B x : Nat) (hB : 2 ≤ B) (hx : x < B ^ 64) : dg B x = hd B (x / B) ++ [dbyte (x % B)] := by
  unfold hd
  by_cases h : x < B
  · rw [if_pos (Nat.div_eq_of_lt h), Nat.mod_eq_of_lt h, dg_one B x h]; rfl
  · have : 0 < x / B := Nat.div_pos (by omega) (by omega)
    rw [if_neg (by omega), dg_more B x hB h hx]
theorem conv1 (w : World) (n : Int) (c : UInt8) (h : n = (c.toNat : Int)) : (convert 76 9 (.slice (some ⟨w.heap.size, 0, none⟩) 1 1)).run Tryd.prog (w.alloc (.cells #[.int .u8 n] 5)) = .ok (.string (strL [c])) (w.alloc (.cells #[.int .u8 n] 5)) := by
  refine run_convert_bytes_back (w.alloc (.cells #[.int .u8 n] 5)) 76 9 5 ⟨w.heap.size, 0, none⟩ 1 [c] Tryd.underlying76 Tryd.underlying5 Tryd.underlying9 (fun j hj => ?_)
  obtain rfl : j = 0 := by simp at hj; omega
  have ea : (⟨w.heap.size, 0, none⟩ : Addr).add 0 = ⟨w.heap.size, 0, none⟩ := by simp [Addr.add]
  rw [ea, World.cell?_alloc_at _ 5 w.heap.size 0 rfl, h]
  rfl
theorem str_eq_of {a b : ByteArray} (h : a = b) : Value.string a = .string b := by rw [h]
theorem blank_next (l : List UInt8) (k : Nat) : strL (l ++ List.replicate k 32) ++ ({ data := #[32] } : ByteArray) = strL (l ++ List.replicate (k + 1) 32) := by
  rw [show ({ data := #[32] } : ByteArray) = strL [32] from rfl, strL_append, List.append_assoc, List.replicate_succ']
set_option maxHeartbeats 400000 in
theorem rdigits_10 (v : Nat) (w : World) (hv : v ≤ 9223372036854775807) :
    Calls Tryd.prog 57 #[.int .i64 v, .int .i64 10] w fun e w' => e = .returned (.string (strL (dg 10 v))) ∧ Below w.heap.size w w' := by
  have HL : Hid ((dg 10 v).length ≤ 21) := len_21 10 v (by omega) hv
  have HV : Hid (dg 10 v = hd 10 (v / 10) ++ [dbyte (v % 10)]) := hd_step 10 v (by omega) (big64 10 v (by omega) hv)
  have hcv := conv1 w (48 + (v : Int) % 10) (dbyte (v % 10)) (by rw [dbyte_toNat _ (by omega)]; omega)
  go_enter Tryd.func57, Tryd.ntmps57
  go_wp2
  clear hcv
  go_loopw [0, 5] (fun a s wx => ∃ (x : Nat) (S : List UInt8), x ≤ 9223372036854775807 ∧ a = .int .i64 x ∧ s = .string (strL S) ∧ dg 10 v = hd 10 x ++ S ∧ Below w.heap.size w wx) (fun a _ _ => (intOf a).toNat)
  case atStart => exact ⟨v / 10, [dbyte (v % 10)], by omega, by go_num, rfl, HV.out, (Below.refl _ _).alloc (Nat.le_refl _) _⟩
  case round =>
    obtain ⟨x, S, hx, rfl, rfl, hS, hb⟩ := hrel
    have HS : Hid (dg 10 v = hd 10 x ++ S) := hS
    have hsl : S.length ≤ 21 := by have := HL.out; rw [hS, List.length_append] at this; omega
    clear hS
    by_cases hz : 0 < x
    · have HX : Hid (hd 10 x = hd 10 (x / 10) ++ [dbyte (x % 10)]) := by
        show hd 10 x = _
        rw [← hd_step 10 x (by omega) (big64 10 x (by omega) hx)]; unfold hd; rw [if_neg (by omega)]
      have hcv := conv1 wr (48 + (x : Int) % 10) (dbyte (x % 10)) (by rw [dbyte_toNat _ (by omega)]; omega)
      have hs1 : (strL [dbyte (x % 10)]).size = 1 := by rw [strL_size]; rfl
      have hs2 := strL_size S
      go_wp2
      go_roundw
      case rel =>
        refine ⟨x / 10, dbyte (x % 10) :: S, by omega, by go_num, str_eq_of (strL_append _ _), by rw [HS.out, HX.out, List.append_assoc]; rfl, hb.alloc hb.size _⟩
      case measure => simp [intOf]; omega
    · obtain rfl : x = 0 := by omega
      go_wp2
      go_ret
      exact ⟨by rw [HS.out]; rfl, hb⟩
theorem rput_10_neg (v width : Int) (w : World) (h1 : 1 ≤ width) (h2 : width ≤ 20) (hv : v < 0) :
    Calls Tryd.prog 45 #[.int .i64 v, .int .i64 width, .int .i64 10] w fun e w' => e = .returned (.tuple #[.string ByteArray.empty, .int .i64 11]) ∧ Below w.heap.size w w' := by
  have b1 : decide (width < 1) = false := by simp; omega
  have b2 : decide (20 < width) = false := by simp; omega
  have b3 : decide (v < 0) = true := by simp; omega
  go_enter Tryd.func45, Tryd.ntmps45
  go_wp2
  go_ret2
  exact ⟨rfl, Below.refl _ _⟩
theorem rput_10_wide (v width : Nat) (w : World) (hv : v ≤ 9223372036854775807) (h1 : 1 ≤ width) (h2 : width ≤ 20) (hl : width < (dg 10 v).length) :
    Calls Tryd.prog 45 #[.int .i64 v, .int .i64 width, .int .i64 10] w fun e w' => e = .returned (.tuple #[.string ByteArray.empty, .int .i64 11]) ∧ Below w.heap.size w w' := by
  have hm : (dg 10 v).length ≤ 21 := len_21 10 v (by omega) hv
  have HF : Hid (∀ w, Calls Tryd.prog 57 #[.int .i64 v, .int .i64 10] w fun e w' => e = .returned (.string (strL (dg 10 v))) ∧ Below w.heap.size w w') := fun w => rdigits_10 v w hv
  have b1 : decide ((width : Int) < 1) = false := by simp; omega
  have b2 : decide ((20 : Int) < width) = false := by simp; omega
  have b3 : decide ((v : Int) < 0) = false := by simp
  have hsz := strL_size (dg 10 v)
  go_enter Tryd.func45, Tryd.ntmps45
  go_wp2_with (first | (go_at_call 57; refine (HF.out _).mono ?_; rintro e w1 ⟨rfl, hb⟩))
  go_ret2
  exact ⟨rfl, hb⟩
set_option maxHeartbeats 400000 in
theorem rput_10_ok (v width : Nat) (w : World) (hv : v ≤ 9223372036854775807) (h1 : 1 ≤ width) (h2 : width ≤ 20) (hl : (dg 10 v).length ≤ width) :
    Calls Tryd.prog 45 #[.int .i64 v, .int .i64 width, .int .i64 10] w fun e w' => e = .returned (.tuple #[.string (strL (pad 10 v width)), .int .i64 0]) ∧ Below w.heap.size w w' := by
  have HF : Hid (∀ w, Calls Tryd.prog 57 #[.int .i64 v, .int .i64 10] w fun e w' => e = .returned (.string (strL (dg 10 v))) ∧ Below w.heap.size w w') := fun w => rdigits_10 v w hv
  have b1 : decide ((width : Int) < 1) = false := by simp; omega
  have b2 : decide ((20 : Int) < width) = false := by simp; omega
  have b3 : decide ((v : Int) < 0) = false := by simp
  have b4 : decide (width < (dg 10 v).length) = false := by simp; omega
  have hsz := strL_size (dg 10 v)
  go_enter Tryd.func45, Tryd.ntmps45
  go_wp2_with (first | (go_at_call 57; refine (HF.out _).mono ?_; rintro e w1 ⟨rfl, hb⟩))
  go_loopw [8] (fun s wx => ∃ k : Nat, (dg 10 v).length + k ≤ width ∧ s = .string (strL (dg 10 v ++ List.replicate k 32)) ∧ wx = w1) (fun s _ => 21 - (strOfV s).size)
  case atStart => exact ⟨0, by omega, by simp, rfl⟩
  case round =>
    obtain ⟨k, hk, rfl, rfl⟩ := hrel
    have hs2 : (strL (dg 10 v ++ List.replicate k 32)).size = (dg 10 v).length + k := by rw [strL_size, List.length_append, List.length_replicate]
    by_cases hlt : (dg 10 v).length + k < width
    · go_wp2
      go_roundw
      case rel => exact ⟨k + 1, by omega, str_eq_of (blank_next _ k), by first | rfl | trivial⟩
      case measure =>
        have e := congrArg ByteArray.size (blank_next (dg 10 v) k)
        rw [strL_size, List.length_append, List.length_replicate] at e
        show 21 - (strL (dg 10 v ++ List.replicate k 32) ++ ({ data := #[32] } : ByteArray)).size < 21 - (strL (dg 10 v ++ List.replicate k 32)).size
        rw [e, hs2]; omega
    · have ek : k = width - (dg 10 v).length := by omega
      have HP : Hid (strL (dg 10 v ++ List.replicate k 32) = strL (pad 10 v width)) := by
        show strL (dg 10 v ++ List.replicate k 32) = _
        unfold pad; rw [Int.toNat_natCast, Int.toNat_natCast, ek]
      clear ek
      go_wp2
      go_ret2
      exact ⟨by rw [← HP.out]; rfl, hb⟩

set_option maxHeartbeats 400000 in
theorem rdigits_8 (v : Nat) (w : World) (hv : v ≤ 9223372036854775807) :
    Calls Tryd.prog 57 #[.int .i64 v, .int .i64 8] w fun e w' => e = .returned (.string (strL (dg 8 v))) ∧ Below w.heap.size w w' := by
  have HL : Hid ((dg 8 v).length ≤ 21) := len_21 8 v (by omega) hv
  have HV : Hid (dg 8 v = hd 8 (v / 8) ++ [dbyte (v % 8)]) := hd_step 8 v (by omega) (big64 8 v (by omega) hv)
  have hcv := conv1 w (48 + (v : Int) % 8) (dbyte (v % 8)) (by rw [dbyte_toNat _ (by omega)]; omega)
  go_enter Tryd.func57, Tryd.ntmps57
  go_wp2
  clear hcv
  go_loopw [0, 5] (fun a s wx => ∃ (x : Nat) (S : List UInt8), x ≤ 9223372036854775807 ∧ a = .int .i64 x ∧ s = .string (strL S) ∧ dg 8 v = hd 8 x ++ S ∧ Below w.heap.size w wx) (fun a _ _ => (intOf a).toNat)
  case atStart => exact ⟨v / 8, [dbyte (v % 8)], by omega, by go_num, rfl, HV.out, (Below.refl _ _).alloc (Nat.le_refl _) _⟩
  case round =>
    obtain ⟨x, S, hx, rfl, rfl, hS, hb⟩ := hrel
    have HS : Hid (dg 8 v = hd 8 x ++ S) := hS
    have hsl : S.length ≤ 21 := by have := HL.out; rw [hS, List.length_append] at this; omega
    clear hS
    by_cases hz : 0 < x
    · have HX : Hid (hd 8 x = hd 8 (x / 8) ++ [dbyte (x % 8)]) := by
        show hd 8 x = _
        rw [← hd_step 8 x (by omega) (big64 8 x (by omega) hx)]; unfold hd; rw [if_neg (by omega)]
      have hcv := conv1 wr (48 + (x : Int) % 8) (dbyte (x % 8)) (by rw [dbyte_toNat _ (by omega)]; omega)
      have hs1 : (strL [dbyte (x % 8)]).size = 1 := by rw [strL_size]; rfl
      have hs2 := strL_size S
      go_wp2
      go_roundw
      case rel =>
        refine ⟨x / 8, dbyte (x % 8) :: S, by omega, by go_num, str_eq_of (strL_append _ _), by rw [HS.out, HX.out, List.append_assoc]; rfl, hb.alloc hb.size _⟩
      case measure => simp [intOf]; omega
    · obtain rfl : x = 0 := by omega
      go_wp2
      go_ret
      exact ⟨by rw [HS.out]; rfl, hb⟩
theorem rput_8_neg (v width : Int) (w : World) (h1 : 1 ≤ width) (h2 : width ≤ 20) (hv : v < 0) :
    Calls Tryd.prog 45 #[.int .i64 v, .int .i64 width, .int .i64 8] w fun e w' => e = .returned (.tuple #[.string ByteArray.empty, .int .i64 11]) ∧ Below w.heap.size w w' := by
  have b1 : decide (width < 1) = false := by simp; omega
  have b2 : decide (20 < width) = false := by simp; omega
  have b3 : decide (v < 0) = true := by simp; omega
  go_enter Tryd.func45, Tryd.ntmps45
  go_wp2
  go_ret2
  exact ⟨rfl, Below.refl _ _⟩
theorem rput_8_wide (v width : Nat) (w : World) (hv : v ≤ 9223372036854775807) (h1 : 1 ≤ width) (h2 : width ≤ 20) (hl : width < (dg 8 v).length) :
    Calls Tryd.prog 45 #[.int .i64 v, .int .i64 width, .int .i64 8] w fun e w' => e = .returned (.tuple #[.string ByteArray.empty, .int .i64 11]) ∧ Below w.heap.size w w' := by
  have hm : (dg 8 v).length ≤ 21 := len_21 8 v (by omega) hv
  have HF : Hid (∀ w, Calls Tryd.prog 57 #[.int .i64 v, .int .i64 8] w fun e w' => e = .returned (.string (strL (dg 8 v))) ∧ Below w.heap.size w w') := fun w => rdigits_8 v w hv
  have b1 : decide ((width : Int) < 1) = false := by simp; omega
  have b2 : decide ((20 : Int) < width) = false := by simp; omega
  have b3 : decide ((v : Int) < 0) = false := by simp
  have hsz := strL_size (dg 8 v)
  go_enter Tryd.func45, Tryd.ntmps45
  go_wp2_with (first | (go_at_call 57; refine (HF.out _).mono ?_; rintro e w1 ⟨rfl, hb⟩))
  go_ret2
  exact ⟨rfl, hb⟩
set_option maxHeartbeats 400000 in
theorem rput_8_ok (v width : Nat) (w : World) (hv : v ≤ 9223372036854775807) (h1 : 1 ≤ width) (h2 : width ≤ 20) (hl : (dg 8 v).length ≤ width) :
    Calls Tryd.prog 45 #[.int .i64 v, .int .i64 width, .int .i64 8] w fun e w' => e = .returned (.tuple #[.string (strL (pad 8 v width)), .int .i64 0]) ∧ Below w.heap.size w w' := by
  have HF : Hid (∀ w, Calls Tryd.prog 57 #[.int .i64 v, .int .i64 8] w fun e w' => e = .returned (.string (strL (dg 8 v))) ∧ Below w.heap.size w w') := fun w => rdigits_8 v w hv
  have b1 : decide ((width : Int) < 1) = false := by simp; omega
  have b2 : decide ((20 : Int) < width) = false := by simp; omega
  have b3 : decide ((v : Int) < 0) = false := by simp
  have b4 : decide (width < (dg 8 v).length) = false := by simp; omega
  have hsz := strL_size (dg 8 v)
  go_enter Tryd.func45, Tryd.ntmps45
  go_wp2_with (first | (go_at_call 57; refine (HF.out _).mono ?_; rintro e w1 ⟨rfl, hb⟩))
  go_loopw [8] (fun s wx => ∃ k : Nat, (dg 8 v).length + k ≤ width ∧ s = .string (strL (dg 8 v ++ List.replicate k 32)) ∧ wx = w1) (fun s _ => 21 - (strOfV s).size)
  case atStart => exact ⟨0, by omega, by simp, rfl⟩
  case round =>
    obtain ⟨k, hk, rfl, rfl⟩ := hrel
    have hs2 : (strL (dg 8 v ++ List.replicate k 32)).size = (dg 8 v).length + k := by rw [strL_size, List.length_append, List.length_replicate]
    by_cases hlt : (dg 8 v).length + k < width
    · go_wp2
      go_roundw
      case rel => exact ⟨k + 1, by omega, str_eq_of (blank_next _ k), by first | rfl | trivial⟩
      case measure =>
        have e := congrArg ByteArray.size (blank_next (dg 8 v) k)
        rw [strL_size, List.length_append, List.length_replicate] at e
        show 21 - (strL (dg 8 v ++ List.replicate k 32) ++ ({ data := #[32] } : ByteArray)).size < 21 - (strL (dg 8 v ++ List.replicate k 32)).size
        rw [e, hs2]; omega
    · have ek : k = width - (dg 8 v).length := by omega
      have HP : Hid (strL (dg 8 v ++ List.replicate k 32) = strL (pad 8 v width)) := by
        show strL (dg 8 v ++ List.replicate k 32) = _
        unfold pad; rw [Int.toNat_natCast, Int.toNat_natCast, ek]
      clear ek
      go_wp2
      go_ret2
      exact ⟨by rw [← HP.out]; rfl, hb⟩

theorem rput_range (v width base : Int) (w : World) (h : width < 1 ∨ 20 < width) :
    Calls Tryd.prog 45 #[.int .i64 v, .int .i64 width, .int .i64 base] w fun e w' => e = .returned (.tuple #[.string ByteArray.empty, .int .i64 12]) ∧ Below w.heap.size w w' := by
  by_cases h1 : width < 1
  · have b1 : decide (width < 1) = true := by simp; omega
    go_enter Tryd.func45, Tryd.ntmps45
    go_wp2
    go_ret2
    exact ⟨rfl, Below.refl _ _⟩
  · have b1 : decide (width < 1) = false := by simp; omega
    have b2 : decide (20 < width) = true := by simp; omega
    clear h h1
    go_enter Tryd.func45, Tryd.ntmps45
    go_wp2
    go_ret2
    exact ⟨rfl, Below.refl _ _⟩
-- the document's whole answer
theorem write_10 (v width : Int) (w : World) (hT : Tabs w) (hv : v ≤ 9223372036854775807) :
    Calls Tryd.prog 30 #[.int .i64 v, .int .i64 width, .int .i64 10] w fun e w' => e = .returned (.tuple #[.string (putText 10 v width), .int .i64 (putErr 10 v width)]) ∧ Below w.heap.size w w' := by
  unfold putText putErr
  by_cases h : width < 1 ∨ 20 < width
  · rw [if_pos h, if_pos h]; exact write_range v width 10 w h
  · rw [if_neg h, if_neg h]
    by_cases h0 : v < 0
    · rw [if_pos h0, if_pos h0]; exact write_neg v width 10 w (by omega) (by omega) h0
    · rw [if_neg h0, if_neg h0]
      obtain ⟨n, rfl⟩ := Int.eq_ofNat_of_zero_le (show 0 ≤ v by omega)
      obtain ⟨k, rfl⟩ := Int.eq_ofNat_of_zero_le (show 0 ≤ width by omega)
      have hm := len_21 10 n (by omega) (by omega)
      rw [Int.toNat_natCast]
      by_cases h2 : (k : Int) < (dg 10 n).length
      · rw [if_pos h2, if_pos h2]; exact write_10_wide n k w hT (by omega) (by omega) (by omega) (by omega) (by omega)
      · rw [if_neg h2, if_neg h2]; exact write_10_ok n k w hT (by omega) (by omega) (by omega) (by omega)
theorem rput_10 (v width : Int) (w : World) (hv : v ≤ 9223372036854775807) :
    Calls Tryd.prog 45 #[.int .i64 v, .int .i64 width, .int .i64 10] w fun e w' => e = .returned (.tuple #[.string (putText 10 v width), .int .i64 (putErr 10 v width)]) ∧ Below w.heap.size w w' := by
  unfold putText putErr
  by_cases h : width < 1 ∨ 20 < width
  · rw [if_pos h, if_pos h]; exact rput_range v width 10 w h
  · rw [if_neg h, if_neg h]
    by_cases h0 : v < 0
    · rw [if_pos h0, if_pos h0]; exact rput_10_neg v width w (by omega) (by omega) h0
    · rw [if_neg h0, if_neg h0]
      obtain ⟨n, rfl⟩ := Int.eq_ofNat_of_zero_le (show 0 ≤ v by omega)
      obtain ⟨k, rfl⟩ := Int.eq_ofNat_of_zero_le (show 0 ≤ width by omega)
      rw [Int.toNat_natCast]
      by_cases h2 : (k : Int) < (dg 10 n).length
      · rw [if_pos h2, if_pos h2]; exact rput_10_wide n k w (by omega) (by omega) (by omega) (by omega)
      · rw [if_neg h2, if_neg h2]; exact rput_10_ok n k w (by omega) (by omega) (by omega) (by omega)
theorem put_10 (v width : Int) (w : World) (hT : Tabs w) (hv : v ≤ 9223372036854775807) :
    Calls Tryd.prog 16 #[.int .i64 v, .int .i64 width] w fun e w' => e = .returned (.tuple #[.string (putText 10 v width), .int .i64 (putErr 10 v width)]) ∧ Below w.heap.size w w' := by
  have H : Hid (Calls Tryd.prog 30 #[.int .i64 v, .int .i64 width, .int .i64 10] w fun e w' => e = .returned (.tuple #[.string (putText 10 v width), .int .i64 (putErr 10 v width)]) ∧ Below w.heap.size w w') := write_10 v width w hT hv
  clear hv
  go_enter Tryd.func16, Tryd.ntmps16
  go_wp2_with (go_at_call 30; refine H.out.mono ?_; rintro e w1 ⟨rfl, hb⟩)
  go_ret2
  exact ⟨rfl, hb⟩
theorem refput_10 (v width : Int) (w : World) (hv : v ≤ 9223372036854775807) :
    Calls Tryd.prog 31 #[.int .i64 v, .int .i64 width] w fun e w' => e = .returned (.tuple #[.string (putText 10 v width), .int .i64 (putErr 10 v width)]) ∧ Below w.heap.size w w' := by
  have H : Hid (Calls Tryd.prog 45 #[.int .i64 v, .int .i64 width, .int .i64 10] w fun e w' => e = .returned (.tuple #[.string (putText 10 v width), .int .i64 (putErr 10 v width)]) ∧ Below w.heap.size w w') := rput_10 v width w hv
  clear hv
  go_enter Tryd.func31, Tryd.ntmps31
  go_wp2_with (go_at_call 45; refine H.out.mono ?_; rintro e w1 ⟨rfl, hb⟩)
  go_ret2
  exact ⟨rfl, hb⟩

theorem write_8 (v width : Int) (w : World) (hT : Tabs w) (hv : v ≤ 9223372036854775807) :
    Calls Tryd.prog 30 #[.int .i64 v, .int .i64 width, .int .i64 8] w fun e w' => e = .returned (.tuple #[.string (putText 8 v width), .int .i64 (putErr 8 v width)]) ∧ Below w.heap.size w w' := by
  unfold putText putErr
  by_cases h : width < 1 ∨ 20 < width
  · rw [if_pos h, if_pos h]; exact write_range v width 8 w h
  · rw [if_neg h, if_neg h]
    by_cases h0 : v < 0
    · rw [if_pos h0, if_pos h0]; exact write_neg v width 8 w (by omega) (by omega) h0
    · rw [if_neg h0, if_neg h0]
      obtain ⟨n, rfl⟩ := Int.eq_ofNat_of_zero_le (show 0 ≤ v by omega)
      obtain ⟨k, rfl⟩ := Int.eq_ofNat_of_zero_le (show 0 ≤ width by omega)
      have hm := len_21 8 n (by omega) (by omega)
      rw [Int.toNat_natCast]
      by_cases h2 : (k : Int) < (dg 8 n).length
      · rw [if_pos h2, if_pos h2]; exact write_8_wide n k w hT (by omega) (by omega) (by omega) (by omega) (by omega)
      · rw [if_neg h2, if_neg h2]; exact write_8_ok n k w hT (by omega) (by omega) (by omega) (by omega)
theorem rput_8 (v width : Int) (w : World) (hv : v ≤ 9223372036854775807) :
    Calls Tryd.prog 45 #[.int .i64 v, .int .i64 width, .int .i64 8] w fun e w' => e = .returned (.tuple #[.string (putText 8 v width), .int .i64 (putErr 8 v width)]) ∧ Below w.heap.size w w' := by
  unfold putText putErr
  by_cases h : width < 1 ∨ 20 < width
  · rw [if_pos h, if_pos h]; exact rput_range v width 8 w h
  · rw [if_neg h, if_neg h]
    by_cases h0 : v < 0
    · rw [if_pos h0, if_pos h0]; exact rput_8_neg v width w (by omega) (by omega) h0
    · rw [if_neg h0, if_neg h0]
      obtain ⟨n, rfl⟩ := Int.eq_ofNat_of_zero_le (show 0 ≤ v by omega)
      obtain ⟨k, rfl⟩ := Int.eq_ofNat_of_zero_le (show 0 ≤ width by omega)
      rw [Int.toNat_natCast]
      by_cases h2 : (k : Int) < (dg 8 n).length
      · rw [if_pos h2, if_pos h2]; exact rput_8_wide n k w (by omega) (by omega) (by omega) (by omega)
      · rw [if_neg h2, if_neg h2]; exact rput_8_ok n k w (by omega) (by omega) (by omega) (by omega)
theorem put_8 (v width : Int) (w : World) (hT : Tabs w) (hv : v ≤ 9223372036854775807) :
    Calls Tryd.prog 17 #[.int .i64 v, .int .i64 width] w fun e w' => e = .returned (.tuple #[.string (putText 8 v width), .int .i64 (putErr 8 v width)]) ∧ Below w.heap.size w w' := by
  have H : Hid (Calls Tryd.prog 30 #[.int .i64 v, .int .i64 width, .int .i64 8] w fun e w' => e = .returned (.tuple #[.string (putText 8 v width), .int .i64 (putErr 8 v width)]) ∧ Below w.heap.size w w') := write_8 v width w hT hv
  clear hv
  go_enter Tryd.func17, Tryd.ntmps17
  go_wp2_with (go_at_call 30; refine H.out.mono ?_; rintro e w1 ⟨rfl, hb⟩)
  go_ret2
  exact ⟨rfl, hb⟩
theorem refput_8 (v width : Int) (w : World) (hv : v ≤ 9223372036854775807) :
    Calls Tryd.prog 32 #[.int .i64 v, .int .i64 width] w fun e w' => e = .returned (.tuple #[.string (putText 8 v width), .int .i64 (putErr 8 v width)]) ∧ Below w.heap.size w w' := by
  have H : Hid (Calls Tryd.prog 45 #[.int .i64 v, .int .i64 width, .int .i64 8] w fun e w' => e = .returned (.tuple #[.string (putText 8 v width), .int .i64 (putErr 8 v width)]) ∧ Below w.heap.size w w') := rput_8 v width w hv
  clear hv
  go_enter Tryd.func32, Tryd.ntmps32
  go_wp2_with (go_at_call 45; refine H.out.mono ?_; rintro e w1 ⟨rfl, hb⟩)
  go_ret2
  exact ⟨rfl, hb⟩
end Go.Proofs.YtbkfkanknfdelaaDoor
