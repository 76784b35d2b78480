-- Proof of the given statement about NumBytesBack. The frame is the guide's proof-skeleton; the walk and the lemmas are ours.
import Derived.Test.YtfjmjgnifbgneaaRows
import Derived.WalkKit
import Derived.ProofKit
import Derived.OpenShut
import Derived.ShutString
import Derived.Test.YtfjmjgnifbgneaaRStore
import Derived.Test.YtfjmjgnifbgneaaLdv
import Derived.Deep.RegionWith
namespace Go.Proofs.Ytfjmjgnifbgneaa.numBytesBack
open Go.ChangeShapes Go.WideShapes Go.ChangeAt Go.RowKit
open Go.ChangeMaps (open_string shut_string)
set_option linter.unusedVariables false

theorem own : ownKnob Try.prog.godebug = none := by kernel_rfl

theorem ext_take (l : List UInt8) (k : Nat) (h : k < l.length) : (strOf l).extract k (k + 1) = strOf [l[k]] := by
  rw [Lib.extract_eq]
  have e : (l.drop k).take (k + 1 - k) = [l[k]] := by
    rw [List.drop_eq_getElem_cons h, show k + 1 - k = 1 from by omega]; rfl
  show (⟨((l.drop k).take (k + 1 - k)).toArray⟩ : ByteArray) = _
  rw [e]; rfl
theorem slice1 (l : List UInt8) (k : Nat) (h : k < l.length) : ∀ w, (Instr.slice 9 (.string (strOf l)) (some (.int .i64 (k : Int))) (some (.int .i64 ((k : Int) + 1))) none).run Try.prog w = .ok (.string (strOf [l[k]])) w := by
  intro w
  have hz := strOf_size l
  rw [run_slice_string w 9 (strOf l) .i64 .i64 k (k + 1) Try.underlying9 (by omega) (by omega) (by omega)]
  have e : ((k : Int) + 1).toNat = k + 1 := by omega
  rw [Int.toNat_natCast, e, ext_take l k h]
theorem rev_next (l : List UInt8) (k : Nat) (h : k < l.length) : strOf [l[k]] ++ strOf (l.take k).reverse = strOf (l.take (k + 1)).reverse := by
  rw [strOf_append, List.take_succ_eq_append_getElem h, List.reverse_append]; rfl
theorem mirror_any (l : List UInt8) (w : World) (hl : l.length ≤ 1000) :
    Calls Try.prog 16 #[.string (strOf l)] w fun e w' => e = .returned (.string (strOf l.reverse)) ∧ Below w.heap.size w w' := by
  have hsz := strOf_size l
  go_enter Try.func16, Try.ntmps16
  go_wp2
  go_loop [3, 4] (fun t i => ∃ k : Nat, k ≤ l.length ∧ i = .int .i64 k ∧ t = .string (strOf (l.take k).reverse)) (fun _ i => l.length - (intOf i).toNat)
  case atStart => exact ⟨0, Nat.zero_le _, rfl, rfl⟩
  case round =>
    obtain ⟨k, hk, rfl, rfl⟩ := hrel
    by_cases hlt : k < l.length
    · have hs2 : (strOf (l.take k).reverse).size = k := by rw [strOf_size, List.length_reverse, List.length_take]; omega
      have hs1 : (strOf [l[k]]).size = 1 := by rw [strOf_size]; rfl
      have hsl := slice1 l k hlt
      go_wp2
      go_round
      case rel => exact ⟨k + 1, by omega, by go_num, str_eq_of (rev_next l k hlt)⟩
      case measure => simp [intOf]; omega
    · obtain rfl : k = l.length := by omega
      go_wp2
      go_ret
      exact ⟨by first | rfl | simp, Below.refl _ _⟩
theorem ldv_str (L : List UInt8) (K : Nat) (hL : L.length = K) : ldv (strOf L) 0 (K : Int) 1 = beNat L ∧ ldv (strOf L) 0 (K : Int) 0 = leNat L := by
  subst hL
  have e : ((strOf L).data.toList.drop (0 : Int).toNat).take (L.length : Int).toNat = L := by
    rw [Int.toNat_natCast]
    show (L.drop 0).take L.length = L
    rw [List.drop_zero, List.take_length]
  constructor
  · unfold ldv; rw [if_pos rfl, e]
  · unfold ldv; rw [if_neg (by decide), e]
theorem back (K v B : Nat) (hB : 256 ^ K = B) (h : v < B) : ldv (strOf (leBytes K v).reverse) 0 (K : Int) 1 = v ∧ ldv (strOf (leBytes K v)) 0 (K : Int) 0 = v := by
  have hl := leBytes_length K v
  have e : leNat (leBytes K v) = v := by rw [leNat_leBytes, hB]; exact Nat.mod_eq_of_lt h
  refine ⟨?_, ?_⟩
  · rw [(ldv_str _ K (by rw [List.length_reverse]; exact hl)).1]; unfold beNat; rw [List.reverse_reverse]; exact e
  · rw [(ldv_str _ K hl).2]; exact e

set_option maxRecDepth 100000 in
theorem wide_1 (v : Nat) (n : Int) (w : World) (hn : n % 4 = 0) (hv : 256 ≤ v) (h64 : v < 18446744073709551616) :
    Calls Try.prog 7 #[.int .u64 v, .int .i64 n] w fun e w' => e = .returned (.bool true) ∧ Below w.heap.size w w' := by
  have HS : Hid (∀ w, Calls Try.prog 13 #[.int .i64 n] w fun e w' => e = .returned (.int .i64 1) ∧ w' = w) := fun w => size_any n 1 w (by omega)
  have HB : Hid (∀ w, Calls Try.prog 11 #[.int .u64 v, .int .i64 1, .int .i64 1] w fun e w' => e = .returned (.tuple #[.string ByteArray.empty, .int .i64 11]) ∧ Below w.heap.size w w') := fun w => num_store_big_1_wide v w hv h64
  have HL : Hid (∀ w, Calls Try.prog 11 #[.int .u64 v, .int .i64 1, .int .i64 0] w fun e w' => e = .returned (.tuple #[.string ByteArray.empty, .int .i64 11]) ∧ Below w.heap.size w w') := fun w => num_store_little_1_wide v w hv h64
  have hd : ((v : Int) / 256 != 0) = true := by simp; omega
  clear hn hv h64
  go_enter Try.func7, Try.ntmps7
  go_wp2_with (first
    | (go_at_call 13; refine (HS.out _).mono ?_; rintro e w1 ⟨rfl, hw1⟩; subst w1)
    | (go_at_call_of 11 (Value.int IntKind.i64 0); refine (HL.out _).mono ?_; rintro e w1 ⟨rfl, hb1⟩)
    | (go_at_call 11; refine (HB.out _).mono ?_; rintro e w1 ⟨rfl, hb1⟩))
  go_ret
  refine ⟨rfl, ?_⟩
  repeat (first | assumption | (apply bel; rotate_left; assumption))

set_option maxRecDepth 100000 in
set_option maxHeartbeats 400000 in
theorem fits_1 (v : Nat) (n : Int) (w : World) (hn : n % 4 = 0) (hv : v < 256) :
    Calls Try.prog 7 #[.int .u64 v, .int .i64 n] w fun e w' => e = .returned (.bool true) ∧ Below w.heap.size w w' := by
  have HS : Hid (∀ w, Calls Try.prog 13 #[.int .i64 n] w fun e w' => e = .returned (.int .i64 1) ∧ w' = w) := fun w => size_any n 1 w (by omega)
  have hl := leBytes_length 1 v
  have hlr : (leBytes 1 v).reverse.length = 1 := by rw [List.length_reverse]; exact hl
  have HB : Hid (∀ w, Calls Try.prog 11 #[.int .u64 v, .int .i64 1, .int .i64 1] w fun e w' => e = .returned (.tuple #[.string (strOf (leBytes 1 v).reverse), .int .i64 0]) ∧ Below w.heap.size w w') := fun w => num_store_big_1 v w hv
  have HL : Hid (∀ w, Calls Try.prog 11 #[.int .u64 v, .int .i64 1, .int .i64 0] w fun e w' => e = .returned (.tuple #[.string (strOf (leBytes 1 v)), .int .i64 0]) ∧ Below w.heap.size w w') := fun w => num_store_little_1 v w hv
  have HM : Hid (∀ w, Calls Try.prog 16 #[.string (strOf (leBytes 1 v).reverse)] w fun e w' => e = .returned (.string (strOf (leBytes 1 v))) ∧ Below w.heap.size w w') := by
    intro w
    have h := mirror_any (leBytes 1 v).reverse w (by omega)
    rw [List.reverse_reverse] at h
    exact h
  have hb := back 1 v 256 (by decide) hv
  have HX : Hid (∀ w, Calls Try.prog 14 #[.string (strOf (leBytes 1 v).reverse), .int .i64 0, .int .i64 1, .int .i64 1] w fun e w' => e = .returned (.tuple #[.int .u64 v, .int .i64 0]) ∧ Below w.heap.size w w') := by
    intro w
    have h := num_ok (strOf (leBytes 1 v).reverse) 0 1 1 w (by decide) (by decide) (by decide) (by rw [strOf_size, hlr]; decide) (by rw [strOf_size, hlr]; unfold maxLen; omega)
    rw [show ldv (strOf (leBytes 1 v).reverse) 0 1 1 = v from hb.1] at h
    exact h
  have HY : Hid (∀ w, Calls Try.prog 14 #[.string (strOf (leBytes 1 v)), .int .i64 0, .int .i64 1, .int .i64 0] w fun e w' => e = .returned (.tuple #[.int .u64 v, .int .i64 0]) ∧ Below w.heap.size w w') := by
    intro w
    have h := num_ok (strOf (leBytes 1 v)) 0 1 0 w (by decide) (by decide) (by decide) (by rw [strOf_size, hl]; decide) (by rw [strOf_size, hl]; unfold maxLen; omega)
    rw [show ldv (strOf (leBytes 1 v)) 0 1 0 = v from hb.2] at h
    exact h
  have hs1 : (strOf (leBytes 1 v).reverse).size = 1 := by rw [strOf_size, hlr]
  have hd : ((v : Int) / 256 != 0) = false := by simp; omega
  clear hn hv hl hlr hb
  go_enter Try.func7, Try.ntmps7
  go_wp2_with (first
    | (go_at_call 13; refine (HS.out _).mono ?_; rintro e w1 ⟨rfl, hw1⟩; subst w1)
    | (go_at_call_of 11 (Value.int IntKind.i64 0); refine (HL.out _).mono ?_; rintro e w1 ⟨rfl, hb1⟩)
    | (go_at_call 11; refine (HB.out _).mono ?_; rintro e w1 ⟨rfl, hb1⟩)
    | (go_at_call 16; refine (HM.out _).mono ?_; rintro e w1 ⟨rfl, hb1⟩)
    | (go_at_call_of 14 (Value.string (strOf (leBytes 1 v).reverse)); refine (HX.out _).mono ?_; rintro e w1 ⟨rfl, hb1⟩)
    | (go_at_call 14; refine (HY.out _).mono ?_; rintro e w1 ⟨rfl, hb1⟩))
  go_ret
  refine ⟨rfl, ?_⟩
  repeat (first | assumption | (apply bel; rotate_left; assumption))

set_option maxRecDepth 100000 in
theorem wide_2 (v : Nat) (n : Int) (w : World) (hn : n % 4 = 1) (hv : 65536 ≤ v) (h64 : v < 18446744073709551616) :
    Calls Try.prog 7 #[.int .u64 v, .int .i64 n] w fun e w' => e = .returned (.bool true) ∧ Below w.heap.size w w' := by
  have HS : Hid (∀ w, Calls Try.prog 13 #[.int .i64 n] w fun e w' => e = .returned (.int .i64 2) ∧ w' = w) := fun w => size_any n 2 w (by omega)
  have HB : Hid (∀ w, Calls Try.prog 11 #[.int .u64 v, .int .i64 2, .int .i64 1] w fun e w' => e = .returned (.tuple #[.string ByteArray.empty, .int .i64 11]) ∧ Below w.heap.size w w') := fun w => num_store_big_2_wide v w hv h64
  have HL : Hid (∀ w, Calls Try.prog 11 #[.int .u64 v, .int .i64 2, .int .i64 0] w fun e w' => e = .returned (.tuple #[.string ByteArray.empty, .int .i64 11]) ∧ Below w.heap.size w w') := fun w => num_store_little_2_wide v w hv h64
  have hd : ((v : Int) / 65536 != 0) = true := by simp; omega
  clear hn hv h64
  go_enter Try.func7, Try.ntmps7
  go_wp2_with (first
    | (go_at_call 13; refine (HS.out _).mono ?_; rintro e w1 ⟨rfl, hw1⟩; subst w1)
    | (go_at_call_of 11 (Value.int IntKind.i64 0); refine (HL.out _).mono ?_; rintro e w1 ⟨rfl, hb1⟩)
    | (go_at_call 11; refine (HB.out _).mono ?_; rintro e w1 ⟨rfl, hb1⟩))
  go_ret
  refine ⟨rfl, ?_⟩
  repeat (first | assumption | (apply bel; rotate_left; assumption))

set_option maxRecDepth 100000 in
set_option maxHeartbeats 400000 in
theorem fits_2 (v : Nat) (n : Int) (w : World) (hn : n % 4 = 1) (hv : v < 65536) :
    Calls Try.prog 7 #[.int .u64 v, .int .i64 n] w fun e w' => e = .returned (.bool true) ∧ Below w.heap.size w w' := by
  have HS : Hid (∀ w, Calls Try.prog 13 #[.int .i64 n] w fun e w' => e = .returned (.int .i64 2) ∧ w' = w) := fun w => size_any n 2 w (by omega)
  have hl := leBytes_length 2 v
  have hlr : (leBytes 2 v).reverse.length = 2 := by rw [List.length_reverse]; exact hl
  have HB : Hid (∀ w, Calls Try.prog 11 #[.int .u64 v, .int .i64 2, .int .i64 1] w fun e w' => e = .returned (.tuple #[.string (strOf (leBytes 2 v).reverse), .int .i64 0]) ∧ Below w.heap.size w w') := fun w => num_store_big_2 v w hv
  have HL : Hid (∀ w, Calls Try.prog 11 #[.int .u64 v, .int .i64 2, .int .i64 0] w fun e w' => e = .returned (.tuple #[.string (strOf (leBytes 2 v)), .int .i64 0]) ∧ Below w.heap.size w w') := fun w => num_store_little_2 v w hv
  have HM : Hid (∀ w, Calls Try.prog 16 #[.string (strOf (leBytes 2 v).reverse)] w fun e w' => e = .returned (.string (strOf (leBytes 2 v))) ∧ Below w.heap.size w w') := by
    intro w
    have h := mirror_any (leBytes 2 v).reverse w (by omega)
    rw [List.reverse_reverse] at h
    exact h
  have hb := back 2 v 65536 (by decide) hv
  have HX : Hid (∀ w, Calls Try.prog 14 #[.string (strOf (leBytes 2 v).reverse), .int .i64 0, .int .i64 2, .int .i64 1] w fun e w' => e = .returned (.tuple #[.int .u64 v, .int .i64 0]) ∧ Below w.heap.size w w') := by
    intro w
    have h := num_ok (strOf (leBytes 2 v).reverse) 0 2 1 w (by decide) (by decide) (by decide) (by rw [strOf_size, hlr]; decide) (by rw [strOf_size, hlr]; unfold maxLen; omega)
    rw [show ldv (strOf (leBytes 2 v).reverse) 0 2 1 = v from hb.1] at h
    exact h
  have HY : Hid (∀ w, Calls Try.prog 14 #[.string (strOf (leBytes 2 v)), .int .i64 0, .int .i64 2, .int .i64 0] w fun e w' => e = .returned (.tuple #[.int .u64 v, .int .i64 0]) ∧ Below w.heap.size w w') := by
    intro w
    have h := num_ok (strOf (leBytes 2 v)) 0 2 0 w (by decide) (by decide) (by decide) (by rw [strOf_size, hl]; decide) (by rw [strOf_size, hl]; unfold maxLen; omega)
    rw [show ldv (strOf (leBytes 2 v)) 0 2 0 = v from hb.2] at h
    exact h
  have hs1 : (strOf (leBytes 2 v).reverse).size = 2 := by rw [strOf_size, hlr]
  have hd : ((v : Int) / 65536 != 0) = false := by simp; omega
  clear hn hv hl hlr hb
  go_enter Try.func7, Try.ntmps7
  go_wp2_with (first
    | (go_at_call 13; refine (HS.out _).mono ?_; rintro e w1 ⟨rfl, hw1⟩; subst w1)
    | (go_at_call_of 11 (Value.int IntKind.i64 0); refine (HL.out _).mono ?_; rintro e w1 ⟨rfl, hb1⟩)
    | (go_at_call 11; refine (HB.out _).mono ?_; rintro e w1 ⟨rfl, hb1⟩)
    | (go_at_call 16; refine (HM.out _).mono ?_; rintro e w1 ⟨rfl, hb1⟩)
    | (go_at_call_of 14 (Value.string (strOf (leBytes 2 v).reverse)); refine (HX.out _).mono ?_; rintro e w1 ⟨rfl, hb1⟩)
    | (go_at_call 14; refine (HY.out _).mono ?_; rintro e w1 ⟨rfl, hb1⟩))
  go_ret
  refine ⟨rfl, ?_⟩
  repeat (first | assumption | (apply bel; rotate_left; assumption))

set_option maxRecDepth 100000 in
theorem wide_4 (v : Nat) (n : Int) (w : World) (hn : n % 4 = 2) (hv : 4294967296 ≤ v) (h64 : v < 18446744073709551616) :
    Calls Try.prog 7 #[.int .u64 v, .int .i64 n] w fun e w' => e = .returned (.bool true) ∧ Below w.heap.size w w' := by
  have HS : Hid (∀ w, Calls Try.prog 13 #[.int .i64 n] w fun e w' => e = .returned (.int .i64 4) ∧ w' = w) := fun w => size_any n 4 w (by omega)
  have HB : Hid (∀ w, Calls Try.prog 11 #[.int .u64 v, .int .i64 4, .int .i64 1] w fun e w' => e = .returned (.tuple #[.string ByteArray.empty, .int .i64 11]) ∧ Below w.heap.size w w') := fun w => num_store_big_4_wide v w hv h64
  have HL : Hid (∀ w, Calls Try.prog 11 #[.int .u64 v, .int .i64 4, .int .i64 0] w fun e w' => e = .returned (.tuple #[.string ByteArray.empty, .int .i64 11]) ∧ Below w.heap.size w w') := fun w => num_store_little_4_wide v w hv h64
  have hd : ((v : Int) / 4294967296 != 0) = true := by simp; omega
  clear hn hv h64
  go_enter Try.func7, Try.ntmps7
  go_wp2_with (first
    | (go_at_call 13; refine (HS.out _).mono ?_; rintro e w1 ⟨rfl, hw1⟩; subst w1)
    | (go_at_call_of 11 (Value.int IntKind.i64 0); refine (HL.out _).mono ?_; rintro e w1 ⟨rfl, hb1⟩)
    | (go_at_call 11; refine (HB.out _).mono ?_; rintro e w1 ⟨rfl, hb1⟩))
  go_ret
  refine ⟨rfl, ?_⟩
  repeat (first | assumption | (apply bel; rotate_left; assumption))

set_option maxRecDepth 100000 in
set_option maxHeartbeats 400000 in
theorem fits_4 (v : Nat) (n : Int) (w : World) (hn : n % 4 = 2) (hv : v < 4294967296) :
    Calls Try.prog 7 #[.int .u64 v, .int .i64 n] w fun e w' => e = .returned (.bool true) ∧ Below w.heap.size w w' := by
  have HS : Hid (∀ w, Calls Try.prog 13 #[.int .i64 n] w fun e w' => e = .returned (.int .i64 4) ∧ w' = w) := fun w => size_any n 4 w (by omega)
  have hl := leBytes_length 4 v
  have hlr : (leBytes 4 v).reverse.length = 4 := by rw [List.length_reverse]; exact hl
  have HB : Hid (∀ w, Calls Try.prog 11 #[.int .u64 v, .int .i64 4, .int .i64 1] w fun e w' => e = .returned (.tuple #[.string (strOf (leBytes 4 v).reverse), .int .i64 0]) ∧ Below w.heap.size w w') := fun w => num_store_big_4 v w hv
  have HL : Hid (∀ w, Calls Try.prog 11 #[.int .u64 v, .int .i64 4, .int .i64 0] w fun e w' => e = .returned (.tuple #[.string (strOf (leBytes 4 v)), .int .i64 0]) ∧ Below w.heap.size w w') := fun w => num_store_little_4 v w hv
  have HM : Hid (∀ w, Calls Try.prog 16 #[.string (strOf (leBytes 4 v).reverse)] w fun e w' => e = .returned (.string (strOf (leBytes 4 v))) ∧ Below w.heap.size w w') := by
    intro w
    have h := mirror_any (leBytes 4 v).reverse w (by omega)
    rw [List.reverse_reverse] at h
    exact h
  have hb := back 4 v 4294967296 (by decide) hv
  have HX : Hid (∀ w, Calls Try.prog 14 #[.string (strOf (leBytes 4 v).reverse), .int .i64 0, .int .i64 4, .int .i64 1] w fun e w' => e = .returned (.tuple #[.int .u64 v, .int .i64 0]) ∧ Below w.heap.size w w') := by
    intro w
    have h := num_ok (strOf (leBytes 4 v).reverse) 0 4 1 w (by decide) (by decide) (by decide) (by rw [strOf_size, hlr]; decide) (by rw [strOf_size, hlr]; unfold maxLen; omega)
    rw [show ldv (strOf (leBytes 4 v).reverse) 0 4 1 = v from hb.1] at h
    exact h
  have HY : Hid (∀ w, Calls Try.prog 14 #[.string (strOf (leBytes 4 v)), .int .i64 0, .int .i64 4, .int .i64 0] w fun e w' => e = .returned (.tuple #[.int .u64 v, .int .i64 0]) ∧ Below w.heap.size w w') := by
    intro w
    have h := num_ok (strOf (leBytes 4 v)) 0 4 0 w (by decide) (by decide) (by decide) (by rw [strOf_size, hl]; decide) (by rw [strOf_size, hl]; unfold maxLen; omega)
    rw [show ldv (strOf (leBytes 4 v)) 0 4 0 = v from hb.2] at h
    exact h
  have hs1 : (strOf (leBytes 4 v).reverse).size = 4 := by rw [strOf_size, hlr]
  have hd : ((v : Int) / 4294967296 != 0) = false := by simp; omega
  clear hn hv hl hlr hb
  go_enter Try.func7, Try.ntmps7
  go_wp2_with (first
    | (go_at_call 13; refine (HS.out _).mono ?_; rintro e w1 ⟨rfl, hw1⟩; subst w1)
    | (go_at_call_of 11 (Value.int IntKind.i64 0); refine (HL.out _).mono ?_; rintro e w1 ⟨rfl, hb1⟩)
    | (go_at_call 11; refine (HB.out _).mono ?_; rintro e w1 ⟨rfl, hb1⟩)
    | (go_at_call 16; refine (HM.out _).mono ?_; rintro e w1 ⟨rfl, hb1⟩)
    | (go_at_call_of 14 (Value.string (strOf (leBytes 4 v).reverse)); refine (HX.out _).mono ?_; rintro e w1 ⟨rfl, hb1⟩)
    | (go_at_call 14; refine (HY.out _).mono ?_; rintro e w1 ⟨rfl, hb1⟩))
  go_ret
  refine ⟨rfl, ?_⟩
  repeat (first | assumption | (apply bel; rotate_left; assumption))

set_option maxRecDepth 100000 in
set_option maxHeartbeats 400000 in
theorem fits_8 (v : Nat) (n : Int) (w : World) (hn : n % 4 = 3) (hv : v < 18446744073709551616) :
    Calls Try.prog 7 #[.int .u64 v, .int .i64 n] w fun e w' => e = .returned (.bool true) ∧ Below w.heap.size w w' := by
  have HS : Hid (∀ w, Calls Try.prog 13 #[.int .i64 n] w fun e w' => e = .returned (.int .i64 8) ∧ w' = w) := fun w => size_any n 8 w (by omega)
  have hl := leBytes_length 8 v
  have hlr : (leBytes 8 v).reverse.length = 8 := by rw [List.length_reverse]; exact hl
  have HB : Hid (∀ w, Calls Try.prog 11 #[.int .u64 v, .int .i64 8, .int .i64 1] w fun e w' => e = .returned (.tuple #[.string (strOf (leBytes 8 v).reverse), .int .i64 0]) ∧ Below w.heap.size w w') := fun w => num_store_big_8 v w hv
  have HL : Hid (∀ w, Calls Try.prog 11 #[.int .u64 v, .int .i64 8, .int .i64 0] w fun e w' => e = .returned (.tuple #[.string (strOf (leBytes 8 v)), .int .i64 0]) ∧ Below w.heap.size w w') := fun w => num_store_little_8 v w hv
  have HM : Hid (∀ w, Calls Try.prog 16 #[.string (strOf (leBytes 8 v).reverse)] w fun e w' => e = .returned (.string (strOf (leBytes 8 v))) ∧ Below w.heap.size w w') := by
    intro w
    have h := mirror_any (leBytes 8 v).reverse w (by omega)
    rw [List.reverse_reverse] at h
    exact h
  have hb := back 8 v 18446744073709551616 (by decide) hv
  have HX : Hid (∀ w, Calls Try.prog 14 #[.string (strOf (leBytes 8 v).reverse), .int .i64 0, .int .i64 8, .int .i64 1] w fun e w' => e = .returned (.tuple #[.int .u64 v, .int .i64 0]) ∧ Below w.heap.size w w') := by
    intro w
    have h := num_ok (strOf (leBytes 8 v).reverse) 0 8 1 w (by decide) (by decide) (by decide) (by rw [strOf_size, hlr]; decide) (by rw [strOf_size, hlr]; unfold maxLen; omega)
    rw [show ldv (strOf (leBytes 8 v).reverse) 0 8 1 = v from hb.1] at h
    exact h
  have HY : Hid (∀ w, Calls Try.prog 14 #[.string (strOf (leBytes 8 v)), .int .i64 0, .int .i64 8, .int .i64 0] w fun e w' => e = .returned (.tuple #[.int .u64 v, .int .i64 0]) ∧ Below w.heap.size w w') := by
    intro w
    have h := num_ok (strOf (leBytes 8 v)) 0 8 0 w (by decide) (by decide) (by decide) (by rw [strOf_size, hl]; decide) (by rw [strOf_size, hl]; unfold maxLen; omega)
    rw [show ldv (strOf (leBytes 8 v)) 0 8 0 = v from hb.2] at h
    exact h
  have hs1 : (strOf (leBytes 8 v).reverse).size = 8 := by rw [strOf_size, hlr]
  
  clear hn hv hl hlr hb
  go_enter Try.func7, Try.ntmps7
  go_wp2_with (first
    | (go_at_call 13; refine (HS.out _).mono ?_; rintro e w1 ⟨rfl, hw1⟩; subst w1)
    | (go_at_call_of 11 (Value.int IntKind.i64 0); refine (HL.out _).mono ?_; rintro e w1 ⟨rfl, hb1⟩)
    | (go_at_call 11; refine (HB.out _).mono ?_; rintro e w1 ⟨rfl, hb1⟩)
    | (go_at_call 16; refine (HM.out _).mono ?_; rintro e w1 ⟨rfl, hb1⟩)
    | (go_at_call_of 14 (Value.string (strOf (leBytes 8 v).reverse)); refine (HX.out _).mono ?_; rintro e w1 ⟨rfl, hb1⟩)
    | (go_at_call 14; refine (HY.out _).mono ?_; rintro e w1 ⟨rfl, hb1⟩))
  go_ret
  refine ⟨rfl, ?_⟩
  repeat (first | assumption | (apply bel; rotate_left; assumption))
-- the walk
theorem walk (a0 : Int) (a1 : Int) (w0 : (Lit.int .u64 a0).wf = true) (w1 : (Lit.int .i64 a1).wf = true) (w : World) :
    Calls Try.prog 7 #[.int .u64 a0, .int .i64 a1] w fun e w' => e = .returned (.bool true) ∧ Below w.heap.size w w' := by
  have hb := bounds_u64 w0
  obtain ⟨v, rfl⟩ := Int.eq_ofNat_of_zero_le hb.1
  have hv : v < 18446744073709551616 := by omega
  have hn : a1 % 4 = 0 ∨ a1 % 4 = 1 ∨ a1 % 4 = 2 ∨ a1 % 4 = 3 := by omega
  rcases hn with hn | hn | hn | hn
  · by_cases h : v < 256
    · exact fits_1 v a1 w hn h
    · exact wide_1 v a1 w hn (by omega) hv
  · by_cases h : v < 65536
    · exact fits_2 v a1 w hn h
    · exact wide_2 v a1 w hn (by omega) hv
  · by_cases h : v < 4294967296
    · exact fits_4 v a1 w hn h
    · exact wide_4 v a1 w hn (by omega) hv
  · exact fits_8 v a1 w hn hv

-- the row's step (the frame)
set_option maxRecDepth 100000 in
theorem lifted (os : Os) (started : os.Started) (H : Type) (enc : TypeId × Value → H) :
    ReturnsInHanded {} Try.checked os 7 .any (Rows.numBytesBackSpec.pre6 enc Try.prog Try.f7 Rows.numBytesBackRow.domain false) (Rows.numBytesBackSpec.post enc Try.prog Try.f7 false true false false) := by
  refine returnsInHanded_of_change (C := Try.checked) own started (by kernel_rfl) Try.func7
    (ChangeSpec.witness6 (enc := enc) (C := Try.checked) false ⟨#[], #[.int .u64 0, .int .i64 0], []⟩ 8 (by kernel_rfl) (by kernel_rfl) (by kernel_rfl) (by kernel_rfl)) ?_
  intro W base args ds gs before hval0 hW hcnd _
  have hval : ∀ (j : Nat) t v, Try.f7.params[j]? = some t → args[j]? = some v → Value.okWide Try.prog W .any base t v := hval0
  have hW' := hW
  obtain ⟨p, q, hA0, hV, rfl, hfz, hnd⟩ := hW
  have hA : DataW.TrodAll enc Try.prog W 0 (fun _ => true) true Try.f7.params.toList args.toList ds p := hA0
  rw [Try.params7] at hA hval
  obtain ⟨v0, vs0, d0, ds0, p0, q0, hargs, rfl, rfl, h0, r0⟩ := trodAll_cons hA
  obtain ⟨v1, vs1, d1, ds1, p1, q1, rfl, rfl, rfl, h1, r1⟩ := trodAll_cons r0
  obtain ⟨rfl, rfl, rfl⟩ := trodAll_nil r1
  obtain rfl : args = #[v0, v1] := by cases args; simp_all
  obtain ⟨rfl, rfl⟩ := trodVars_none hV
  obtain ⟨a0, rfl, rfl, rfl, w0⟩ := open_int Try.underlying24 (hval 0 24 v0 rfl rfl) h0
  obtain ⟨a1, rfl, rfl, rfl, w1⟩ := open_int Try.underlying3 (hval 1 3 v1 rfl rfl) h1
  clear hA0 hval0
  simp only [List.append_nil] at hW'
  refine (walk a0 a1 w0 w1 W).mono fun e W' ⟨he, hg⟩ => ?_
  subst he
  exact ⟨_, rfl, _, _, _, [], _, [], hW', (trodAll_cons_mk (shut_bool Try.underlying4 _) trodAll_mk0), (trodAll_cons_mk (shut_int Try.underlying24 w0) (trodAll_cons_mk (shut_int Try.underlying3 w1) trodAll_mk0)), rfl, hg.frame _, fun h => by cases h⟩

theorem over : Rows.numBytesBackRow.holds Try.pinned (OpenSpec.ofChange Rows.numBytesBackSpec) :=
  OpenClaim.holds_of_wide 7 Try.f7 rfl rfl rfl rfl rfl rfl rfl ⟨rfl, rfl, rfl, rfl, rfl⟩ rfl rfl rfl rfl rfl (by kernel_rfl) Try.func7 (by kernel_rfl)
    (of_decide_eq_true (by kernel_rfl)) (by unfold Func.isWrapper; first | (rw [if_pos (by decide +kernel)]; kernel_rfl) | (rw [if_neg (by decide +kernel)]; exact ⟨rfl, rfl⟩))
    (fun os started H enc _ => lifted os started H enc)

theorem proved : Rows.NumBytesBackSaid :=
  over
end Go.Proofs.Ytfjmjgnifbgneaa.numBytesBack
namespace Go.Proofs.Ytfjmjgnifbgneaa
theorem numBytesBack_holds : Rows.NumBytesBackSaid := numBytesBack.proved
#print axioms numBytesBack_holds
end Go.Proofs.Ytfjmjgnifbgneaa
