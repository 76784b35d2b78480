-- shelfref1.Store and num.Store: contracts.
import Derived.Test.YtfjmjgnifbgneaaRLoad
import Derived.Test.YtfjmjgnifbgneaaStore
namespace Go.Proofs.Ytfjmjgnifbgneaa
open Go.ChangeShapes Go.WideShapes Go.ChangeAt Go.RowKit
set_option linter.unusedVariables false

theorem conv1 (w : World) (n : Nat) : (convert 42 9 (.slice (some ⟨w.heap.size, 0, none⟩) 1 1)).run Try.prog (w.alloc (.cells #[.int .u8 ((n : Int) % 256)] 5)) = .ok (.string ⟨#[UInt8.ofNat (n % 256)]⟩) (w.alloc (.cells #[.int .u8 ((n : Int) % 256)] 5)) := by
  refine conv w #[.int .u8 ((n : Int) % 256)] [UInt8.ofNat (n % 256)] 1 rfl (fun j hj => ?_)
  obtain rfl : j = 0 := by omega
  simp
def strOf (l : List UInt8) : ByteArray := ⟨l.toArray⟩
theorem strOf_size (l : List UInt8) : (strOf l).size = l.length := by simp [strOf, ByteArray.size]
theorem strOf_append (a b : List UInt8) : strOf a ++ strOf b = strOf (a ++ b) := by
  apply ByteArray.ext; simp [strOf]
theorem str_eq_of {a b : ByteArray} (h : a = b) : Value.string a = .string b := by rw [h]
def divAt (v k : Nat) : Nat := v / 256 ^ k
theorem divAt_succ (v k : Nat) : divAt v (k + 1) = divAt v k / 256 := by
  unfold divAt; rw [Nat.pow_succ, Nat.div_div_eq_div_mul]
theorem divAt_lt (v k : Nat) (h : v < 18446744073709551616) : divAt v k < 18446744073709551616 :=
  Nat.lt_of_le_of_lt (Nat.div_le_self _ _) h

set_option maxRecDepth 100000 in
theorem ref_store_little_ok (v K : Nat) (w : World) (hk : (K : Int) = 1 ∨ (K : Int) = 2 ∨ (K : Int) = 4 ∨ (K : Int) = 8) (hv : v < 18446744073709551616) (hf : divAt v K = 0) :
    Calls Try.prog 12 #[.int .u64 v, .int .i64 K, .int .i64 0] w fun e w' => e = .returned (.tuple #[.string (strOf (leBytes K v)), .int .i64 0]) ∧ Below w.heap.size w w' := by
  have HK : Hid ((K : Int) = 1 ∨ (K : Int) = 2 ∨ (K : Int) = 4 ∨ (K : Int) = 8) := hk
  have k0 : (1 : Int) ≤ K := by omega
  have k8 : (K : Int) ≤ 8 := by omega
  have HV : Hid (v < 18446744073709551616) := hv
  have HF : Hid (divAt v K = 0) := hf
  clear hk hv hf
  go_enter Try.func12, Try.ntmps12
  go_wp2_with (go_at_call 25; refine (shape_ok _ _ _ HK.out (Or.inl rfl)).mono ?_; rintro e w1 ⟨rfl, hw1⟩; subst w1)
  go_loopw [0, 9, 10] (fun x s i wx => ∃ k : Nat, k ≤ K ∧ i = .int .i64 k ∧ s = .string (strOf (leBytes k v)) ∧ x = .int .u64 (divAt v k) ∧ Below w.heap.size w wx) (fun _ _ i _ => K - (intOf i).toNat)
  case atStart => exact ⟨0, Nat.zero_le _, rfl, rfl, by simp [divAt], Below.refl _ _⟩
  case round =>
    obtain ⟨k, hk, rfl, rfl, rfl, hb⟩ := hrel
    by_cases hlt : k < K
    · have hx9 := divAt_lt v k HV.out
      have hcv := conv1 wr (divAt v k)
      have hsz : (strOf (leBytes k v)).size = k := by rw [strOf_size, leBytes_length]
      go_wp2
      go_roundw
      case rel =>
        refine ⟨k + 1, by omega, by go_num, str_eq_of ?_, by rw [divAt_succ]; go_num, hb.alloc hb.size _⟩
        rw [leBytes_snoc]; exact strOf_append _ _
      case measure => simp [intOf]; omega
    · obtain rfl : k = K := by omega
      have hx : (divAt v k : Int) = 0 := by have := HF.out; omega
      go_wp2
      go_ret2
      exact ⟨rfl, hb⟩

set_option maxRecDepth 100000 in
theorem ref_store_little_wide (v K : Nat) (w : World) (hk : (K : Int) = 1 ∨ (K : Int) = 2 ∨ (K : Int) = 4 ∨ (K : Int) = 8) (hv : v < 18446744073709551616) (hf : 0 < divAt v K) :
    Calls Try.prog 12 #[.int .u64 v, .int .i64 K, .int .i64 0] w fun e w' => e = .returned (.tuple #[.string ByteArray.empty, .int .i64 11]) ∧ Below w.heap.size w w' := by
  have HK : Hid ((K : Int) = 1 ∨ (K : Int) = 2 ∨ (K : Int) = 4 ∨ (K : Int) = 8) := hk
  have k0 : (1 : Int) ≤ K := by omega
  have k8 : (K : Int) ≤ 8 := by omega
  have HV : Hid (v < 18446744073709551616) := hv
  have HF : Hid (0 < divAt v K) := hf
  clear hk hv hf
  go_enter Try.func12, Try.ntmps12
  go_wp2_with (go_at_call 25; refine (shape_ok _ _ _ HK.out (Or.inl rfl)).mono ?_; rintro e w1 ⟨rfl, hw1⟩; subst w1)
  go_loopw [0, 9, 10] (fun x s i wx => ∃ k : Nat, k ≤ K ∧ i = .int .i64 k ∧ s = .string (strOf (leBytes k v)) ∧ x = .int .u64 (divAt v k) ∧ Below w.heap.size w wx) (fun _ _ i _ => K - (intOf i).toNat)
  case atStart => exact ⟨0, Nat.zero_le _, rfl, rfl, by simp [divAt], Below.refl _ _⟩
  case round =>
    obtain ⟨k, hk, rfl, rfl, rfl, hb⟩ := hrel
    by_cases hlt : k < K
    · have hx9 := divAt_lt v k HV.out
      have hcv := conv1 wr (divAt v k)
      have hsz : (strOf (leBytes k v)).size = k := by rw [strOf_size, leBytes_length]
      go_wp2
      go_roundw
      case rel =>
        refine ⟨k + 1, by omega, by go_num, str_eq_of ?_, by rw [divAt_succ]; go_num, hb.alloc hb.size _⟩
        rw [leBytes_snoc]; exact strOf_append _ _
      case measure => simp [intOf]; omega
    · obtain rfl : k = K := by omega
      have hx : (0 : Int) < (divAt v k : Int) := by have := HF.out; omega
      go_wp2
      go_ret2
      exact ⟨rfl, hb⟩

set_option maxRecDepth 100000 in
theorem ref_store_big_ok (v K : Nat) (w : World) (hk : (K : Int) = 1 ∨ (K : Int) = 2 ∨ (K : Int) = 4 ∨ (K : Int) = 8) (hv : v < 18446744073709551616) (hf : divAt v K = 0) :
    Calls Try.prog 12 #[.int .u64 v, .int .i64 K, .int .i64 1] w fun e w' => e = .returned (.tuple #[.string (strOf ((leBytes K v).reverse)), .int .i64 0]) ∧ Below w.heap.size w w' := by
  have HK : Hid ((K : Int) = 1 ∨ (K : Int) = 2 ∨ (K : Int) = 4 ∨ (K : Int) = 8) := hk
  have k0 : (1 : Int) ≤ K := by omega
  have k8 : (K : Int) ≤ 8 := by omega
  have HV : Hid (v < 18446744073709551616) := hv
  have HF : Hid (divAt v K = 0) := hf
  clear hk hv hf
  go_enter Try.func12, Try.ntmps12
  go_wp2_with (go_at_call 25; refine (shape_ok _ _ _ HK.out (Or.inr rfl)).mono ?_; rintro e w1 ⟨rfl, hw1⟩; subst w1)
  go_loopw [0, 9, 10] (fun x s i wx => ∃ k : Nat, k ≤ K ∧ i = .int .i64 k ∧ s = .string (strOf ((leBytes k v).reverse)) ∧ x = .int .u64 (divAt v k) ∧ Below w.heap.size w wx) (fun _ _ i _ => K - (intOf i).toNat)
  case atStart => exact ⟨0, Nat.zero_le _, rfl, rfl, by simp [divAt], Below.refl _ _⟩
  case round =>
    obtain ⟨k, hk, rfl, rfl, rfl, hb⟩ := hrel
    by_cases hlt : k < K
    · have hx9 := divAt_lt v k HV.out
      have hcv := conv1 wr (divAt v k)
      have hsz : (strOf ((leBytes k v).reverse)).size = k := by rw [strOf_size, List.length_reverse, leBytes_length]
      go_wp2
      go_roundw
      case rel =>
        refine ⟨k + 1, by omega, by go_num, str_eq_of ?_, by rw [divAt_succ]; go_num, hb.alloc hb.size _⟩
        rw [leBytes_snoc, List.reverse_append]; exact strOf_append _ _
      case measure => simp [intOf]; omega
    · obtain rfl : k = K := by omega
      have hx : (divAt v k : Int) = 0 := by have := HF.out; omega
      go_wp2
      go_ret2
      exact ⟨rfl, hb⟩

set_option maxRecDepth 100000 in
theorem ref_store_big_wide (v K : Nat) (w : World) (hk : (K : Int) = 1 ∨ (K : Int) = 2 ∨ (K : Int) = 4 ∨ (K : Int) = 8) (hv : v < 18446744073709551616) (hf : 0 < divAt v K) :
    Calls Try.prog 12 #[.int .u64 v, .int .i64 K, .int .i64 1] w fun e w' => e = .returned (.tuple #[.string ByteArray.empty, .int .i64 11]) ∧ Below w.heap.size w w' := by
  have HK : Hid ((K : Int) = 1 ∨ (K : Int) = 2 ∨ (K : Int) = 4 ∨ (K : Int) = 8) := hk
  have k0 : (1 : Int) ≤ K := by omega
  have k8 : (K : Int) ≤ 8 := by omega
  have HV : Hid (v < 18446744073709551616) := hv
  have HF : Hid (0 < divAt v K) := hf
  clear hk hv hf
  go_enter Try.func12, Try.ntmps12
  go_wp2_with (go_at_call 25; refine (shape_ok _ _ _ HK.out (Or.inr rfl)).mono ?_; rintro e w1 ⟨rfl, hw1⟩; subst w1)
  go_loopw [0, 9, 10] (fun x s i wx => ∃ k : Nat, k ≤ K ∧ i = .int .i64 k ∧ s = .string (strOf ((leBytes k v).reverse)) ∧ x = .int .u64 (divAt v k) ∧ Below w.heap.size w wx) (fun _ _ i _ => K - (intOf i).toNat)
  case atStart => exact ⟨0, Nat.zero_le _, rfl, rfl, by simp [divAt], Below.refl _ _⟩
  case round =>
    obtain ⟨k, hk, rfl, rfl, rfl, hb⟩ := hrel
    by_cases hlt : k < K
    · have hx9 := divAt_lt v k HV.out
      have hcv := conv1 wr (divAt v k)
      have hsz : (strOf ((leBytes k v).reverse)).size = k := by rw [strOf_size, List.length_reverse, leBytes_length]
      go_wp2
      go_roundw
      case rel =>
        refine ⟨k + 1, by omega, by go_num, str_eq_of ?_, by rw [divAt_succ]; go_num, hb.alloc hb.size _⟩
        rw [leBytes_snoc, List.reverse_append]; exact strOf_append _ _
      case measure => simp [intOf]; omega
    · obtain rfl : k = K := by omega
      have hx : (0 : Int) < (divAt v k : Int) := by have := HF.out; omega
      go_wp2
      go_ret2
      exact ⟨rfl, hb⟩

theorem ref_store_no (v : Nat) (k o : Int) (w : World) (h : ((k == 1) = false ∧ (k == 2) = false ∧ (k == 4) = false ∧ (k == 8) = false) ∨ ((o == 0) = false ∧ (o == 1) = false)) :
    Calls Try.prog 12 #[.int .u64 v, .int .i64 k, .int .i64 o] w fun e w' => e = .returned (.tuple #[.string ByteArray.empty, .int .i64 12]) ∧ Below w.heap.size w w' := by
  have H : Hid (∀ w, Calls Try.prog 25 #[.int .i64 k, .int .i64 o] w fun e w' => e = .returned (.bool false) ∧ w' = w) := by
    intro w
    rcases h with ⟨k1, k2, k4, k8⟩ | ⟨h0, h1⟩
    · exact shape_no_size k o w k1 k2 k4 k8
    · exact shape_no_order k o w h0 h1
  clear h
  go_enter Try.func12, Try.ntmps12
  go_wp2_with (go_at_call 25; refine (H.out _).mono ?_; rintro e w1 ⟨rfl, hw1⟩; subst w1)
  go_ret2
  exact ⟨rfl, Below.refl _ _⟩
theorem num_store_order (v : Nat) (k o : Int) (w : World) (h0 : (o == 0) = false) (h1 : (o == 1) = false) :
    Calls Try.prog 11 #[.int .u64 v, .int .i64 k, .int .i64 o] w fun e w' => e = .returned (.tuple #[.string ByteArray.empty, .int .i64 12]) ∧ Below w.heap.size w w' := by
  go_enter Try.func11, Try.ntmps11
  go_wp2
  go_ret2
  exact ⟨rfl, Below.refl _ _⟩
theorem num_store_size (v : Nat) (k o : Int) (w : World) (h0 : o = 0 ∨ o = 1) (k1 : (k == 1) = false) (k2 : (k == 2) = false) (k4 : (k == 4) = false) (k8 : (k == 8) = false) :
    Calls Try.prog 11 #[.int .u64 v, .int .i64 k, .int .i64 o] w fun e w' => e = .returned (.tuple #[.string ByteArray.empty, .int .i64 12]) ∧ Below w.heap.size w w' := by
  rcases h0 with rfl | rfl
  all_goals
    go_enter Try.func11, Try.ntmps11
    go_wp2
    go_ret2
    exact ⟨rfl, Below.refl _ _⟩
theorem num_store_little_1 (v : Nat) (w : World) (hv : v < 256) :
    Calls Try.prog 11 #[.int .u64 v, .int .i64 1, .int .i64 0] w fun e w' => e = .returned (.tuple #[.string (strOf (leBytes 1 v)), .int .i64 0]) ∧ Below w.heap.size w w' := by
  have H : Hid (∀ w, Calls Try.prog 21 #[.int .u64 v, .int .i64 0] w fun e w' => e = .returned (.tuple #[.string (strOf (leBytes 1 v)), .int .i64 0]) ∧ Below w.heap.size w w') :=
    fun w => store1_little v 0 w rfl hv
  clear hv
  go_enter Try.func11, Try.ntmps11
  go_wp2_with (first | (go_at_call 21; refine (H.out _).mono ?_; rintro e w1 ⟨rfl, hb⟩) | go_in)
  go_ret2
  exact ⟨rfl, hb⟩
theorem num_store_little_1_wide (v : Nat) (w : World) (hv : 256 ≤ v) (h64 : v < 18446744073709551616) :
    Calls Try.prog 11 #[.int .u64 v, .int .i64 1, .int .i64 0] w fun e w' => e = .returned (.tuple #[.string ByteArray.empty, .int .i64 11]) ∧ Below w.heap.size w w' := by
  have H : Hid (∀ w, Calls Try.prog 21 #[.int .u64 v, .int .i64 0] w fun e w' => e = .returned (.tuple #[.string ByteArray.empty, .int .i64 11]) ∧ Below w.heap.size w w') :=
    fun w => store1_wide v 0 w hv h64
  clear hv h64
  go_enter Try.func11, Try.ntmps11
  go_wp2_with (first | (go_at_call 21; refine (H.out _).mono ?_; rintro e w1 ⟨rfl, hb⟩) | go_in)
  go_ret2
  exact ⟨rfl, hb⟩
theorem num_store_big_1 (v : Nat) (w : World) (hv : v < 256) :
    Calls Try.prog 11 #[.int .u64 v, .int .i64 1, .int .i64 1] w fun e w' => e = .returned (.tuple #[.string (strOf ((leBytes 1 v).reverse)), .int .i64 0]) ∧ Below w.heap.size w w' := by
  have H : Hid (∀ w, Calls Try.prog 21 #[.int .u64 v, .int .i64 1] w fun e w' => e = .returned (.tuple #[.string (strOf ((leBytes 1 v).reverse)), .int .i64 0]) ∧ Below w.heap.size w w') :=
    fun w => store1_big v 1 w rfl hv
  clear hv
  go_enter Try.func11, Try.ntmps11
  go_wp2_with (first | (go_at_call 21; refine (H.out _).mono ?_; rintro e w1 ⟨rfl, hb⟩) | go_in)
  go_ret2
  exact ⟨rfl, hb⟩
theorem num_store_big_1_wide (v : Nat) (w : World) (hv : 256 ≤ v) (h64 : v < 18446744073709551616) :
    Calls Try.prog 11 #[.int .u64 v, .int .i64 1, .int .i64 1] w fun e w' => e = .returned (.tuple #[.string ByteArray.empty, .int .i64 11]) ∧ Below w.heap.size w w' := by
  have H : Hid (∀ w, Calls Try.prog 21 #[.int .u64 v, .int .i64 1] w fun e w' => e = .returned (.tuple #[.string ByteArray.empty, .int .i64 11]) ∧ Below w.heap.size w w') :=
    fun w => store1_wide v 1 w hv h64
  clear hv h64
  go_enter Try.func11, Try.ntmps11
  go_wp2_with (first | (go_at_call 21; refine (H.out _).mono ?_; rintro e w1 ⟨rfl, hb⟩) | go_in)
  go_ret2
  exact ⟨rfl, hb⟩
theorem num_store_little_2 (v : Nat) (w : World) (hv : v < 65536) :
    Calls Try.prog 11 #[.int .u64 v, .int .i64 2, .int .i64 0] w fun e w' => e = .returned (.tuple #[.string (strOf (leBytes 2 v)), .int .i64 0]) ∧ Below w.heap.size w w' := by
  have H : Hid (∀ w, Calls Try.prog 22 #[.int .u64 v, .int .i64 0] w fun e w' => e = .returned (.tuple #[.string (strOf (leBytes 2 v)), .int .i64 0]) ∧ Below w.heap.size w w') :=
    fun w => store2_little v 0 w rfl hv
  clear hv
  go_enter Try.func11, Try.ntmps11
  go_wp2_with (first | (go_at_call 22; refine (H.out _).mono ?_; rintro e w1 ⟨rfl, hb⟩) | go_in)
  go_ret2
  exact ⟨rfl, hb⟩
theorem num_store_little_2_wide (v : Nat) (w : World) (hv : 65536 ≤ v) (h64 : v < 18446744073709551616) :
    Calls Try.prog 11 #[.int .u64 v, .int .i64 2, .int .i64 0] w fun e w' => e = .returned (.tuple #[.string ByteArray.empty, .int .i64 11]) ∧ Below w.heap.size w w' := by
  have H : Hid (∀ w, Calls Try.prog 22 #[.int .u64 v, .int .i64 0] w fun e w' => e = .returned (.tuple #[.string ByteArray.empty, .int .i64 11]) ∧ Below w.heap.size w w') :=
    fun w => store2_wide v 0 w hv h64
  clear hv h64
  go_enter Try.func11, Try.ntmps11
  go_wp2_with (first | (go_at_call 22; refine (H.out _).mono ?_; rintro e w1 ⟨rfl, hb⟩) | go_in)
  go_ret2
  exact ⟨rfl, hb⟩
theorem num_store_big_2 (v : Nat) (w : World) (hv : v < 65536) :
    Calls Try.prog 11 #[.int .u64 v, .int .i64 2, .int .i64 1] w fun e w' => e = .returned (.tuple #[.string (strOf ((leBytes 2 v).reverse)), .int .i64 0]) ∧ Below w.heap.size w w' := by
  have H : Hid (∀ w, Calls Try.prog 22 #[.int .u64 v, .int .i64 1] w fun e w' => e = .returned (.tuple #[.string (strOf ((leBytes 2 v).reverse)), .int .i64 0]) ∧ Below w.heap.size w w') :=
    fun w => store2_big v 1 w rfl hv
  clear hv
  go_enter Try.func11, Try.ntmps11
  go_wp2_with (first | (go_at_call 22; refine (H.out _).mono ?_; rintro e w1 ⟨rfl, hb⟩) | go_in)
  go_ret2
  exact ⟨rfl, hb⟩
theorem num_store_big_2_wide (v : Nat) (w : World) (hv : 65536 ≤ v) (h64 : v < 18446744073709551616) :
    Calls Try.prog 11 #[.int .u64 v, .int .i64 2, .int .i64 1] w fun e w' => e = .returned (.tuple #[.string ByteArray.empty, .int .i64 11]) ∧ Below w.heap.size w w' := by
  have H : Hid (∀ w, Calls Try.prog 22 #[.int .u64 v, .int .i64 1] w fun e w' => e = .returned (.tuple #[.string ByteArray.empty, .int .i64 11]) ∧ Below w.heap.size w w') :=
    fun w => store2_wide v 1 w hv h64
  clear hv h64
  go_enter Try.func11, Try.ntmps11
  go_wp2_with (first | (go_at_call 22; refine (H.out _).mono ?_; rintro e w1 ⟨rfl, hb⟩) | go_in)
  go_ret2
  exact ⟨rfl, hb⟩
theorem num_store_little_4 (v : Nat) (w : World) (hv : v < 4294967296) :
    Calls Try.prog 11 #[.int .u64 v, .int .i64 4, .int .i64 0] w fun e w' => e = .returned (.tuple #[.string (strOf (leBytes 4 v)), .int .i64 0]) ∧ Below w.heap.size w w' := by
  have H : Hid (∀ w, Calls Try.prog 23 #[.int .u64 v, .int .i64 0] w fun e w' => e = .returned (.tuple #[.string (strOf (leBytes 4 v)), .int .i64 0]) ∧ Below w.heap.size w w') :=
    fun w => store4_little v 0 w rfl hv
  clear hv
  go_enter Try.func11, Try.ntmps11
  go_wp2_with (first | (go_at_call 23; refine (H.out _).mono ?_; rintro e w1 ⟨rfl, hb⟩) | go_in)
  go_ret2
  exact ⟨rfl, hb⟩
theorem num_store_little_4_wide (v : Nat) (w : World) (hv : 4294967296 ≤ v) (h64 : v < 18446744073709551616) :
    Calls Try.prog 11 #[.int .u64 v, .int .i64 4, .int .i64 0] w fun e w' => e = .returned (.tuple #[.string ByteArray.empty, .int .i64 11]) ∧ Below w.heap.size w w' := by
  have H : Hid (∀ w, Calls Try.prog 23 #[.int .u64 v, .int .i64 0] w fun e w' => e = .returned (.tuple #[.string ByteArray.empty, .int .i64 11]) ∧ Below w.heap.size w w') :=
    fun w => store4_wide v 0 w hv h64
  clear hv h64
  go_enter Try.func11, Try.ntmps11
  go_wp2_with (first | (go_at_call 23; refine (H.out _).mono ?_; rintro e w1 ⟨rfl, hb⟩) | go_in)
  go_ret2
  exact ⟨rfl, hb⟩
theorem num_store_big_4 (v : Nat) (w : World) (hv : v < 4294967296) :
    Calls Try.prog 11 #[.int .u64 v, .int .i64 4, .int .i64 1] w fun e w' => e = .returned (.tuple #[.string (strOf ((leBytes 4 v).reverse)), .int .i64 0]) ∧ Below w.heap.size w w' := by
  have H : Hid (∀ w, Calls Try.prog 23 #[.int .u64 v, .int .i64 1] w fun e w' => e = .returned (.tuple #[.string (strOf ((leBytes 4 v).reverse)), .int .i64 0]) ∧ Below w.heap.size w w') :=
    fun w => store4_big v 1 w rfl hv
  clear hv
  go_enter Try.func11, Try.ntmps11
  go_wp2_with (first | (go_at_call 23; refine (H.out _).mono ?_; rintro e w1 ⟨rfl, hb⟩) | go_in)
  go_ret2
  exact ⟨rfl, hb⟩
theorem num_store_big_4_wide (v : Nat) (w : World) (hv : 4294967296 ≤ v) (h64 : v < 18446744073709551616) :
    Calls Try.prog 11 #[.int .u64 v, .int .i64 4, .int .i64 1] w fun e w' => e = .returned (.tuple #[.string ByteArray.empty, .int .i64 11]) ∧ Below w.heap.size w w' := by
  have H : Hid (∀ w, Calls Try.prog 23 #[.int .u64 v, .int .i64 1] w fun e w' => e = .returned (.tuple #[.string ByteArray.empty, .int .i64 11]) ∧ Below w.heap.size w w') :=
    fun w => store4_wide v 1 w hv h64
  clear hv h64
  go_enter Try.func11, Try.ntmps11
  go_wp2_with (first | (go_at_call 23; refine (H.out _).mono ?_; rintro e w1 ⟨rfl, hb⟩) | go_in)
  go_ret2
  exact ⟨rfl, hb⟩
theorem num_store_little_8 (v : Nat) (w : World) (hv : v < 18446744073709551616) :
    Calls Try.prog 11 #[.int .u64 v, .int .i64 8, .int .i64 0] w fun e w' => e = .returned (.tuple #[.string (strOf (leBytes 8 v)), .int .i64 0]) ∧ Below w.heap.size w w' := by
  have H : Hid (∀ w, Calls Try.prog 24 #[.int .u64 v, .int .i64 0] w fun e w' => e = .returned (.tuple #[.string (strOf (leBytes 8 v)), .int .i64 0]) ∧ Below w.heap.size w w') :=
    fun w => store8_little v 0 w rfl hv
  clear hv
  go_enter Try.func11, Try.ntmps11
  go_wp2_with (first | (go_at_call 24; refine (H.out _).mono ?_; rintro e w1 ⟨rfl, hb⟩) | go_in)
  go_ret2
  exact ⟨rfl, hb⟩
theorem num_store_big_8 (v : Nat) (w : World) (hv : v < 18446744073709551616) :
    Calls Try.prog 11 #[.int .u64 v, .int .i64 8, .int .i64 1] w fun e w' => e = .returned (.tuple #[.string (strOf ((leBytes 8 v).reverse)), .int .i64 0]) ∧ Below w.heap.size w w' := by
  have H : Hid (∀ w, Calls Try.prog 24 #[.int .u64 v, .int .i64 1] w fun e w' => e = .returned (.tuple #[.string (strOf ((leBytes 8 v).reverse)), .int .i64 0]) ∧ Below w.heap.size w w') :=
    fun w => store8_big v 1 w rfl hv
  clear hv
  go_enter Try.func11, Try.ntmps11
  go_wp2_with (first | (go_at_call 24; refine (H.out _).mono ?_; rintro e w1 ⟨rfl, hb⟩) | go_in)
  go_ret2
  exact ⟨rfl, hb⟩
end Go.Proofs.Ytfjmjgnifbgneaa
