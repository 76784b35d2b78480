-- num.storeBytes at its four kinds: contracts.
import Derived.Test.YtfjmjgnifbgneaaSize
import Derived.Test.YtfjmjgnifbgneaaPlain
import Derived.Laws.BitsAllLaws
import Derived.WalkLawsBesides
namespace Go.Proofs.Ytfjmjgnifbgneaa
open Go.ChangeShapes Go.WideShapes Go.ChangeAt Go.RowKit
set_option linter.unusedVariables false

def isRow (C : Array Value) (L : List UInt8) (k : Nat) : Prop := ∀ j, j < k → C[j]? = some (.int .u8 ((L.getD j 0).toNat : Int))
theorem row_step (C : Array Value) (L : List UInt8) (k K : Nat) (n : Int) (hk : k < K) (hC : C.size = K) (hrow : isRow C L k) (hn : n = ((L.getD k 0).toNat : Int)) : isRow (C.setIfInBounds k (.int .u8 n)) L (k + 1) := by
  intro j hj
  by_cases h : j = k
  · subst h; rw [hn]; rw [Array.getElem?_setIfInBounds_self_of_lt (by omega)]
  · rw [Array.getElem?_setIfInBounds_ne (by omega)]; exact hrow j (by omega)
theorem pow_8 (k : Nat) : (2 : Nat) ^ (8 * k) = 256 ^ k := by rw [Nat.pow_mul]
theorem byte_le (K v k : Nat) (hk : k < K) : ((v : Int) / 2 ^ (8 * k) % 256) = (((leBytes K v).getD k 0).toNat : Int) := by
  have h := leBytes_get K v k hk
  rw [List.getD_eq_getElem?_getD, h]
  have e : ((v : Int) / 2 ^ (8 * k) % 256) = ((v / 256 ^ k % 256 : Nat) : Int) := by rw [← pow_8]; simp
  rw [e]; simp
theorem byte_be (K v k : Nat) (hk : k < K) : ((v : Int) / 2 ^ (8 * (K - 1 - k)) % 256) = ((((leBytes K v).reverse).getD k 0).toNat : Int) := by
  have hl := leBytes_length K v
  rw [byte_le K v (K - 1 - k) (by omega)]
  rw [List.getD_eq_getElem?_getD, List.getD_eq_getElem?_getD, List.getElem?_reverse (by omega), hl]
theorem conv (w : World) (C : Array Value) (L : List UInt8) (K : Nat) (hL : L.length = K) (hrow : isRow C L K) :
    (convert 42 9 (.slice (some ⟨w.heap.size, 0, none⟩) K K)).run Try.prog (w.alloc (.cells C 5)) = .ok (.string ⟨L.toArray⟩) (w.alloc (.cells C 5)) := by
  subst hL
  refine run_convert_bytes_back (w.alloc (.cells C 5)) 42 9 5 ⟨w.heap.size, 0, none⟩ L.length L Try.underlying42 Try.underlying5 Try.underlying9 (fun j hj => ?_)
  have h := hrow j hj
  rw [List.getD_eq_getElem?_getD, List.getElem?_eq_getElem hj] at h
  have ea : (⟨w.heap.size, 0, none⟩ : Addr).add j = ⟨w.heap.size, j, none⟩ := by cases j <;> simp [Addr.add]
  rw [ea, World.cell?_alloc_at C 5 w.heap.size j rfl]
  exact h
theorem byte_le1 (v k : Nat) (hv : v < 256) (hk : k < 1) : ((v : Int) / 2 ^ (8 * k)) = (((leBytes 1 v).getD k 0).toNat : Int) := by
  rw [← byte_le 1 v k hk]
  obtain rfl : k = 0 := by omega
  simp only [Nat.mul_zero, Int.pow_zero, Int.ediv_one]; omega
theorem byte_be1 (v k : Nat) (hv : v < 256) (hk : k < 1) : ((v : Int) / 2 ^ (8 * -(k : Int)).toNat) = ((((leBytes 1 v).reverse).getD k 0).toNat : Int) := by
  rw [← byte_be 1 v k hk]
  obtain rfl : k = 0 := by omega
  simp; omega
theorem ret_str {a b : ByteArray} {x : Value} (h : a = b) : Ending.returned (.tuple #[.string a, x]) = .returned (.tuple #[.string b, x]) := by rw [h]

set_option maxRecDepth 100000 in
theorem store1_wide (v : Nat) (o : Int) (w : World) (hv : 256 ≤ v) (h64 : v < 18446744073709551616) :
    Calls Try.prog 21 #[.int .u64 v, .int .i64 o] w fun e w' => e = .returned (.tuple #[.string ByteArray.empty, .int .i64 11]) ∧ Below w.heap.size w w' := by
  have hw : ((v : Int) % 256 != (v : Int)) = true := by simp; omega
  clear hv h64
  go_enter Try.func21, Try.ntmps21
  go_wp2
  go_ret2
  exact ⟨rfl, Below.refl _ _⟩

set_option maxRecDepth 100000 in
theorem store1_little (v : Nat) (o : Int) (w : World) (ho : (o == 1) = false) (hv : v < 256) :
    Calls Try.prog 21 #[.int .u64 v, .int .i64 o] w fun e w' => e = .returned (.tuple #[.string ⟨(leBytes 1 v).toArray⟩, .int .i64 0]) ∧ Below w.heap.size w w' := by
  have hmk : ∀ w, (Instr.makeSlice 42 (.int .i64 1) (.int .i64 1)).run Try.prog w = .ok (.slice (some ⟨w.heap.size, 0, none⟩) 1 1) (w.alloc (.cells #[.int .u8 0] 5)) := fun _ => by kernel_rfl
  go_enter Try.func21, Try.ntmps21
  go_wp2_with (first
    | (go_at_call 31; refine (sizeOf8 _).mono ?_; rintro e w1 ⟨rfl, hw1⟩; subst w1))
  go_loopw [19] (fun i wx => ∃ (k : Nat) (C : Array Value), k ≤ 1 ∧ i = .int .i64 k ∧ wx = w.alloc (.cells C 5) ∧ C.size = 1 ∧ isRow C (leBytes 1 v) k) (fun i _ => 1 - (intOf i).toNat)
  case atStart => exact ⟨0, _, Nat.zero_le _, rfl, rfl, rfl, fun j hj => absurd hj (Nat.not_lt_zero _)⟩
  case round =>
    obtain ⟨k, C, hk, rfl, rfl, hC, hrow⟩ := hrel
    have HC : Hid (C.size = 1) := hC
    have HR : Hid (isRow C (leBytes 1 v) k) := hrow
    clear hC hrow
    by_cases hlt : k < 1
    · obtain ⟨x, hx⟩ : ∃ x, C[k]? = some x := ⟨C[k]'(by rw [HC.out]; omega), Array.getElem?_eq_getElem _⟩
      go_wp2_with (first
        | (go_at_call 32; refine (weight_little _ _ _ _ ho (by omega) (by omega) (by omega)).mono ?_; rintro e w1 ⟨rfl, hw1⟩; subst w1))
      go_roundw
      case rel =>
        refine ⟨k + 1, C.setIfInBounds k _, by omega, by go_num, rfl, by rw [Array.size_setIfInBounds]; exact HC.out, ?_⟩
        exact row_step C _ k 1 _ hlt HC.out HR.out (byte_le1 v k hv hlt)
      case measure => simp [intOf]; omega
    · obtain rfl : k = 1 := by omega
      have hcv := conv w C (leBytes 1 v) 1 (leBytes_length 1 v) HR.out
      go_wp2
      go_ret2
      exact ⟨rfl, (Below.refl _ _).alloc (Nat.le_refl _) _⟩

set_option maxRecDepth 100000 in
theorem store1_big (v : Nat) (o : Int) (w : World) (ho : (o == 1) = true) (hv : v < 256) :
    Calls Try.prog 21 #[.int .u64 v, .int .i64 o] w fun e w' => e = .returned (.tuple #[.string ⟨((leBytes 1 v).reverse).toArray⟩, .int .i64 0]) ∧ Below w.heap.size w w' := by
  have hmk : ∀ w, (Instr.makeSlice 42 (.int .i64 1) (.int .i64 1)).run Try.prog w = .ok (.slice (some ⟨w.heap.size, 0, none⟩) 1 1) (w.alloc (.cells #[.int .u8 0] 5)) := fun _ => by kernel_rfl
  go_enter Try.func21, Try.ntmps21
  go_wp2_with (first
    | (go_at_call 31; refine (sizeOf8 _).mono ?_; rintro e w1 ⟨rfl, hw1⟩; subst w1))
  go_loopw [19] (fun i wx => ∃ (k : Nat) (C : Array Value), k ≤ 1 ∧ i = .int .i64 k ∧ wx = w.alloc (.cells C 5) ∧ C.size = 1 ∧ isRow C ((leBytes 1 v).reverse) k) (fun i _ => 1 - (intOf i).toNat)
  case atStart => exact ⟨0, _, Nat.zero_le _, rfl, rfl, rfl, fun j hj => absurd hj (Nat.not_lt_zero _)⟩
  case round =>
    obtain ⟨k, C, hk, rfl, rfl, hC, hrow⟩ := hrel
    have HC : Hid (C.size = 1) := hC
    have HR : Hid (isRow C ((leBytes 1 v).reverse) k) := hrow
    clear hC hrow
    by_cases hlt : k < 1
    · obtain ⟨x, hx⟩ : ∃ x, C[k]? = some x := ⟨C[k]'(by rw [HC.out]; omega), Array.getElem?_eq_getElem _⟩
      go_wp2_with (first
        | (go_at_call 32; refine (weight_big _ _ _ _ ho (by omega) (by omega) (by omega)).mono ?_; rintro e w1 ⟨rfl, hw1⟩; subst w1))
      go_roundw
      case rel =>
        refine ⟨k + 1, C.setIfInBounds k _, by omega, by go_num, rfl, by rw [Array.size_setIfInBounds]; exact HC.out, ?_⟩
        exact row_step C _ k 1 _ hlt HC.out HR.out (byte_be1 v k hv hlt)
      case measure => simp [intOf]; omega
    · obtain rfl : k = 1 := by omega
      have hcv := conv w C ((leBytes 1 v).reverse) 1 ((by rw [List.length_reverse]; exact leBytes_length 1 v)) HR.out
      go_wp2
      go_ret2
      exact ⟨rfl, (Below.refl _ _).alloc (Nat.le_refl _) _⟩

set_option maxRecDepth 100000 in
theorem store2_wide (v : Nat) (o : Int) (w : World) (hv : 65536 ≤ v) (h64 : v < 18446744073709551616) :
    Calls Try.prog 22 #[.int .u64 v, .int .i64 o] w fun e w' => e = .returned (.tuple #[.string ByteArray.empty, .int .i64 11]) ∧ Below w.heap.size w w' := by
  have hw : (IntKind.u64.wrap (IntKind.u16.wrap (v : Int)) != (v : Int)) = true := by rw [IntKind.wrap_u64, IntKind.wrap_u16]; simp; omega
  clear hv h64
  go_enter Try.func22, Try.ntmps22
  go_wp2
  go_ret2
  exact ⟨rfl, Below.refl _ _⟩

set_option maxRecDepth 100000 in
theorem store2_little (v : Nat) (o : Int) (w : World) (ho : (o == 1) = false) (hv : v < 65536) :
    Calls Try.prog 22 #[.int .u64 v, .int .i64 o] w fun e w' => e = .returned (.tuple #[.string ⟨(leBytes 2 v).toArray⟩, .int .i64 0]) ∧ Below w.heap.size w w' := by
  have hmk : ∀ w, (Instr.makeSlice 42 (.int .i64 2) (.int .i64 2)).run Try.prog w = .ok (.slice (some ⟨w.heap.size, 0, none⟩) 2 2) (w.alloc (.cells #[.int .u8 0, .int .u8 0] 5)) := fun _ => by kernel_rfl
  go_enter Try.func22, Try.ntmps22
  go_wp2_with (first
    | (go_at_call 33; refine (sizeOf16 _).mono ?_; rintro e w1 ⟨rfl, hw1⟩; subst w1))
  go_loopw [19] (fun i wx => ∃ (k : Nat) (C : Array Value), k ≤ 2 ∧ i = .int .i64 k ∧ wx = w.alloc (.cells C 5) ∧ C.size = 2 ∧ isRow C (leBytes 2 v) k) (fun i _ => 2 - (intOf i).toNat)
  case atStart => exact ⟨0, _, Nat.zero_le _, rfl, rfl, rfl, fun j hj => absurd hj (Nat.not_lt_zero _)⟩
  case round =>
    obtain ⟨k, C, hk, rfl, rfl, hC, hrow⟩ := hrel
    have HC : Hid (C.size = 2) := hC
    have HR : Hid (isRow C (leBytes 2 v) k) := hrow
    clear hC hrow
    by_cases hlt : k < 2
    · obtain ⟨x, hx⟩ : ∃ x, C[k]? = some x := ⟨C[k]'(by rw [HC.out]; omega), Array.getElem?_eq_getElem _⟩
      go_wp2_with (first
        | (go_at_call 32; refine (weight_little _ _ _ _ ho (by omega) (by omega) (by omega)).mono ?_; rintro e w1 ⟨rfl, hw1⟩; subst w1))
      go_roundw
      case rel =>
        refine ⟨k + 1, C.setIfInBounds k _, by omega, by go_num, rfl, by rw [Array.size_setIfInBounds]; exact HC.out, ?_⟩
        exact row_step C _ k 2 _ hlt HC.out HR.out (byte_le 2 v k hlt)
      case measure => simp [intOf]; omega
    · obtain rfl : k = 2 := by omega
      have hcv := conv w C (leBytes 2 v) 2 (leBytes_length 2 v) HR.out
      go_wp2
      go_ret2
      exact ⟨rfl, (Below.refl _ _).alloc (Nat.le_refl _) _⟩

set_option maxRecDepth 100000 in
theorem store2_big (v : Nat) (o : Int) (w : World) (ho : (o == 1) = true) (hv : v < 65536) :
    Calls Try.prog 22 #[.int .u64 v, .int .i64 o] w fun e w' => e = .returned (.tuple #[.string ⟨((leBytes 2 v).reverse).toArray⟩, .int .i64 0]) ∧ Below w.heap.size w w' := by
  have hmk : ∀ w, (Instr.makeSlice 42 (.int .i64 2) (.int .i64 2)).run Try.prog w = .ok (.slice (some ⟨w.heap.size, 0, none⟩) 2 2) (w.alloc (.cells #[.int .u8 0, .int .u8 0] 5)) := fun _ => by kernel_rfl
  go_enter Try.func22, Try.ntmps22
  go_wp2_with (first
    | (go_at_call 33; refine (sizeOf16 _).mono ?_; rintro e w1 ⟨rfl, hw1⟩; subst w1))
  go_loopw [19] (fun i wx => ∃ (k : Nat) (C : Array Value), k ≤ 2 ∧ i = .int .i64 k ∧ wx = w.alloc (.cells C 5) ∧ C.size = 2 ∧ isRow C ((leBytes 2 v).reverse) k) (fun i _ => 2 - (intOf i).toNat)
  case atStart => exact ⟨0, _, Nat.zero_le _, rfl, rfl, rfl, fun j hj => absurd hj (Nat.not_lt_zero _)⟩
  case round =>
    obtain ⟨k, C, hk, rfl, rfl, hC, hrow⟩ := hrel
    have HC : Hid (C.size = 2) := hC
    have HR : Hid (isRow C ((leBytes 2 v).reverse) k) := hrow
    clear hC hrow
    by_cases hlt : k < 2
    · obtain ⟨x, hx⟩ : ∃ x, C[k]? = some x := ⟨C[k]'(by rw [HC.out]; omega), Array.getElem?_eq_getElem _⟩
      go_wp2_with (first
        | (go_at_call 32; refine (weight_big _ _ _ _ ho (by omega) (by omega) (by omega)).mono ?_; rintro e w1 ⟨rfl, hw1⟩; subst w1))
      go_roundw
      case rel =>
        refine ⟨k + 1, C.setIfInBounds k _, by omega, by go_num, rfl, by rw [Array.size_setIfInBounds]; exact HC.out, ?_⟩
        exact row_step C _ k 2 _ hlt HC.out HR.out (byte_be 2 v k hlt)
      case measure => simp [intOf]; omega
    · obtain rfl : k = 2 := by omega
      have hcv := conv w C ((leBytes 2 v).reverse) 2 ((by rw [List.length_reverse]; exact leBytes_length 2 v)) HR.out
      go_wp2
      go_ret2
      exact ⟨rfl, (Below.refl _ _).alloc (Nat.le_refl _) _⟩

set_option maxRecDepth 100000 in
theorem store4_wide (v : Nat) (o : Int) (w : World) (hv : 4294967296 ≤ v) (h64 : v < 18446744073709551616) :
    Calls Try.prog 23 #[.int .u64 v, .int .i64 o] w fun e w' => e = .returned (.tuple #[.string ByteArray.empty, .int .i64 11]) ∧ Below w.heap.size w w' := by
  have hw : ((v : Int) % 4294967296 != (v : Int)) = true := by simp; omega
  clear hv h64
  go_enter Try.func23, Try.ntmps23
  go_wp2
  go_ret2
  exact ⟨rfl, Below.refl _ _⟩

set_option maxRecDepth 100000 in
theorem store4_little (v : Nat) (o : Int) (w : World) (ho : (o == 1) = false) (hv : v < 4294967296) :
    Calls Try.prog 23 #[.int .u64 v, .int .i64 o] w fun e w' => e = .returned (.tuple #[.string ⟨(leBytes 4 v).toArray⟩, .int .i64 0]) ∧ Below w.heap.size w w' := by
  have hmk : ∀ w, (Instr.makeSlice 42 (.int .i64 4) (.int .i64 4)).run Try.prog w = .ok (.slice (some ⟨w.heap.size, 0, none⟩) 4 4) (w.alloc (.cells #[.int .u8 0, .int .u8 0, .int .u8 0, .int .u8 0] 5)) := fun _ => by kernel_rfl
  go_enter Try.func23, Try.ntmps23
  go_wp2_with (first
    | (go_at_call 34; refine (sizeOf32 _).mono ?_; rintro e w1 ⟨rfl, hw1⟩; subst w1))
  go_loopw [19] (fun i wx => ∃ (k : Nat) (C : Array Value), k ≤ 4 ∧ i = .int .i64 k ∧ wx = w.alloc (.cells C 5) ∧ C.size = 4 ∧ isRow C (leBytes 4 v) k) (fun i _ => 4 - (intOf i).toNat)
  case atStart => exact ⟨0, _, Nat.zero_le _, rfl, rfl, rfl, fun j hj => absurd hj (Nat.not_lt_zero _)⟩
  case round =>
    obtain ⟨k, C, hk, rfl, rfl, hC, hrow⟩ := hrel
    have HC : Hid (C.size = 4) := hC
    have HR : Hid (isRow C (leBytes 4 v) k) := hrow
    clear hC hrow
    by_cases hlt : k < 4
    · obtain ⟨x, hx⟩ : ∃ x, C[k]? = some x := ⟨C[k]'(by rw [HC.out]; omega), Array.getElem?_eq_getElem _⟩
      go_wp2_with (first
        | (go_at_call 32; refine (weight_little _ _ _ _ ho (by omega) (by omega) (by omega)).mono ?_; rintro e w1 ⟨rfl, hw1⟩; subst w1))
      go_roundw
      case rel =>
        refine ⟨k + 1, C.setIfInBounds k _, by omega, by go_num, rfl, by rw [Array.size_setIfInBounds]; exact HC.out, ?_⟩
        exact row_step C _ k 4 _ hlt HC.out HR.out (byte_le 4 v k hlt)
      case measure => simp [intOf]; omega
    · obtain rfl : k = 4 := by omega
      have hcv := conv w C (leBytes 4 v) 4 (leBytes_length 4 v) HR.out
      go_wp2
      go_ret2
      exact ⟨rfl, (Below.refl _ _).alloc (Nat.le_refl _) _⟩

set_option maxRecDepth 100000 in
theorem store4_big (v : Nat) (o : Int) (w : World) (ho : (o == 1) = true) (hv : v < 4294967296) :
    Calls Try.prog 23 #[.int .u64 v, .int .i64 o] w fun e w' => e = .returned (.tuple #[.string ⟨((leBytes 4 v).reverse).toArray⟩, .int .i64 0]) ∧ Below w.heap.size w w' := by
  have hmk : ∀ w, (Instr.makeSlice 42 (.int .i64 4) (.int .i64 4)).run Try.prog w = .ok (.slice (some ⟨w.heap.size, 0, none⟩) 4 4) (w.alloc (.cells #[.int .u8 0, .int .u8 0, .int .u8 0, .int .u8 0] 5)) := fun _ => by kernel_rfl
  go_enter Try.func23, Try.ntmps23
  go_wp2_with (first
    | (go_at_call 34; refine (sizeOf32 _).mono ?_; rintro e w1 ⟨rfl, hw1⟩; subst w1))
  go_loopw [19] (fun i wx => ∃ (k : Nat) (C : Array Value), k ≤ 4 ∧ i = .int .i64 k ∧ wx = w.alloc (.cells C 5) ∧ C.size = 4 ∧ isRow C ((leBytes 4 v).reverse) k) (fun i _ => 4 - (intOf i).toNat)
  case atStart => exact ⟨0, _, Nat.zero_le _, rfl, rfl, rfl, fun j hj => absurd hj (Nat.not_lt_zero _)⟩
  case round =>
    obtain ⟨k, C, hk, rfl, rfl, hC, hrow⟩ := hrel
    have HC : Hid (C.size = 4) := hC
    have HR : Hid (isRow C ((leBytes 4 v).reverse) k) := hrow
    clear hC hrow
    by_cases hlt : k < 4
    · obtain ⟨x, hx⟩ : ∃ x, C[k]? = some x := ⟨C[k]'(by rw [HC.out]; omega), Array.getElem?_eq_getElem _⟩
      go_wp2_with (first
        | (go_at_call 32; refine (weight_big _ _ _ _ ho (by omega) (by omega) (by omega)).mono ?_; rintro e w1 ⟨rfl, hw1⟩; subst w1))
      go_roundw
      case rel =>
        refine ⟨k + 1, C.setIfInBounds k _, by omega, by go_num, rfl, by rw [Array.size_setIfInBounds]; exact HC.out, ?_⟩
        exact row_step C _ k 4 _ hlt HC.out HR.out (byte_be 4 v k hlt)
      case measure => simp [intOf]; omega
    · obtain rfl : k = 4 := by omega
      have hcv := conv w C ((leBytes 4 v).reverse) 4 ((by rw [List.length_reverse]; exact leBytes_length 4 v)) HR.out
      go_wp2
      go_ret2
      exact ⟨rfl, (Below.refl _ _).alloc (Nat.le_refl _) _⟩

set_option maxRecDepth 100000 in
theorem store8_little (v : Nat) (o : Int) (w : World) (ho : (o == 1) = false) (hv : v < 18446744073709551616) :
    Calls Try.prog 24 #[.int .u64 v, .int .i64 o] w fun e w' => e = .returned (.tuple #[.string ⟨(leBytes 8 v).toArray⟩, .int .i64 0]) ∧ Below w.heap.size w w' := by
  have hmk : ∀ w, (Instr.makeSlice 42 (.int .i64 8) (.int .i64 8)).run Try.prog w = .ok (.slice (some ⟨w.heap.size, 0, none⟩) 8 8) (w.alloc (.cells #[.int .u8 0, .int .u8 0, .int .u8 0, .int .u8 0, .int .u8 0, .int .u8 0, .int .u8 0, .int .u8 0] 5)) := fun _ => by kernel_rfl
  go_enter Try.func24, Try.ntmps24
  go_wp2_with (first
    | (go_at_call 35; refine (sizeOf64 _).mono ?_; rintro e w1 ⟨rfl, hw1⟩; subst w1))
  go_loopw [17] (fun i wx => ∃ (k : Nat) (C : Array Value), k ≤ 8 ∧ i = .int .i64 k ∧ wx = w.alloc (.cells C 5) ∧ C.size = 8 ∧ isRow C (leBytes 8 v) k) (fun i _ => 8 - (intOf i).toNat)
  case atStart => exact ⟨0, _, Nat.zero_le _, rfl, rfl, rfl, fun j hj => absurd hj (Nat.not_lt_zero _)⟩
  case round =>
    obtain ⟨k, C, hk, rfl, rfl, hC, hrow⟩ := hrel
    have HC : Hid (C.size = 8) := hC
    have HR : Hid (isRow C (leBytes 8 v) k) := hrow
    clear hC hrow
    by_cases hlt : k < 8
    · obtain ⟨x, hx⟩ : ∃ x, C[k]? = some x := ⟨C[k]'(by rw [HC.out]; omega), Array.getElem?_eq_getElem _⟩
      go_wp2_with (first
        | (go_at_call 32; refine (weight_little _ _ _ _ ho (by omega) (by omega) (by omega)).mono ?_; rintro e w1 ⟨rfl, hw1⟩; subst w1))
      go_roundw
      case rel =>
        refine ⟨k + 1, C.setIfInBounds k _, by omega, by go_num, rfl, by rw [Array.size_setIfInBounds]; exact HC.out, ?_⟩
        exact row_step C _ k 8 _ hlt HC.out HR.out (byte_le 8 v k hlt)
      case measure => simp [intOf]; omega
    · obtain rfl : k = 8 := by omega
      have hcv := conv w C (leBytes 8 v) 8 (leBytes_length 8 v) HR.out
      go_wp2
      go_ret2
      exact ⟨rfl, (Below.refl _ _).alloc (Nat.le_refl _) _⟩

set_option maxRecDepth 100000 in
theorem store8_big (v : Nat) (o : Int) (w : World) (ho : (o == 1) = true) (hv : v < 18446744073709551616) :
    Calls Try.prog 24 #[.int .u64 v, .int .i64 o] w fun e w' => e = .returned (.tuple #[.string ⟨((leBytes 8 v).reverse).toArray⟩, .int .i64 0]) ∧ Below w.heap.size w w' := by
  have hmk : ∀ w, (Instr.makeSlice 42 (.int .i64 8) (.int .i64 8)).run Try.prog w = .ok (.slice (some ⟨w.heap.size, 0, none⟩) 8 8) (w.alloc (.cells #[.int .u8 0, .int .u8 0, .int .u8 0, .int .u8 0, .int .u8 0, .int .u8 0, .int .u8 0, .int .u8 0] 5)) := fun _ => by kernel_rfl
  go_enter Try.func24, Try.ntmps24
  go_wp2_with (first
    | (go_at_call 35; refine (sizeOf64 _).mono ?_; rintro e w1 ⟨rfl, hw1⟩; subst w1))
  go_loopw [17] (fun i wx => ∃ (k : Nat) (C : Array Value), k ≤ 8 ∧ i = .int .i64 k ∧ wx = w.alloc (.cells C 5) ∧ C.size = 8 ∧ isRow C ((leBytes 8 v).reverse) k) (fun i _ => 8 - (intOf i).toNat)
  case atStart => exact ⟨0, _, Nat.zero_le _, rfl, rfl, rfl, fun j hj => absurd hj (Nat.not_lt_zero _)⟩
  case round =>
    obtain ⟨k, C, hk, rfl, rfl, hC, hrow⟩ := hrel
    have HC : Hid (C.size = 8) := hC
    have HR : Hid (isRow C ((leBytes 8 v).reverse) k) := hrow
    clear hC hrow
    by_cases hlt : k < 8
    · obtain ⟨x, hx⟩ : ∃ x, C[k]? = some x := ⟨C[k]'(by rw [HC.out]; omega), Array.getElem?_eq_getElem _⟩
      go_wp2_with (first
        | (go_at_call 32; refine (weight_big _ _ _ _ ho (by omega) (by omega) (by omega)).mono ?_; rintro e w1 ⟨rfl, hw1⟩; subst w1))
      go_roundw
      case rel =>
        refine ⟨k + 1, C.setIfInBounds k _, by omega, by go_num, rfl, by rw [Array.size_setIfInBounds]; exact HC.out, ?_⟩
        exact row_step C _ k 8 _ hlt HC.out HR.out (byte_be 8 v k hlt)
      case measure => simp [intOf]; omega
    · obtain rfl : k = 8 := by omega
      have hcv := conv w C ((leBytes 8 v).reverse) 8 ((by rw [List.length_reverse]; exact leBytes_length 8 v)) HR.out
      go_wp2
      go_ret2
      exact ⟨rfl, (Below.refl _ _).alloc (Nat.le_refl _) _⟩
end Go.Proofs.Ytfjmjgnifbgneaa
