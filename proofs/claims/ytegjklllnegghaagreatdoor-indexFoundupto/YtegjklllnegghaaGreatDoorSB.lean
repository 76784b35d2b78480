
-- num.Store at four and eight bytes: contracts.
import Derived.Test.YtegjklllnegghaaGreatDoorLD
import Derived.Test.YtegjklllnegghaaGreatDoorN1
import Derived.Test.YtegjklllnegghaaGreatDoorN0
import Derived.Laws.BitsAllLaws
import Derived.WalkLawsBesides
import Derived.Below
import Derived.LoopTactic
namespace Go.Proofs.YtegjklllnegghaaGreatDoor
open Go.ChangeShapes Go.WideShapes Go.ChangeAt Go.RowKit
set_option linter.unusedVariables false
set_option maxRecDepth 100000
def isRowB (C : Array Value) (L : List UInt8) (k : Nat) : Prop := ∀ j, j < k → C[j]? = some (.int .u8 ((L.getD j 0).toNat : Int))
theorem rowB_step (C : Array Value) (L : List UInt8) (k K : Nat) (n : Int) (hk : k < K) (hC : C.size = K) (hrow : isRowB C L k) (hn : n = ((L.getD k 0).toNat : Int)) : isRowB (C.setIfInBounds k (.int .u8 n)) L (k + 1) := by
  intro j hj
  by_cases h : j = k
  · subst h; rw [hn]; rw [Array.getElem?_setIfInBounds_self_of_lt (by omega)]
  · rw [Array.getElem?_setIfInBounds_ne (by omega)]; exact hrow j (by omega)
theorem pow_8B (k : Nat) : (2 : Nat) ^ (8 * k) = 256 ^ k := by rw [Nat.pow_mul]
theorem byte_leB (K v k : Nat) (hk : k < K) : ((v : Int) / 2 ^ (8 * k) % 256) = (((leBytes K v).getD k 0).toNat : Int) := by
  have h := leBytes_get K v k hk
  rw [List.getD_eq_getElem?_getD, h]
  have e : ((v : Int) / 2 ^ (8 * k) % 256) = ((v / 256 ^ k % 256 : Nat) : Int) := by rw [← pow_8B]; simp
  rw [e]; simp
theorem byte_beB (K v k : Nat) (hk : k < K) : ((v : Int) / 2 ^ (8 * (K - 1 - k)) % 256) = ((((leBytes K v).reverse).getD k 0).toNat : Int) := by
  have hl := leBytes_length K v
  rw [byte_leB K v (K - 1 - k) (by omega)]
  rw [List.getD_eq_getElem?_getD, List.getD_eq_getElem?_getD, List.getElem?_reverse (by omega), hl]
theorem convB (w : World) (C : Array Value) (L : List UInt8) (K : Nat) (hL : L.length = K) (hrow : isRowB C L K) :
    (convert 63 9 (.slice (some ⟨w.heap.size, 0, none⟩) K K)).run Tryz.prog (w.alloc (.cells C 5)) = .ok (.string ⟨L.toArray⟩) (w.alloc (.cells C 5)) := by
  subst hL
  refine run_convert_bytes_back (w.alloc (.cells C 5)) 63 9 5 ⟨w.heap.size, 0, none⟩ L.length L Tryz.underlying63 Tryz.underlying5 Tryz.underlying9 (fun j hj => ?_)
  have h := hrow j hj
  rw [List.getD_eq_getElem?_getD, List.getElem?_eq_getElem hj] at h
  have ea : (⟨w.heap.size, 0, none⟩ : Addr).add j = ⟨w.heap.size, j, none⟩ := by cases j <;> simp [Addr.add]
  rw [ea, World.cell?_alloc_at C 5 w.heap.size j rfl]
  exact h

set_option maxHeartbeats 2000000 in
theorem store4_little (v : Nat) (o : Int) (w : World) (ho : (o == 1) = false) (hv : v < 4294967296) :
    Calls Tryz.prog 77 #[.int .u64 v, .int .i64 o] w fun e w' => e = .returned (.tuple #[.string ⟨(leBytes 4 v).toArray⟩, .int .i64 0]) ∧ Below w.heap.size w w' := by
  have hmk : ∀ w, (Instr.makeSlice 63 (.int .i64 4) (.int .i64 4)).run Tryz.prog w = .ok (.slice (some ⟨w.heap.size, 0, none⟩) 4 4) (w.alloc (.cells #[.int .u8 0, .int .u8 0, .int .u8 0, .int .u8 0] 5)) := fun _ => by kernel_rfl
  go_enter Tryz.func77, Tryz.ntmps77
  go_wp2_with (first
    | (go_at_call 94; refine (sizeOf32 _).mono ?_; rintro e w1 ⟨rfl, hw1⟩; subst w1))
  go_loopw [19] (fun i wx => ∃ (k : Nat) (C : Array Value), k ≤ 4 ∧ i = .int .i64 k ∧ wx = w.alloc (.cells C 5) ∧ C.size = 4 ∧ isRowB C (leBytes 4 v) k) (fun i _ => 4 - (intOf i).toNat)
  case atStart => exact ⟨0, _, Nat.zero_le _, rfl, rfl, rfl, fun j hj => absurd hj (Nat.not_lt_zero _)⟩
  case round =>
    obtain ⟨k, C, hk, rfl, rfl, hC, hrow⟩ := hrel
    have HC : Hid (C.size = 4) := hC
    have HR : Hid (isRowB C (leBytes 4 v) k) := hrow
    clear hC hrow
    by_cases hlt : k < 4
    · obtain ⟨x, hx⟩ : ∃ x, C[k]? = some x := ⟨C[k]'(by rw [HC.out]; omega), Array.getElem?_eq_getElem _⟩
      go_wp2_with (first
        | (go_at_call 92; refine (weight_little _ _ _ _ ho (by omega) (by omega) (by omega)).mono ?_; rintro e w1 ⟨rfl, hw1⟩; subst w1))
      go_roundw
      case rel =>
        refine ⟨k + 1, C.setIfInBounds k _, by omega, by go_num, rfl, by rw [Array.size_setIfInBounds]; exact HC.out, ?_⟩
        exact rowB_step C _ k 4 _ hlt HC.out HR.out (byte_leB 4 v k hlt)
      case measure => simp [intOf]; omega
    · obtain rfl : k = 4 := by omega
      have hcv := convB w C (leBytes 4 v) 4 (leBytes_length 4 v) HR.out
      go_wp2
      go_ret2
      exact ⟨rfl, (Below.refl _ _).alloc (Nat.le_refl _) _⟩
theorem num_store_little_4 (v : Nat) (w : World) (hv : v < 4294967296) :
    Calls Tryz.prog 60 #[.int .u64 v, .int .i64 4, .int .i64 0] w fun e w' => e = .returned (.tuple #[.string ⟨(leBytes 4 v).toArray⟩, .int .i64 0]) ∧ Below w.heap.size w w' := by
  have HS : Hid (∀ w, Calls Tryz.prog 77 #[.int .u64 v, .int .i64 0] w fun e w' => e = .returned (.tuple #[.string ⟨(leBytes 4 v).toArray⟩, .int .i64 0]) ∧ Below w.heap.size w w') := fun w => store4_little v 0 w (by decide) hv
  clear hv
  generalize (⟨(leBytes 4 v).toArray⟩ : ByteArray) = R at *
  go_enter Tryz.func60, Tryz.ntmps60
  go_wp2_with (first
    | (go_at_call 77; refine (HS.out _).mono ?_; rintro e w1 ⟨rfl, hb1⟩)
    | go_in)
  go_ret2
  exact ⟨rfl, hb1⟩

set_option maxHeartbeats 2000000 in
theorem store4_big (v : Nat) (o : Int) (w : World) (ho : (o == 1) = true) (hv : v < 4294967296) :
    Calls Tryz.prog 77 #[.int .u64 v, .int .i64 o] w fun e w' => e = .returned (.tuple #[.string ⟨((leBytes 4 v).reverse).toArray⟩, .int .i64 0]) ∧ Below w.heap.size w w' := by
  have hmk : ∀ w, (Instr.makeSlice 63 (.int .i64 4) (.int .i64 4)).run Tryz.prog w = .ok (.slice (some ⟨w.heap.size, 0, none⟩) 4 4) (w.alloc (.cells #[.int .u8 0, .int .u8 0, .int .u8 0, .int .u8 0] 5)) := fun _ => by kernel_rfl
  go_enter Tryz.func77, Tryz.ntmps77
  go_wp2_with (first
    | (go_at_call 94; refine (sizeOf32 _).mono ?_; rintro e w1 ⟨rfl, hw1⟩; subst w1))
  go_loopw [19] (fun i wx => ∃ (k : Nat) (C : Array Value), k ≤ 4 ∧ i = .int .i64 k ∧ wx = w.alloc (.cells C 5) ∧ C.size = 4 ∧ isRowB C ((leBytes 4 v).reverse) k) (fun i _ => 4 - (intOf i).toNat)
  case atStart => exact ⟨0, _, Nat.zero_le _, rfl, rfl, rfl, fun j hj => absurd hj (Nat.not_lt_zero _)⟩
  case round =>
    obtain ⟨k, C, hk, rfl, rfl, hC, hrow⟩ := hrel
    have HC : Hid (C.size = 4) := hC
    have HR : Hid (isRowB C ((leBytes 4 v).reverse) k) := hrow
    clear hC hrow
    by_cases hlt : k < 4
    · obtain ⟨x, hx⟩ : ∃ x, C[k]? = some x := ⟨C[k]'(by rw [HC.out]; omega), Array.getElem?_eq_getElem _⟩
      go_wp2_with (first
        | (go_at_call 92; refine (weight_big _ _ _ _ ho (by omega) (by omega) (by omega)).mono ?_; rintro e w1 ⟨rfl, hw1⟩; subst w1))
      go_roundw
      case rel =>
        refine ⟨k + 1, C.setIfInBounds k _, by omega, by go_num, rfl, by rw [Array.size_setIfInBounds]; exact HC.out, ?_⟩
        exact rowB_step C _ k 4 _ hlt HC.out HR.out (byte_beB 4 v k hlt)
      case measure => simp [intOf]; omega
    · obtain rfl : k = 4 := by omega
      have hcv := convB w C ((leBytes 4 v).reverse) 4 ((by rw [List.length_reverse]; exact leBytes_length 4 v)) HR.out
      go_wp2
      go_ret2
      exact ⟨rfl, (Below.refl _ _).alloc (Nat.le_refl _) _⟩
theorem num_store_big_4 (v : Nat) (w : World) (hv : v < 4294967296) :
    Calls Tryz.prog 60 #[.int .u64 v, .int .i64 4, .int .i64 1] w fun e w' => e = .returned (.tuple #[.string ⟨((leBytes 4 v).reverse).toArray⟩, .int .i64 0]) ∧ Below w.heap.size w w' := by
  have HS : Hid (∀ w, Calls Tryz.prog 77 #[.int .u64 v, .int .i64 1] w fun e w' => e = .returned (.tuple #[.string ⟨((leBytes 4 v).reverse).toArray⟩, .int .i64 0]) ∧ Below w.heap.size w w') := fun w => store4_big v 1 w (by decide) hv
  clear hv
  generalize (⟨((leBytes 4 v).reverse).toArray⟩ : ByteArray) = R at *
  go_enter Tryz.func60, Tryz.ntmps60
  go_wp2_with (first
    | (go_at_call 77; refine (HS.out _).mono ?_; rintro e w1 ⟨rfl, hb1⟩)
    | go_in)
  go_ret2
  exact ⟨rfl, hb1⟩

set_option maxHeartbeats 2000000 in
theorem store8_big (v : Nat) (o : Int) (w : World) (ho : (o == 1) = true) (hv : v < 18446744073709551616) :
    Calls Tryz.prog 78 #[.int .u64 v, .int .i64 o] w fun e w' => e = .returned (.tuple #[.string ⟨((leBytes 8 v).reverse).toArray⟩, .int .i64 0]) ∧ Below w.heap.size w w' := by
  have hmk : ∀ w, (Instr.makeSlice 63 (.int .i64 8) (.int .i64 8)).run Tryz.prog w = .ok (.slice (some ⟨w.heap.size, 0, none⟩) 8 8) (w.alloc (.cells #[.int .u8 0, .int .u8 0, .int .u8 0, .int .u8 0, .int .u8 0, .int .u8 0, .int .u8 0, .int .u8 0] 5)) := fun _ => by kernel_rfl
  go_enter Tryz.func78, Tryz.ntmps78
  go_wp2_with (first
    | (go_at_call 95; refine (sizeOf64 _).mono ?_; rintro e w1 ⟨rfl, hw1⟩; subst w1))
  go_loopw [17] (fun i wx => ∃ (k : Nat) (C : Array Value), k ≤ 8 ∧ i = .int .i64 k ∧ wx = w.alloc (.cells C 5) ∧ C.size = 8 ∧ isRowB C ((leBytes 8 v).reverse) k) (fun i _ => 8 - (intOf i).toNat)
  case atStart => exact ⟨0, _, Nat.zero_le _, rfl, rfl, rfl, fun j hj => absurd hj (Nat.not_lt_zero _)⟩
  case round =>
    obtain ⟨k, C, hk, rfl, rfl, hC, hrow⟩ := hrel
    have HC : Hid (C.size = 8) := hC
    have HR : Hid (isRowB C ((leBytes 8 v).reverse) k) := hrow
    clear hC hrow
    by_cases hlt : k < 8
    · obtain ⟨x, hx⟩ : ∃ x, C[k]? = some x := ⟨C[k]'(by rw [HC.out]; omega), Array.getElem?_eq_getElem _⟩
      go_wp2_with (first
        | (go_at_call 92; refine (weight_big _ _ _ _ ho (by omega) (by omega) (by omega)).mono ?_; rintro e w1 ⟨rfl, hw1⟩; subst w1))
      go_roundw
      case rel =>
        refine ⟨k + 1, C.setIfInBounds k _, by omega, by go_num, rfl, by rw [Array.size_setIfInBounds]; exact HC.out, ?_⟩
        exact rowB_step C _ k 8 _ hlt HC.out HR.out (byte_beB 8 v k hlt)
      case measure => simp [intOf]; omega
    · obtain rfl : k = 8 := by omega
      have hcv := convB w C ((leBytes 8 v).reverse) 8 ((by rw [List.length_reverse]; exact leBytes_length 8 v)) HR.out
      go_wp2
      go_ret2
      exact ⟨rfl, (Below.refl _ _).alloc (Nat.le_refl _) _⟩
theorem num_store_big_8 (v : Nat) (w : World) (hv : v < 18446744073709551616) :
    Calls Tryz.prog 60 #[.int .u64 v, .int .i64 8, .int .i64 1] w fun e w' => e = .returned (.tuple #[.string ⟨((leBytes 8 v).reverse).toArray⟩, .int .i64 0]) ∧ Below w.heap.size w w' := by
  have HS : Hid (∀ w, Calls Tryz.prog 78 #[.int .u64 v, .int .i64 1] w fun e w' => e = .returned (.tuple #[.string ⟨((leBytes 8 v).reverse).toArray⟩, .int .i64 0]) ∧ Below w.heap.size w w') := fun w => store8_big v 1 w (by decide) hv
  clear hv
  generalize (⟨((leBytes 8 v).reverse).toArray⟩ : ByteArray) = R at *
  go_enter Tryz.func60, Tryz.ntmps60
  go_wp2_with (first
    | (go_at_call 78; refine (HS.out _).mono ?_; rintro e w1 ⟨rfl, hb1⟩)
    | go_in)
  go_ret2
  exact ⟨rfl, hb1⟩
end Go.Proofs.YtegjklllnegghaaGreatDoor
