-- num.Load: contracts.
import Derived.Test.YtfjmjgnifbgneaaLoad
import Derived.Lib.IndexBytes
namespace Go.Proofs.Ytfjmjgnifbgneaa
open Go.ChangeShapes Go.WideShapes Go.ChangeAt Go.RowKit
set_option linter.unusedVariables false

theorem take_ext (l : List UInt8) (K a z : Nat) (h : a + K ≤ z) : List.take K (List.take (z - a) l) = List.take K l := by
  rw [List.take_take, Nat.min_eq_left (by omega)]
theorem ext_size (s : ByteArray) (a : Nat) : (s.extract a s.size).size = s.size - a := by simp
theorem num_load_little_1 (s : ByteArray) (a : Nat) (o : Int) (w : World) (h0 : (o == 0) = true) (h1 : (o == 1) = false) (ha : a + 1 ≤ s.size) (hm : s.size ≤ maxLen) :
    Calls Try.prog 14 #[.string s, .int .i64 a, .int .i64 1, .int .i64 o] w fun e w' => e = .returned (.tuple #[.int .u64 (leNat ((s.data.toList.drop a).take 1)), .int .i64 0]) ∧ Below w.heap.size w w' := by
  unfold maxLen at hm
  have hsz := ext_size s a
  go_enter Try.func14, Try.ntmps14
  go_wp2_with (first | (go_at_call 26; refine (load1_little _ _ _ h1 (by rw [hsz]; omega) (by rw [hsz]; unfold maxLen; omega)).mono ?_; rintro e w1 ⟨rfl, hb⟩) | go_in)
  go_ret2
  exact ⟨ret_pair (by rw [take_ext _ _ _ _ ha]), hb⟩
theorem num_load_big_1 (s : ByteArray) (a : Nat) (o : Int) (w : World) (h0 : (o == 0) = false) (h1 : (o == 1) = true) (ha : a + 1 ≤ s.size) (hm : s.size ≤ maxLen) :
    Calls Try.prog 14 #[.string s, .int .i64 a, .int .i64 1, .int .i64 o] w fun e w' => e = .returned (.tuple #[.int .u64 (beNat ((s.data.toList.drop a).take 1)), .int .i64 0]) ∧ Below w.heap.size w w' := by
  unfold maxLen at hm
  have hsz := ext_size s a
  go_enter Try.func14, Try.ntmps14
  go_wp2_with (first | (go_at_call 26; refine (load1_big _ _ _ h1 (by rw [hsz]; omega) (by rw [hsz]; unfold maxLen; omega)).mono ?_; rintro e w1 ⟨rfl, hb⟩) | go_in)
  go_ret2
  exact ⟨ret_pair (by rw [take_ext _ _ _ _ ha]), hb⟩
theorem num_load_short_1 (s : ByteArray) (a : Nat) (o : Int) (w : World) (h0 : (o == 0) = true ∨ (o == 1) = true) (ha : a ≤ s.size) (hs : s.size < a + 1) (hm : s.size ≤ maxLen) :
    Calls Try.prog 14 #[.string s, .int .i64 a, .int .i64 1, .int .i64 o] w fun e w' => e = .returned (.tuple #[.int .u64 0, .int .i64 12]) ∧ Below w.heap.size w w' := by
  unfold maxLen at hm
  have hsz := ext_size s a
  have hc : ((o == 0) = true) ∨ ((o == 0) = false ∧ (o == 1) = true) := by
    cases h : (o == 0) <;> simp_all
  rcases hc with h0 | ⟨h0, h1⟩
  all_goals
    go_enter Try.func14, Try.ntmps14
    go_wp2_with (first | (go_at_call 26; refine (load1_short _ _ _ (by rw [hsz]; omega)).mono ?_; rintro e w1 ⟨rfl, hb⟩) | go_in)
    go_ret2
    exact ⟨rfl, hb⟩
theorem num_load_little_2 (s : ByteArray) (a : Nat) (o : Int) (w : World) (h0 : (o == 0) = true) (h1 : (o == 1) = false) (ha : a + 2 ≤ s.size) (hm : s.size ≤ maxLen) :
    Calls Try.prog 14 #[.string s, .int .i64 a, .int .i64 2, .int .i64 o] w fun e w' => e = .returned (.tuple #[.int .u64 (leNat ((s.data.toList.drop a).take 2)), .int .i64 0]) ∧ Below w.heap.size w w' := by
  unfold maxLen at hm
  have hsz := ext_size s a
  go_enter Try.func14, Try.ntmps14
  go_wp2_with (first | (go_at_call 27; refine (load2_little _ _ _ h1 (by rw [hsz]; omega) (by rw [hsz]; unfold maxLen; omega)).mono ?_; rintro e w1 ⟨rfl, hb⟩) | go_in)
  go_ret2
  exact ⟨ret_pair (by rw [take_ext _ _ _ _ ha]), hb⟩
theorem num_load_big_2 (s : ByteArray) (a : Nat) (o : Int) (w : World) (h0 : (o == 0) = false) (h1 : (o == 1) = true) (ha : a + 2 ≤ s.size) (hm : s.size ≤ maxLen) :
    Calls Try.prog 14 #[.string s, .int .i64 a, .int .i64 2, .int .i64 o] w fun e w' => e = .returned (.tuple #[.int .u64 (beNat ((s.data.toList.drop a).take 2)), .int .i64 0]) ∧ Below w.heap.size w w' := by
  unfold maxLen at hm
  have hsz := ext_size s a
  go_enter Try.func14, Try.ntmps14
  go_wp2_with (first | (go_at_call 27; refine (load2_big _ _ _ h1 (by rw [hsz]; omega) (by rw [hsz]; unfold maxLen; omega)).mono ?_; rintro e w1 ⟨rfl, hb⟩) | go_in)
  go_ret2
  exact ⟨ret_pair (by rw [take_ext _ _ _ _ ha]), hb⟩
theorem num_load_short_2 (s : ByteArray) (a : Nat) (o : Int) (w : World) (h0 : (o == 0) = true ∨ (o == 1) = true) (ha : a ≤ s.size) (hs : s.size < a + 2) (hm : s.size ≤ maxLen) :
    Calls Try.prog 14 #[.string s, .int .i64 a, .int .i64 2, .int .i64 o] w fun e w' => e = .returned (.tuple #[.int .u64 0, .int .i64 12]) ∧ Below w.heap.size w w' := by
  unfold maxLen at hm
  have hsz := ext_size s a
  have hc : ((o == 0) = true) ∨ ((o == 0) = false ∧ (o == 1) = true) := by
    cases h : (o == 0) <;> simp_all
  rcases hc with h0 | ⟨h0, h1⟩
  all_goals
    go_enter Try.func14, Try.ntmps14
    go_wp2_with (first | (go_at_call 27; refine (load2_short _ _ _ (by rw [hsz]; omega)).mono ?_; rintro e w1 ⟨rfl, hb⟩) | go_in)
    go_ret2
    exact ⟨rfl, hb⟩
theorem num_load_little_4 (s : ByteArray) (a : Nat) (o : Int) (w : World) (h0 : (o == 0) = true) (h1 : (o == 1) = false) (ha : a + 4 ≤ s.size) (hm : s.size ≤ maxLen) :
    Calls Try.prog 14 #[.string s, .int .i64 a, .int .i64 4, .int .i64 o] w fun e w' => e = .returned (.tuple #[.int .u64 (leNat ((s.data.toList.drop a).take 4)), .int .i64 0]) ∧ Below w.heap.size w w' := by
  unfold maxLen at hm
  have hsz := ext_size s a
  go_enter Try.func14, Try.ntmps14
  go_wp2_with (first | (go_at_call 28; refine (load4_little _ _ _ h1 (by rw [hsz]; omega) (by rw [hsz]; unfold maxLen; omega)).mono ?_; rintro e w1 ⟨rfl, hb⟩) | go_in)
  go_ret2
  exact ⟨ret_pair (by rw [take_ext _ _ _ _ ha]), hb⟩
theorem num_load_big_4 (s : ByteArray) (a : Nat) (o : Int) (w : World) (h0 : (o == 0) = false) (h1 : (o == 1) = true) (ha : a + 4 ≤ s.size) (hm : s.size ≤ maxLen) :
    Calls Try.prog 14 #[.string s, .int .i64 a, .int .i64 4, .int .i64 o] w fun e w' => e = .returned (.tuple #[.int .u64 (beNat ((s.data.toList.drop a).take 4)), .int .i64 0]) ∧ Below w.heap.size w w' := by
  unfold maxLen at hm
  have hsz := ext_size s a
  go_enter Try.func14, Try.ntmps14
  go_wp2_with (first | (go_at_call 28; refine (load4_big _ _ _ h1 (by rw [hsz]; omega) (by rw [hsz]; unfold maxLen; omega)).mono ?_; rintro e w1 ⟨rfl, hb⟩) | go_in)
  go_ret2
  exact ⟨ret_pair (by rw [take_ext _ _ _ _ ha]), hb⟩
theorem num_load_short_4 (s : ByteArray) (a : Nat) (o : Int) (w : World) (h0 : (o == 0) = true ∨ (o == 1) = true) (ha : a ≤ s.size) (hs : s.size < a + 4) (hm : s.size ≤ maxLen) :
    Calls Try.prog 14 #[.string s, .int .i64 a, .int .i64 4, .int .i64 o] w fun e w' => e = .returned (.tuple #[.int .u64 0, .int .i64 12]) ∧ Below w.heap.size w w' := by
  unfold maxLen at hm
  have hsz := ext_size s a
  have hc : ((o == 0) = true) ∨ ((o == 0) = false ∧ (o == 1) = true) := by
    cases h : (o == 0) <;> simp_all
  rcases hc with h0 | ⟨h0, h1⟩
  all_goals
    go_enter Try.func14, Try.ntmps14
    go_wp2_with (first | (go_at_call 28; refine (load4_short _ _ _ (by rw [hsz]; omega)).mono ?_; rintro e w1 ⟨rfl, hb⟩) | go_in)
    go_ret2
    exact ⟨rfl, hb⟩
theorem num_load_little_8 (s : ByteArray) (a : Nat) (o : Int) (w : World) (h0 : (o == 0) = true) (h1 : (o == 1) = false) (ha : a + 8 ≤ s.size) (hm : s.size ≤ maxLen) :
    Calls Try.prog 14 #[.string s, .int .i64 a, .int .i64 8, .int .i64 o] w fun e w' => e = .returned (.tuple #[.int .u64 (leNat ((s.data.toList.drop a).take 8)), .int .i64 0]) ∧ Below w.heap.size w w' := by
  unfold maxLen at hm
  have hsz := ext_size s a
  go_enter Try.func14, Try.ntmps14
  go_wp2_with (first | (go_at_call 29; refine (load8_little _ _ _ h1 (by rw [hsz]; omega) (by rw [hsz]; unfold maxLen; omega)).mono ?_; rintro e w1 ⟨rfl, hb⟩) | go_in)
  go_ret2
  exact ⟨ret_pair (by rw [take_ext _ _ _ _ ha]), hb⟩
theorem num_load_big_8 (s : ByteArray) (a : Nat) (o : Int) (w : World) (h0 : (o == 0) = false) (h1 : (o == 1) = true) (ha : a + 8 ≤ s.size) (hm : s.size ≤ maxLen) :
    Calls Try.prog 14 #[.string s, .int .i64 a, .int .i64 8, .int .i64 o] w fun e w' => e = .returned (.tuple #[.int .u64 (beNat ((s.data.toList.drop a).take 8)), .int .i64 0]) ∧ Below w.heap.size w w' := by
  unfold maxLen at hm
  have hsz := ext_size s a
  go_enter Try.func14, Try.ntmps14
  go_wp2_with (first | (go_at_call 29; refine (load8_big _ _ _ h1 (by rw [hsz]; omega) (by rw [hsz]; unfold maxLen; omega)).mono ?_; rintro e w1 ⟨rfl, hb⟩) | go_in)
  go_ret2
  exact ⟨ret_pair (by rw [take_ext _ _ _ _ ha]), hb⟩
theorem num_load_short_8 (s : ByteArray) (a : Nat) (o : Int) (w : World) (h0 : (o == 0) = true ∨ (o == 1) = true) (ha : a ≤ s.size) (hs : s.size < a + 8) (hm : s.size ≤ maxLen) :
    Calls Try.prog 14 #[.string s, .int .i64 a, .int .i64 8, .int .i64 o] w fun e w' => e = .returned (.tuple #[.int .u64 0, .int .i64 12]) ∧ Below w.heap.size w w' := by
  unfold maxLen at hm
  have hsz := ext_size s a
  have hc : ((o == 0) = true) ∨ ((o == 0) = false ∧ (o == 1) = true) := by
    cases h : (o == 0) <;> simp_all
  rcases hc with h0 | ⟨h0, h1⟩
  all_goals
    go_enter Try.func14, Try.ntmps14
    go_wp2_with (first | (go_at_call 29; refine (load8_short _ _ _ (by rw [hsz]; omega)).mono ?_; rintro e w1 ⟨rfl, hb⟩) | go_in)
    go_ret2
    exact ⟨rfl, hb⟩
theorem num_load_order (s : ByteArray) (a k o : Int) (w : World) (h0 : (o == 0) = false) (h1 : (o == 1) = false) :
    Calls Try.prog 14 #[.string s, .int .i64 a, .int .i64 k, .int .i64 o] w fun e w' => e = .returned (.tuple #[.int .u64 0, .int .i64 12]) ∧ Below w.heap.size w w' := by
  go_enter Try.func14, Try.ntmps14
  go_wp2
  go_ret2
  exact ⟨rfl, Below.refl _ _⟩
theorem num_load_place (s : ByteArray) (a k o : Int) (w : World) (h0 : (o == 0) = true ∨ (o == 1) = true) (ha : a < 0 ∨ (s.size : Int) < a) :
    Calls Try.prog 14 #[.string s, .int .i64 a, .int .i64 k, .int .i64 o] w fun e w' => e = .returned (.tuple #[.int .u64 0, .int .i64 12]) ∧ Below w.heap.size w w' := by
  have hc : ((o == 0) = true) ∨ ((o == 0) = false ∧ (o == 1) = true) := by
    cases h : (o == 0) <;> simp_all
  by_cases hneg : a < 0
  · rcases hc with h0 | ⟨h0, h1⟩
    all_goals
      go_enter Try.func14, Try.ntmps14
      go_wp2
      go_ret2
      exact ⟨rfl, Below.refl _ _⟩
  · have hp : (s.size : Int) < a := by omega
    clear ha
    rcases hc with h0 | ⟨h0, h1⟩
    all_goals
      go_enter Try.func14, Try.ntmps14
      go_wp2
      go_ret2
      exact ⟨rfl, Below.refl _ _⟩
theorem num_load_size (s : ByteArray) (a : Nat) (k o : Int) (w : World) (h0 : (o == 0) = true ∨ (o == 1) = true) (ha : a ≤ s.size) (hm : s.size ≤ maxLen) (k1 : (k == 1) = false) (k2 : (k == 2) = false) (k4 : (k == 4) = false) (k8 : (k == 8) = false) :
    Calls Try.prog 14 #[.string s, .int .i64 a, .int .i64 k, .int .i64 o] w fun e w' => e = .returned (.tuple #[.int .u64 0, .int .i64 12]) ∧ Below w.heap.size w w' := by
  unfold maxLen at hm
  have hc : ((o == 0) = true) ∨ ((o == 0) = false ∧ (o == 1) = true) := by
    cases h : (o == 0) <;> simp_all
  rcases hc with h0 | ⟨h0, h1⟩
  all_goals
    go_enter Try.func14, Try.ntmps14
    go_wp2
    go_ret2
    exact ⟨rfl, Below.refl _ _⟩
end Go.Proofs.Ytfjmjgnifbgneaa
