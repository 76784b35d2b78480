
-- num.Load: contracts.
import Derived.Test.YtoikagccopglkaaDoorN2
import Derived.Lib.IndexBytes
namespace Go.Proofs.YtoikagccopglkaaDoor
open Go.ChangeShapes Go.WideShapes Go.ChangeAt Go.RowKit
set_option linter.unusedVariables false
set_option maxRecDepth 100000

theorem take_ext (l : List UInt8) (K a z : Nat) (h : a + K ≤ z) : List.take K (List.take (z - a) l) = List.take K l := by
  rw [List.take_take, Nat.min_eq_left (by omega)]
theorem ext_size (s : ByteArray) (a : Nat) : (s.extract a s.size).size = s.size - a := by simp
theorem num_load_little_1 (s : ByteArray) (a : Nat) (o : Int) (w : World) (h0 : (o == 0) = true) (h1 : (o == 1) = false) (ha : a + 1 ≤ s.size) (hm : s.size ≤ maxLen) :
    Calls Tryd.prog 33 #[.string s, .int .i64 a, .int .i64 1, .int .i64 o] w fun e w' => e = .returned (.tuple #[.int .u64 (leNat ((s.data.toList.drop a).take 1)), .int .i64 0]) ∧ Dr w w' := by
  unfold maxLen at hm
  have hsz := ext_size s a
  go_enter Tryd.func33, Tryd.ntmps33
  go_wp2_with (first | (go_at_call 35; refine (load1_little _ _ _ h1 (by rw [hsz]; omega) (by rw [hsz]; unfold maxLen; omega)).mono ?_; rintro e w1 ⟨rfl, hb⟩) | go_in)
  go_ret2
  exact ⟨ret_pair (by rw [take_ext _ _ _ _ ha]), hb⟩
theorem num_load_big_1 (s : ByteArray) (a : Nat) (o : Int) (w : World) (h0 : (o == 0) = false) (h1 : (o == 1) = true) (ha : a + 1 ≤ s.size) (hm : s.size ≤ maxLen) :
    Calls Tryd.prog 33 #[.string s, .int .i64 a, .int .i64 1, .int .i64 o] w fun e w' => e = .returned (.tuple #[.int .u64 (beNat ((s.data.toList.drop a).take 1)), .int .i64 0]) ∧ Dr w w' := by
  unfold maxLen at hm
  have hsz := ext_size s a
  go_enter Tryd.func33, Tryd.ntmps33
  go_wp2_with (first | (go_at_call 35; refine (load1_big _ _ _ h1 (by rw [hsz]; omega) (by rw [hsz]; unfold maxLen; omega)).mono ?_; rintro e w1 ⟨rfl, hb⟩) | go_in)
  go_ret2
  exact ⟨ret_pair (by rw [take_ext _ _ _ _ ha]), hb⟩
theorem num_load_little_2 (s : ByteArray) (a : Nat) (o : Int) (w : World) (h0 : (o == 0) = true) (h1 : (o == 1) = false) (ha : a + 2 ≤ s.size) (hm : s.size ≤ maxLen) :
    Calls Tryd.prog 33 #[.string s, .int .i64 a, .int .i64 2, .int .i64 o] w fun e w' => e = .returned (.tuple #[.int .u64 (leNat ((s.data.toList.drop a).take 2)), .int .i64 0]) ∧ Dr w w' := by
  unfold maxLen at hm
  have hsz := ext_size s a
  go_enter Tryd.func33, Tryd.ntmps33
  go_wp2_with (first | (go_at_call 36; refine (load2_little _ _ _ h1 (by rw [hsz]; omega) (by rw [hsz]; unfold maxLen; omega)).mono ?_; rintro e w1 ⟨rfl, hb⟩) | go_in)
  go_ret2
  exact ⟨ret_pair (by rw [take_ext _ _ _ _ ha]), hb⟩
theorem num_load_big_2 (s : ByteArray) (a : Nat) (o : Int) (w : World) (h0 : (o == 0) = false) (h1 : (o == 1) = true) (ha : a + 2 ≤ s.size) (hm : s.size ≤ maxLen) :
    Calls Tryd.prog 33 #[.string s, .int .i64 a, .int .i64 2, .int .i64 o] w fun e w' => e = .returned (.tuple #[.int .u64 (beNat ((s.data.toList.drop a).take 2)), .int .i64 0]) ∧ Dr w w' := by
  unfold maxLen at hm
  have hsz := ext_size s a
  go_enter Tryd.func33, Tryd.ntmps33
  go_wp2_with (first | (go_at_call 36; refine (load2_big _ _ _ h1 (by rw [hsz]; omega) (by rw [hsz]; unfold maxLen; omega)).mono ?_; rintro e w1 ⟨rfl, hb⟩) | go_in)
  go_ret2
  exact ⟨ret_pair (by rw [take_ext _ _ _ _ ha]), hb⟩
theorem num_load_little_4 (s : ByteArray) (a : Nat) (o : Int) (w : World) (h0 : (o == 0) = true) (h1 : (o == 1) = false) (ha : a + 4 ≤ s.size) (hm : s.size ≤ maxLen) :
    Calls Tryd.prog 33 #[.string s, .int .i64 a, .int .i64 4, .int .i64 o] w fun e w' => e = .returned (.tuple #[.int .u64 (leNat ((s.data.toList.drop a).take 4)), .int .i64 0]) ∧ Dr w w' := by
  unfold maxLen at hm
  have hsz := ext_size s a
  go_enter Tryd.func33, Tryd.ntmps33
  go_wp2_with (first | (go_at_call 37; refine (load4_little _ _ _ h1 (by rw [hsz]; omega) (by rw [hsz]; unfold maxLen; omega)).mono ?_; rintro e w1 ⟨rfl, hb⟩) | go_in)
  go_ret2
  exact ⟨ret_pair (by rw [take_ext _ _ _ _ ha]), hb⟩
theorem num_load_big_4 (s : ByteArray) (a : Nat) (o : Int) (w : World) (h0 : (o == 0) = false) (h1 : (o == 1) = true) (ha : a + 4 ≤ s.size) (hm : s.size ≤ maxLen) :
    Calls Tryd.prog 33 #[.string s, .int .i64 a, .int .i64 4, .int .i64 o] w fun e w' => e = .returned (.tuple #[.int .u64 (beNat ((s.data.toList.drop a).take 4)), .int .i64 0]) ∧ Dr w w' := by
  unfold maxLen at hm
  have hsz := ext_size s a
  go_enter Tryd.func33, Tryd.ntmps33
  go_wp2_with (first | (go_at_call 37; refine (load4_big _ _ _ h1 (by rw [hsz]; omega) (by rw [hsz]; unfold maxLen; omega)).mono ?_; rintro e w1 ⟨rfl, hb⟩) | go_in)
  go_ret2
  exact ⟨ret_pair (by rw [take_ext _ _ _ _ ha]), hb⟩
theorem num_load_little_8 (s : ByteArray) (a : Nat) (o : Int) (w : World) (h0 : (o == 0) = true) (h1 : (o == 1) = false) (ha : a + 8 ≤ s.size) (hm : s.size ≤ maxLen) :
    Calls Tryd.prog 33 #[.string s, .int .i64 a, .int .i64 8, .int .i64 o] w fun e w' => e = .returned (.tuple #[.int .u64 (leNat ((s.data.toList.drop a).take 8)), .int .i64 0]) ∧ Dr w w' := by
  unfold maxLen at hm
  have hsz := ext_size s a
  go_enter Tryd.func33, Tryd.ntmps33
  go_wp2_with (first | (go_at_call 38; refine (load8_little _ _ _ h1 (by rw [hsz]; omega) (by rw [hsz]; unfold maxLen; omega)).mono ?_; rintro e w1 ⟨rfl, hb⟩) | go_in)
  go_ret2
  exact ⟨ret_pair (by rw [take_ext _ _ _ _ ha]), hb⟩
theorem num_load_big_8 (s : ByteArray) (a : Nat) (o : Int) (w : World) (h0 : (o == 0) = false) (h1 : (o == 1) = true) (ha : a + 8 ≤ s.size) (hm : s.size ≤ maxLen) :
    Calls Tryd.prog 33 #[.string s, .int .i64 a, .int .i64 8, .int .i64 o] w fun e w' => e = .returned (.tuple #[.int .u64 (beNat ((s.data.toList.drop a).take 8)), .int .i64 0]) ∧ Dr w w' := by
  unfold maxLen at hm
  have hsz := ext_size s a
  go_enter Tryd.func33, Tryd.ntmps33
  go_wp2_with (first | (go_at_call 38; refine (load8_big _ _ _ h1 (by rw [hsz]; omega) (by rw [hsz]; unfold maxLen; omega)).mono ?_; rintro e w1 ⟨rfl, hb⟩) | go_in)
  go_ret2
  exact ⟨ret_pair (by rw [take_ext _ _ _ _ ha]), hb⟩
end Go.Proofs.YtoikagccopglkaaDoor
