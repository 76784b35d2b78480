
-- num.Load: contracts.
import Derived.Test.YtegjklllnegghaaGreatDoorN2
import Derived.Lib.IndexBytes
namespace Go.Proofs.YtegjklllnegghaaGreatDoor
open Go.ChangeShapes Go.WideShapes Go.ChangeAt Go.RowKit
set_option linter.unusedVariables false
set_option maxRecDepth 100000

theorem take_ext (l : List UInt8) (K a z : Nat) (h : a + K ≤ z) : List.take K (List.take (z - a) l) = List.take K l := by
  rw [List.take_take, Nat.min_eq_left (by omega)]
theorem ext_size (s : ByteArray) (a : Nat) : (s.extract a s.size).size = s.size - a := by simp
theorem num_load_little_4 (s : ByteArray) (a : Nat) (o : Int) (w : World) (h0 : (o == 0) = true) (h1 : (o == 1) = false) (ha : a + 4 ≤ s.size) (hm : s.size ≤ maxLen) :
    Calls Tryz.prog 61 #[.string s, .int .i64 a, .int .i64 4, .int .i64 o] w fun e w' => e = .returned (.tuple #[.int .u64 (leNat ((s.data.toList.drop a).take 4)), .int .i64 0]) ∧ Dr w w' := by
  unfold maxLen at hm
  have hsz := ext_size s a
  go_enter Tryz.func61, Tryz.ntmps61
  go_wp2_with (first | (go_at_call 81; refine (load4_little _ _ _ h1 (by rw [hsz]; omega) (by rw [hsz]; unfold maxLen; omega)).mono ?_; rintro e w1 ⟨rfl, hb⟩) | go_in)
  go_ret2
  exact ⟨ret_pair (by rw [take_ext _ _ _ _ ha]), hb⟩
theorem num_load_big_4 (s : ByteArray) (a : Nat) (o : Int) (w : World) (h0 : (o == 0) = false) (h1 : (o == 1) = true) (ha : a + 4 ≤ s.size) (hm : s.size ≤ maxLen) :
    Calls Tryz.prog 61 #[.string s, .int .i64 a, .int .i64 4, .int .i64 o] w fun e w' => e = .returned (.tuple #[.int .u64 (beNat ((s.data.toList.drop a).take 4)), .int .i64 0]) ∧ Dr w w' := by
  unfold maxLen at hm
  have hsz := ext_size s a
  go_enter Tryz.func61, Tryz.ntmps61
  go_wp2_with (first | (go_at_call 81; refine (load4_big _ _ _ h1 (by rw [hsz]; omega) (by rw [hsz]; unfold maxLen; omega)).mono ?_; rintro e w1 ⟨rfl, hb⟩) | go_in)
  go_ret2
  exact ⟨ret_pair (by rw [take_ext _ _ _ _ ha]), hb⟩
theorem num_load_big_8 (s : ByteArray) (a : Nat) (o : Int) (w : World) (h0 : (o == 0) = false) (h1 : (o == 1) = true) (ha : a + 8 ≤ s.size) (hm : s.size ≤ maxLen) :
    Calls Tryz.prog 61 #[.string s, .int .i64 a, .int .i64 8, .int .i64 o] w fun e w' => e = .returned (.tuple #[.int .u64 (beNat ((s.data.toList.drop a).take 8)), .int .i64 0]) ∧ Dr w w' := by
  unfold maxLen at hm
  have hsz := ext_size s a
  go_enter Tryz.func61, Tryz.ntmps61
  go_wp2_with (first | (go_at_call 82; refine (load8_big _ _ _ h1 (by rw [hsz]; omega) (by rw [hsz]; unfold maxLen; omega)).mono ?_; rintro e w1 ⟨rfl, hb⟩) | go_in)
  go_ret2
  exact ⟨ret_pair (by rw [take_ext _ _ _ _ ha]), hb⟩
theorem load4_short (s : ByteArray) (o : Int) (w : World) (hs : s.size < 4) :
    Calls Tryz.prog 81 #[.string s, .int .i64 o] w fun e w' => e = .returned (.tuple #[.int .u64 0, .int .i64 12]) ∧ w' = w := by
  go_enter Tryz.func81, Tryz.ntmps81
  go_wp2_with (go_at_call 94; refine (sizeOf32 _).mono ?_; rintro e w1 ⟨rfl, hw1⟩; subst w1)
  go_ret2
  exact ⟨rfl, rfl⟩
theorem load8_short (s : ByteArray) (o : Int) (w : World) (hs : s.size < 8) :
    Calls Tryz.prog 82 #[.string s, .int .i64 o] w fun e w' => e = .returned (.tuple #[.int .u64 0, .int .i64 12]) ∧ w' = w := by
  go_enter Tryz.func82, Tryz.ntmps82
  go_wp2_with (go_at_call 95; refine (sizeOf64 _).mono ?_; rintro e w1 ⟨rfl, hw1⟩; subst w1)
  go_ret2
  exact ⟨rfl, rfl⟩
theorem num_short_4 (s : ByteArray) (o : Int) (w : World) (ho : o = 0 ∨ o = 1) (ha : s.size < 4) :
    Calls Tryz.prog 61 #[.string s, .int .i64 0, .int .i64 4, .int .i64 o] w fun e w' => e = .returned (.tuple #[.int .u64 0, .int .i64 12]) ∧ w' = w := by
  have hsz := ext_size s 0
  rcases ho with rfl | rfl
  all_goals
    go_enter Tryz.func61, Tryz.ntmps61
    go_wp2_with (first | (go_at_call 81; refine (load4_short _ _ _ (by first | exact ha | (rw [hsz]; omega) | (simp; omega))).mono ?_; rintro e w1 ⟨rfl, hb⟩; subst w1) | go_in)
    go_ret2
    exact ⟨rfl, rfl⟩
theorem num_short_8 (s : ByteArray) (o : Int) (w : World) (ho : o = 0 ∨ o = 1) (ha : s.size < 8) :
    Calls Tryz.prog 61 #[.string s, .int .i64 0, .int .i64 8, .int .i64 o] w fun e w' => e = .returned (.tuple #[.int .u64 0, .int .i64 12]) ∧ w' = w := by
  have hsz := ext_size s 0
  rcases ho with rfl | rfl
  all_goals
    go_enter Tryz.func61, Tryz.ntmps61
    go_wp2_with (first | (go_at_call 82; refine (load8_short _ _ _ (by first | exact ha | (rw [hsz]; omega) | (simp; omega))).mono ?_; rintro e w1 ⟨rfl, hb⟩; subst w1) | go_in)
    go_ret2
    exact ⟨rfl, rfl⟩
end Go.Proofs.YtegjklllnegghaaGreatDoor
