
-- (index.codec).load: contracts.
import Derived.Test.YtegjklllnegghaaGreatDoorC1
import Derived.Test.YtegjklllnegghaaGreatDoorI1
import Derived.Test.YtegjklllnegghaaGreatDoorN3
namespace Go.Proofs.YtegjklllnegghaaGreatDoor
open Go.ChangeShapes Go.WideShapes Go.ChangeAt Go.RowKit
set_option linter.unusedVariables false
set_option maxRecDepth 100000
theorem be_w_lt (b : List UInt8) (p w : Nat) : beW b p w < 256 ^ w := by
  unfold beW beNat
  refine Nat.lt_of_lt_of_le (leNat_lt _) (Nat.pow_le_pow_right (by omega) ?_)
  rw [List.length_reverse]; exact List.length_take_le _ _
theorem le_w_lt (b : List UInt8) (p w : Nat) : leW b p w < 256 ^ w := by
  unfold leW
  exact Nat.lt_of_lt_of_le (leNat_lt _) (Nat.pow_le_pow_right (by omega) (List.length_take_le _ _))
theorem cload1_c (s : ByteArray) (a : Nat) (w : World) (ha : a + 4 ≤ s.size) (hm : s.size ≤ maxLen) :
    Calls Tryz.prog 54 #[.agg ca1, .string s, .int .i64 a] w fun e w' => e = .returned (.tuple #[.int .u64 (beW s.data.toList a 4), .bool true]) ∧ Below w.heap.size w w' := by
  have H : Hid (∀ w, Calls Tryz.prog 61 #[.string s, .int .i64 a, .int .i64 4, .int .i64 1] w fun e w' => e = .returned (.tuple #[.int .u64 (beW s.data.toList a 4), .int .i64 0]) ∧ Dr w w') := fun w => num_load_big_4 s a 1 w rfl rfl ha hm
  generalize beW s.data.toList a 4 = v at *
  unfold ca1
  go_enter Tryz.func54, Tryz.ntmps54
  go_wp2_with (go_at_call 61; refine (H.out _).mono ?_; rintro e w1 ⟨rfl, hd⟩)
  go_ret2
  exact ⟨rfl, (bupK (Below.refl _ _) _).trans (hd.below _)⟩
theorem cload2_c (s : ByteArray) (a : Nat) (w : World) (ha : a + 8 ≤ s.size) (hm : s.size ≤ maxLen) :
    Calls Tryz.prog 54 #[.agg ca2, .string s, .int .i64 a] w fun e w' => e = .returned (.tuple #[.int .u64 (beW s.data.toList a 8), .bool true]) ∧ Below w.heap.size w w' := by
  have H : Hid (∀ w, Calls Tryz.prog 61 #[.string s, .int .i64 a, .int .i64 8, .int .i64 1] w fun e w' => e = .returned (.tuple #[.int .u64 (beW s.data.toList a 8), .int .i64 0]) ∧ Dr w w') := fun w => num_load_big_8 s a 1 w rfl rfl ha hm
  generalize beW s.data.toList a 8 = v at *
  unfold ca2
  go_enter Tryz.func54, Tryz.ntmps54
  go_wp2_with (go_at_call 61; refine (H.out _).mono ?_; rintro e w1 ⟨rfl, hd⟩)
  go_ret2
  exact ⟨rfl, (bupK (Below.refl _ _) _).trans (hd.below _)⟩
theorem cload3_c (s : ByteArray) (a : Nat) (w : World) (ha : a + 4 ≤ s.size) (hm : s.size ≤ maxLen) :
    Calls Tryz.prog 54 #[.agg ca3, .string s, .int .i64 a] w fun e w' => e = .returned (.tuple #[.int .u64 (leW s.data.toList a 4), .bool true]) ∧ Below w.heap.size w w' := by
  have H : Hid (∀ w, Calls Tryz.prog 61 #[.string s, .int .i64 a, .int .i64 4, .int .i64 0] w fun e w' => e = .returned (.tuple #[.int .u64 (leW s.data.toList a 4), .int .i64 0]) ∧ Dr w w') := fun w => num_load_little_4 s a 0 w rfl rfl ha hm
  generalize leW s.data.toList a 4 = v at *
  unfold ca3
  go_enter Tryz.func54, Tryz.ntmps54
  go_wp2_with (go_at_call 61; refine (H.out _).mono ?_; rintro e w1 ⟨rfl, hd⟩)
  go_ret2
  exact ⟨rfl, (bupK (Below.refl _ _) _).trans (hd.below _)⟩
theorem cload1_no (s : ByteArray) (w : World) (ha : s.size < 4) :
    Calls Tryz.prog 54 #[.agg ca1, .string s, .int .i64 0] w fun e w' => e = .returned (.tuple #[.int .u64 0, .bool false]) ∧ Below w.heap.size w w' := by
  have H : Hid (∀ w, Calls Tryz.prog 61 #[.string s, .int .i64 0, .int .i64 4, .int .i64 1] w fun e w' => e = .returned (.tuple #[.int .u64 0, .int .i64 12]) ∧ w' = w) := fun w => num_short_4 s 1 w (.inr rfl) ha
  unfold ca1
  go_enter Tryz.func54, Tryz.ntmps54
  go_wp2_with (go_at_call 61; refine (H.out _).mono ?_; rintro e w1 ⟨rfl, hw1⟩; subst w1)
  go_ret2
  exact ⟨rfl, bupK (Below.refl _ _) _⟩
theorem cload2_no (s : ByteArray) (w : World) (ha : s.size < 8) :
    Calls Tryz.prog 54 #[.agg ca2, .string s, .int .i64 0] w fun e w' => e = .returned (.tuple #[.int .u64 0, .bool false]) ∧ Below w.heap.size w w' := by
  have H : Hid (∀ w, Calls Tryz.prog 61 #[.string s, .int .i64 0, .int .i64 8, .int .i64 1] w fun e w' => e = .returned (.tuple #[.int .u64 0, .int .i64 12]) ∧ w' = w) := fun w => num_short_8 s 1 w (.inr rfl) ha
  unfold ca2
  go_enter Tryz.func54, Tryz.ntmps54
  go_wp2_with (go_at_call 61; refine (H.out _).mono ?_; rintro e w1 ⟨rfl, hw1⟩; subst w1)
  go_ret2
  exact ⟨rfl, bupK (Below.refl _ _) _⟩
theorem cload3_no (s : ByteArray) (w : World) (ha : s.size < 4) :
    Calls Tryz.prog 54 #[.agg ca3, .string s, .int .i64 0] w fun e w' => e = .returned (.tuple #[.int .u64 0, .bool false]) ∧ Below w.heap.size w w' := by
  have H : Hid (∀ w, Calls Tryz.prog 61 #[.string s, .int .i64 0, .int .i64 4, .int .i64 0] w fun e w' => e = .returned (.tuple #[.int .u64 0, .int .i64 12]) ∧ w' = w) := fun w => num_short_4 s 0 w (.inl rfl) ha
  unfold ca3
  go_enter Tryz.func54, Tryz.ntmps54
  go_wp2_with (go_at_call 61; refine (H.out _).mono ?_; rintro e w1 ⟨rfl, hw1⟩; subst w1)
  go_ret2
  exact ⟨rfl, bupK (Below.refl _ _) _⟩
end Go.Proofs.YtegjklllnegghaaGreatDoor
