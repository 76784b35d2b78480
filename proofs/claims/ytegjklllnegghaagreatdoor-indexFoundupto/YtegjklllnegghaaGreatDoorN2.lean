
-- num.loadBytes at its four kinds: contracts.
import Derived.Test.YtegjklllnegghaaGreatDoorN1
import Derived.Test.YtegjklllnegghaaGreatDoorN0
import Derived.Laws.BitsAllLaws
import Derived.WalkLawsBesides
import Derived.Deep.QuietTactic
import Derived.BigQuiet
namespace Go.Proofs.YtegjklllnegghaaGreatDoor
open Go.ChangeShapes Go.WideShapes Go.ChangeAt Go.RowKit

/-- the world behind, but for draws of an order, is the world before -/
def Dr (w w' : World) : Prop := ∃ m, w' = w.drewN m
theorem Dr.refl (w : World) : Dr w w := ⟨0, rfl⟩
theorem Dr.more {w w' : World} (h : Dr w w') (n : Nat) : Dr w (w'.drewN n) := by
  obtain ⟨m, rfl⟩ := h; exact ⟨m + n, by rw [World.drewN_drewN]⟩
theorem Dr.trans {a b c : World} (h : Dr a b) (k : Dr b c) : Dr a c := by
  obtain ⟨m, rfl⟩ := k; exact h.more m
theorem Dr.below {w w' : World} (h : Dr w w') (N : Nat) : Below N w w' := by
  obtain ⟨m, rfl⟩ := h; exact below_drewN (Below.refl _ _) _

theorem ret_pair {k : IntKind} {a b : Int} {x : Value} (h : a = b) : Ending.returned (.tuple #[.int k a, x]) = .returned (.tuple #[.int k b, x]) := by rw [h]
theorem int_eq_of {k : IntKind} {a b : Int} (h : a = b) : Value.int k a = .int k b := by rw [h]
theorem take_next (s : ByteArray) (k : Nat) (h : k < s.size) : s.data.toList.take (k + 1) = s.data.toList.take k ++ [s[k]] := by
  rw [List.take_succ_eq_append_getElem (by simpa using h)]; rfl
theorem le_next (s : ByteArray) (k : Nat) (h : k < s.size) : leNat (s.data.toList.take (k + 1)) = leNat (s.data.toList.take k) + s[k].toNat * 256 ^ k := by
  have hl : (s.data.toList.take k).length = k := by rw [List.length_take, Nat.min_eq_left]; have : s.data.toList.length = s.size := by simp
                                                    omega
  rw [take_next s k h, leNat_append, hl]
  simp only [leNat, Nat.mul_zero, Nat.add_zero]
  rw [Nat.mul_comm]
theorem le_lt (s : ByteArray) (k : Nat) : leNat (s.data.toList.take k) < 256 ^ k :=
  Nat.lt_of_lt_of_le (leNat_lt _) (Nat.pow_le_pow_right (by omega) (List.length_take_le _ _))
theorem be_next (s : ByteArray) (k : Nat) (h : k < s.size) : beNat (s.data.toList.take (k + 1)) = beNat (s.data.toList.take k) * 256 + s[k].toNat := by
  rw [take_next s k h]
  simp only [beNat, List.reverse_append, List.reverse_cons, List.reverse_nil, List.nil_append, List.cons_append, leNat]
  omega
theorem be_lt (s : ByteArray) (k : Nat) : beNat (s.data.toList.take k) < 256 ^ k := by
  unfold beNat
  refine Nat.lt_of_lt_of_le (leNat_lt _) (Nat.pow_le_pow_right (by omega) ?_)
  rw [List.length_reverse]; exact List.length_take_le _ _
theorem idx (s : ByteArray) (k : Nat) (h : k < s.size) : ∀ w, (Instr.index 9 (.string s) (.int .i64 (k : Int))).run Tryz.prog w = .ok (.int .u8 (s[k].toNat : Int)) w := by
  intro w
  rw [run_index_string w 9 s .i64 k Tryz.underlying9, dif_pos (by omega)]
  simp

theorem shl_u32 (b k : Nat) (hb : b < 256) (hk : k < 4) : IntKind.u32.wrap (IntKind.u32.wrap (b : Int) * 2 ^ (8 * k)) = ((b * 256 ^ k : Nat) : Int) := by
  have hc : k = 0 ∨ k = 1 ∨ k = 2 ∨ k = 3 := by omega
  rcases hc with rfl | rfl | rfl | rfl
  all_goals (simp only [IntKind.wrap_u32', Nat.reduceMul, Nat.reducePow, Int.reducePow]; omega)
theorem orLE_u32 (N b k : Nat) (hN : N < 256 ^ k) (hb : b < 256) (hk : k < 4) : bits .or .u32 (N : Int) (IntKind.u32.wrap (IntKind.u32.wrap (b : Int) * 2 ^ (8 * k))) = ((N + b * 256 ^ k : Nat) : Int) := by
  rw [shl_u32 b k hb hk]
  have hc : k = 0 ∨ k = 1 ∨ k = 2 ∨ k = 3 := by omega
  rcases hc with rfl | rfl | rfl | rfl
  all_goals (rw [u32_or_nat _ _ (by omega) (by omega), Nat.or_comm])
  · rw [nat_join 0 _ _ (by omega) (by omega), Nat.add_comm]
  · rw [nat_join 8 _ _ (by omega) (by omega), Nat.add_comm]
  · rw [nat_join 16 _ _ (by omega) (by omega), Nat.add_comm]
  · rw [nat_join 24 _ _ (by omega) (by omega), Nat.add_comm]
theorem orBE_u32 (M b k : Nat) (hM : M < 256 ^ k) (hb : b < 256) (hk : k < 4) : bits .or .u32 ((M * 256 ^ (4 - k) : Nat) : Int) (IntKind.u32.wrap (IntKind.u32.wrap (b : Int) * 2 ^ (8 * (3 - k)))) = (((M * 256 + b) * 256 ^ (4 - (k + 1)) : Nat) : Int) := by
  rw [shl_u32 b (3 - k) hb (by omega)]
  have hc : k = 0 ∨ k = 1 ∨ k = 2 ∨ k = 3 := by omega
  rcases hc with rfl | rfl | rfl | rfl
  all_goals simp only [Nat.reduceSub, Nat.reduceAdd]
  all_goals (rw [u32_or_nat _ _ (by omega) (by omega)])
  · rw [nat_join 32 _ _ (by omega) (by omega)]; omega
  · rw [nat_join 24 _ _ (by omega) (by omega)]; omega
  · rw [nat_join 16 _ _ (by omega) (by omega)]; omega
  · rw [nat_join 8 _ _ (by omega) (by omega)]; omega

theorem load4_little (s : ByteArray) (o : Int) (w : World) (ho : (o == 1) = false) (hs : 4 ≤ s.size) (hm : s.size ≤ maxLen) :
    Calls Tryz.prog 81 #[.string s, .int .i64 o] w fun e w' => e = .returned (.tuple #[.int .u64 (leNat (s.data.toList.take 4)), .int .i64 0]) ∧ Dr w w' := by
  unfold maxLen at hm
  go_enter Tryz.func81, Tryz.ntmps81
  go_wp2_with (go_at_call 94; refine (sizeOf32 _).mono ?_; rintro e w1 ⟨rfl, hw1⟩; subst w1)
  go_loopw [7, 15] (fun n i wx => ∃ k : Nat, k ≤ 4 ∧ i = .int .i64 k ∧ n = .int .u32 (leNat (s.data.toList.take k)) ∧ Dr w wx) (fun _ i _ => 4 - (intOf i).toNat)
  case atStart => exact ⟨0, Nat.zero_le _, rfl, rfl, Dr.refl _⟩
  case round =>
    obtain ⟨k, hk, rfl, rfl, hb⟩ := hrel
    by_cases hlt : k < 4
    · have hidx := idx s k (by omega)
      have HN : Hid (leNat (s.data.toList.take (k + 1)) = leNat (s.data.toList.take k) + s[k].toNat * 256 ^ k) := le_next s k (by omega)
      have HL : Hid (leNat (s.data.toList.take k) < 256 ^ k) := le_lt s k
      go_wp2_with fail
      go_quiet ((go_at_call 92; exact Calls.quiet_of_same (weight_little _ _ _ _ ho (by omega) (by omega) (by omega))))
      go_wp2
      go_roundw
      case rel =>
        refine ⟨k + 1, by omega, by go_num, int_eq_of ?_, hb.more _⟩
        rw [HN.out]; exact orLE_u32 _ _ k HL.out (u8_lt _) hlt
      case measure => simp [intOf]; omega
    · obtain rfl : k = 4 := by omega
      go_wp2
      go_ret2
      exact ⟨ret_pair (by have := le_lt s 4; first | rfl | (simp only [IntKind.wrap_u64]; omega)), hb⟩
theorem load4_big (s : ByteArray) (o : Int) (w : World) (ho : (o == 1) = true) (hs : 4 ≤ s.size) (hm : s.size ≤ maxLen) :
    Calls Tryz.prog 81 #[.string s, .int .i64 o] w fun e w' => e = .returned (.tuple #[.int .u64 (beNat (s.data.toList.take 4)), .int .i64 0]) ∧ Dr w w' := by
  unfold maxLen at hm
  go_enter Tryz.func81, Tryz.ntmps81
  go_wp2_with (go_at_call 94; refine (sizeOf32 _).mono ?_; rintro e w1 ⟨rfl, hw1⟩; subst w1)
  go_loopw [7, 15] (fun n i wx => ∃ k : Nat, k ≤ 4 ∧ i = .int .i64 k ∧ n = .int .u32 (beNat (s.data.toList.take k) * 256 ^ (4 - k) : Nat) ∧ Dr w wx) (fun _ i _ => 4 - (intOf i).toNat)
  case atStart => exact ⟨0, Nat.zero_le _, rfl, by simp [beNat, leNat], Dr.refl _⟩
  case round =>
    obtain ⟨k, hk, rfl, rfl, hb⟩ := hrel
    by_cases hlt : k < 4
    · have hidx := idx s k (by omega)
      have HN : Hid (beNat (s.data.toList.take (k + 1)) = beNat (s.data.toList.take k) * 256 + s[k].toNat) := be_next s k (by omega)
      have HL : Hid (beNat (s.data.toList.take k) < 256 ^ k) := be_lt s k
      go_wp2_with fail
      go_quiet ((go_at_call 92; exact Calls.quiet_of_same (weight_big _ _ _ _ ho (by omega) (by omega) (by omega))))
      go_wp2
      go_roundw
      case rel =>
        refine ⟨k + 1, by omega, by go_num, int_eq_of ?_, hb.more _⟩
        rw [HN.out]; exact orBE_u32 _ _ k HL.out (u8_lt _) hlt
      case measure => simp [intOf]; omega
    · obtain rfl : k = 4 := by omega
      go_wp2
      go_ret2
      exact ⟨ret_pair (by have := be_lt s 4; first | (simp only [Nat.sub_self, Nat.pow_zero, Nat.mul_one]; done) | (simp only [IntKind.wrap_u64]; omega)), hb⟩

theorem shl_u64 (b k : Nat) (hb : b < 256) (hk : k < 8) : IntKind.u64.wrap (IntKind.u64.wrap (b : Int) * 2 ^ (8 * k)) = ((b * 256 ^ k : Nat) : Int) := by
  have hc : k = 0 ∨ k = 1 ∨ k = 2 ∨ k = 3 ∨ k = 4 ∨ k = 5 ∨ k = 6 ∨ k = 7 := by omega
  rcases hc with rfl | rfl | rfl | rfl | rfl | rfl | rfl | rfl
  all_goals (simp only [IntKind.wrap_u64, Nat.reduceMul, Nat.reducePow, Int.reducePow]; omega)
theorem orLE_u64 (N b k : Nat) (hN : N < 256 ^ k) (hb : b < 256) (hk : k < 8) : bits .or .u64 (N : Int) (IntKind.u64.wrap (IntKind.u64.wrap (b : Int) * 2 ^ (8 * k))) = ((N + b * 256 ^ k : Nat) : Int) := by
  rw [shl_u64 b k hb hk]
  have hc : k = 0 ∨ k = 1 ∨ k = 2 ∨ k = 3 ∨ k = 4 ∨ k = 5 ∨ k = 6 ∨ k = 7 := by omega
  rcases hc with rfl | rfl | rfl | rfl | rfl | rfl | rfl | rfl
  all_goals (rw [u64_or_nat _ _ (by omega) (by omega), Nat.or_comm])
  · rw [nat_join 0 _ _ (by omega) (by omega), Nat.add_comm]
  · rw [nat_join 8 _ _ (by omega) (by omega), Nat.add_comm]
  · rw [nat_join 16 _ _ (by omega) (by omega), Nat.add_comm]
  · rw [nat_join 24 _ _ (by omega) (by omega), Nat.add_comm]
  · rw [nat_join 32 _ _ (by omega) (by omega), Nat.add_comm]
  · rw [nat_join 40 _ _ (by omega) (by omega), Nat.add_comm]
  · rw [nat_join 48 _ _ (by omega) (by omega), Nat.add_comm]
  · rw [nat_join 56 _ _ (by omega) (by omega), Nat.add_comm]
theorem orBE_u64 (M b k : Nat) (hM : M < 256 ^ k) (hb : b < 256) (hk : k < 8) : bits .or .u64 ((M * 256 ^ (8 - k) : Nat) : Int) (IntKind.u64.wrap (IntKind.u64.wrap (b : Int) * 2 ^ (8 * (7 - k)))) = (((M * 256 + b) * 256 ^ (8 - (k + 1)) : Nat) : Int) := by
  rw [shl_u64 b (7 - k) hb (by omega)]
  have hc : k = 0 ∨ k = 1 ∨ k = 2 ∨ k = 3 ∨ k = 4 ∨ k = 5 ∨ k = 6 ∨ k = 7 := by omega
  rcases hc with rfl | rfl | rfl | rfl | rfl | rfl | rfl | rfl
  all_goals simp only [Nat.reduceSub, Nat.reduceAdd]
  all_goals (rw [u64_or_nat _ _ (by omega) (by omega)])
  · rw [nat_join 64 _ _ (by omega) (by omega)]; omega
  · rw [nat_join 56 _ _ (by omega) (by omega)]; omega
  · rw [nat_join 48 _ _ (by omega) (by omega)]; omega
  · rw [nat_join 40 _ _ (by omega) (by omega)]; omega
  · rw [nat_join 32 _ _ (by omega) (by omega)]; omega
  · rw [nat_join 24 _ _ (by omega) (by omega)]; omega
  · rw [nat_join 16 _ _ (by omega) (by omega)]; omega
  · rw [nat_join 8 _ _ (by omega) (by omega)]; omega

theorem load8_big (s : ByteArray) (o : Int) (w : World) (ho : (o == 1) = true) (hs : 8 ≤ s.size) (hm : s.size ≤ maxLen) :
    Calls Tryz.prog 82 #[.string s, .int .i64 o] w fun e w' => e = .returned (.tuple #[.int .u64 (beNat (s.data.toList.take 8)), .int .i64 0]) ∧ Dr w w' := by
  unfold maxLen at hm
  go_enter Tryz.func82, Tryz.ntmps82
  go_wp2_with (go_at_call 95; refine (sizeOf64 _).mono ?_; rintro e w1 ⟨rfl, hw1⟩; subst w1)
  go_loopw [7, 15] (fun n i wx => ∃ k : Nat, k ≤ 8 ∧ i = .int .i64 k ∧ n = .int .u64 (beNat (s.data.toList.take k) * 256 ^ (8 - k) : Nat) ∧ Dr w wx) (fun _ i _ => 8 - (intOf i).toNat)
  case atStart => exact ⟨0, Nat.zero_le _, rfl, by simp [beNat, leNat], Dr.refl _⟩
  case round =>
    obtain ⟨k, hk, rfl, rfl, hb⟩ := hrel
    by_cases hlt : k < 8
    · have hidx := idx s k (by omega)
      have HN : Hid (beNat (s.data.toList.take (k + 1)) = beNat (s.data.toList.take k) * 256 + s[k].toNat) := be_next s k (by omega)
      have HL : Hid (beNat (s.data.toList.take k) < 256 ^ k) := be_lt s k
      go_wp2_with fail
      go_quiet ((go_at_call 92; exact Calls.quiet_of_same (weight_big _ _ _ _ ho (by omega) (by omega) (by omega))))
      go_wp2
      go_roundw
      case rel =>
        refine ⟨k + 1, by omega, by go_num, int_eq_of ?_, hb.more _⟩
        rw [HN.out]; exact orBE_u64 _ _ k HL.out (u8_lt _) hlt
      case measure => simp [intOf]; omega
    · obtain rfl : k = 8 := by omega
      go_wp2
      go_ret2
      exact ⟨ret_pair (by have := be_lt s 8; first | (simp only [Nat.sub_self, Nat.pow_zero, Nat.mul_one]; done) | (simp only [IntKind.wrap_u64]; omega)), hb⟩
end Go.Proofs.YtegjklllnegghaaGreatDoor
