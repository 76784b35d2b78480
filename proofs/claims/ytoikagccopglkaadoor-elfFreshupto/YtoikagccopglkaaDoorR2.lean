
-- The document's number, small, pick: contracts.
import Derived.Test.YtoikagccopglkaaDoorR1
import Derived.Test.YtoikagccopglkaaDoorH0
import Derived.LoopTactic
namespace Go.Proofs.YtoikagccopglkaaDoor
open Go.ChangeShapes Go.WideShapes Go.ChangeAt Go.RowKit
set_option linter.unusedVariables false
set_option maxRecDepth 100000
theorem pick_32 (x y : Int) (w : World) : Calls Tryd.prog 15 #[.int .i64 32, .int .i64 x, .int .i64 y] w fun r w' => r = .returned (.int .i64 x) ∧ w' = w := by
  go_enter Tryd.func15, Tryd.ntmps15
  go_wp2
  go_ret
  exact ⟨rfl, rfl⟩
theorem pick_64 (x y : Int) (w : World) : Calls Tryd.prog 15 #[.int .i64 64, .int .i64 x, .int .i64 y] w fun r w' => r = .returned (.int .i64 y) ∧ w' = w := by
  go_enter Tryd.func15, Tryd.ntmps15
  go_wp2
  go_ret
  exact ⟨rfl, rfl⟩
/-- the first k bytes that count most, as they are taken -/
def pre (b : ByteArray) (p n k : Nat) (o : Int) : Nat :=
  if o = 1 then beNat ((b.data.toList.drop p).take k) else beNat (((b.data.toList.drop p).take n).reverse.take k)
theorem beNat_snoc (l : List UInt8) (x : UInt8) : beNat (l ++ [x]) = beNat l * 256 + x.toNat := by
  unfold beNat
  rw [List.reverse_append, List.reverse_singleton, List.singleton_append, leNat]
  omega
theorem getD_toNat (b : ByteArray) (i : Nat) (h : i < b.size) : (b.data.toList[i]'(by simpa using h)).toNat = byt b i := by
  unfold byt
  rw [List.getD_eq_getElem?_getD, List.getElem?_eq_getElem (by simpa using h)]
  rfl
theorem pre_zero (b : ByteArray) (p n : Nat) (o : Int) : pre b p n 0 o = 0 := by
  unfold pre; split <;> rfl
theorem pre_all (b : ByteArray) (p n : Nat) (o : Int) (h : p + n ≤ b.size) : pre b p n n o = num b p n o := by
  have hl : b.data.toList.length = b.size := by simp
  unfold pre num
  split
  · rfl
  · rw [List.take_of_length_le (by rw [List.length_reverse, List.length_take, List.length_drop]; omega)]
    unfold beNat
    rw [List.reverse_reverse]
theorem pre_big (b : ByteArray) (p n k : Nat) (h : p + k < b.size) : pre b p n (k + 1) 1 = pre b p n k 1 * 256 + byt b (p + k) := by
  have hl : b.data.toList.length = b.size := by simp
  unfold pre
  rw [if_pos rfl, if_pos rfl, List.take_succ_eq_append_getElem (by rw [List.length_drop]; omega), beNat_snoc, List.getElem_drop]
  rw [getD_toNat b (p + k) h]
theorem pre_little (b : ByteArray) (p n k : Nat) (hk : k < n) (h : p + n ≤ b.size) : pre b p n (k + 1) 0 = pre b p n k 0 * 256 + byt b (p + n - 1 - k) := by
  have hl : b.data.toList.length = b.size := by simp
  unfold pre
  rw [if_neg (by decide), if_neg (by decide), List.take_succ_eq_append_getElem (by rw [List.length_reverse, List.length_take, List.length_drop]; omega), beNat_snoc, List.getElem_reverse, List.getElem_take, List.getElem_drop]
  have e : p + ((List.take n (List.drop p b.data.toList)).length - 1 - k) = p + n - 1 - k := by rw [List.length_take, List.length_drop]; omega
  simp only [e]
  rw [getD_toNat b (p + n - 1 - k) (by omega)]
theorem beNat_lt (l : List UInt8) : beNat l < 256 ^ l.length := by
  have := leNat_lt l.reverse
  rw [List.length_reverse] at this
  exact this
theorem pre_lt (b : ByteArray) (p n k : Nat) (o : Int) : pre b p n k o < 256 ^ k := by
  unfold pre
  split
  · exact Nat.lt_of_lt_of_le (beNat_lt _) (Nat.pow_le_pow_right (by omega) (List.length_take_le _ _))
  · exact Nat.lt_of_lt_of_le (beNat_lt _) (Nat.pow_le_pow_right (by omega) (List.length_take_le _ _))
theorem pow7 (k : Nat) (h : k ≤ 7) : 256 ^ k ≤ 72057594037927936 := by
  have : 256 ^ k ≤ 256 ^ 7 := Nat.pow_le_pow_right (by omega) h
  exact this
theorem int_eq' {k : IntKind} {a b : Int} (h : a = b) : Value.int k a = .int k b := by rw [h]
theorem rNumber_big (b : ByteArray) (p n : Nat) (w : World) (h : p + n ≤ b.size) (hn : n ≤ 8) (hm : b.size ≤ maxLen) :
    Calls Tryd.prog 26 #[.string b, .int .i64 p, .int .i64 n, .int .i64 1] w fun r w' => r = .returned (.int .u64 (num b p n 1)) ∧ w' = w := by
  unfold maxLen at hm
  go_enter Tryd.func26, Tryd.ntmps26
  go_wp2
  go_loopw [9, 10] (fun v i wx => ∃ k : Nat, k ≤ n ∧ i = .int .i64 k ∧ v = .int .u64 (pre b p n k 1) ∧ wx = w) (fun _ i _ => n - (intOf i).toNat)
  case atStart => exact ⟨0, Nat.zero_le _, rfl, by rw [pre_zero]; rfl, rfl⟩
  case round =>
    obtain ⟨k, hk, rfl, rfl, rfl⟩ := hrel
    by_cases hlt : k < n
    · have hV : pre b p n k 1 < 72057594037927936 := Nat.lt_of_lt_of_le (pre_lt b p n k 1) (pow7 k (by omega))
      have HN := Hid.mk' (pre_big b p n k (by omega))
      have HB := Hid.mk' (byt_lt b (p + k))
      have hidx : ∀ w : World, (Instr.index 9 (.string b) (.int .i64 ((p : Int) + (k : Int)))).run Tryd.prog w = .ok (.int .u8 (byt b (p + k))) w := idx_byt' b (p + k) (by omega)
      generalize pre b p n k 1 = V at hV HN
      generalize byt b (p + k) = y at hidx HN HB
      have hk3 : (k : Int) < (n : Int) := by omega
      go_wp2
      go_roundw
      case rel =>
        refine ⟨k + 1, by omega, by go_num, int_eq' ?_, trivial⟩
        have h1 := HN.out
        have h2 := HB.out
        simp only [IntKind.wrap_u64]
        omega
      case measure => simp [intOf]; omega
    · obtain rfl : k = n := by omega
      go_wp2
      go_ret
      exact ⟨by rw [pre_all b p k 1 h]; rfl, rfl⟩
theorem rNumber_little (b : ByteArray) (p n : Nat) (w : World) (h : p + n ≤ b.size) (hn : n ≤ 8) (hm : b.size ≤ maxLen) :
    Calls Tryd.prog 26 #[.string b, .int .i64 p, .int .i64 n, .int .i64 0] w fun r w' => r = .returned (.int .u64 (num b p n 0)) ∧ w' = w := by
  unfold maxLen at hm
  go_enter Tryd.func26, Tryd.ntmps26
  go_wp2
  go_loopw [9, 10] (fun v i wx => ∃ k : Nat, k ≤ n ∧ i = .int .i64 k ∧ v = .int .u64 (pre b p n k 0) ∧ wx = w) (fun _ i _ => n - (intOf i).toNat)
  case atStart => exact ⟨0, Nat.zero_le _, rfl, by rw [pre_zero]; rfl, rfl⟩
  case round =>
    obtain ⟨k, hk, rfl, rfl, rfl⟩ := hrel
    by_cases hlt : k < n
    · have hV : pre b p n k 0 < 72057594037927936 := Nat.lt_of_lt_of_le (pre_lt b p n k 0) (pow7 k (by omega))
      have HN := Hid.mk' (pre_little b p n k hlt h)
      have HB := Hid.mk' (byt_lt b (p + n - 1 - k))
      have hidx : ∀ w : World, (Instr.index 9 (.string b) (.int .i64 ((p : Int) + (n : Int) - 1 - (k : Int)))).run Tryd.prog w = .ok (.int .u8 (byt b (p + n - 1 - k))) w := fun w => by
        have h1 := idx_byt' b (p + n - 1 - k) (by omega) w
        rw [show ((p + n - 1 - k : Nat) : Int) = (p : Int) + n - 1 - k by omega] at h1
        exact h1
      generalize pre b p n k 0 = V at hV HN
      generalize byt b (p + n - 1 - k) = y at hidx HN HB
      have hk3 : (k : Int) < (n : Int) := by omega
      go_wp2
      go_roundw
      case rel =>
        refine ⟨k + 1, by omega, by go_num, int_eq' ?_, trivial⟩
        have h1 := HN.out
        have h2 := HB.out
        simp only [IntKind.wrap_u64]
        omega
      case measure => simp [intOf]; omega
    · obtain rfl : k = n := by omega
      go_wp2
      go_ret
      exact ⟨by rw [pre_all b p k 0 h]; rfl, rfl⟩
theorem rNumber_c (b : ByteArray) (p n : Nat) (o : Int) (w : World) (ho : o = 0 ∨ o = 1) (h : p + n ≤ b.size) (hn : n ≤ 8) (hm : b.size ≤ maxLen) :
    Calls Tryd.prog 26 #[.string b, .int .i64 p, .int .i64 n, .int .i64 o] w fun r w' => r = .returned (.int .u64 (num b p n o)) ∧ w' = w := by
  rcases ho with rfl | rfl
  · exact rNumber_little b p n w h hn hm
  · exact rNumber_big b p n w h hn hm
theorem rSmall_c (b : ByteArray) (p n : Nat) (o : Int) (w : World) (ho : o = 0 ∨ o = 1) (h : p + n ≤ b.size) (hn : n = 2 ∨ n = 4) (hm : b.size ≤ maxLen) :
    Calls Tryd.prog 25 #[.string b, .int .i64 p, .int .i64 n, .int .i64 o] w fun r w' => r = .returned (.int .i64 (num b p n o)) ∧ w' = w := by
  have hl : num b p n o < 4294967296 := by
    rcases hn with rfl | rfl
    · have := num_lt2 b p o; omega
    · exact num_lt4 b p o
  have HR := Hid.mk' (fun w => rNumber_c b p n o w ho h (by omega) hm)
  clear h hn hm ho
  generalize num b p n o = v at hl HR
  go_enter Tryd.func25, Tryd.ntmps25
  go_wp2_with (go_at_call 26; refine (HR.out _).mono ?_; rintro r w1 ⟨rfl, hw⟩; subst w1)
  go_ret
  refine ⟨?_, rfl⟩
  show Ending.returned (.int .i64 _) = _
  refine congrArg Ending.returned (int_eq' ?_)
  first | rfl | (unfold wrap64; omega)
end Go.Proofs.YtoikagccopglkaaDoor
