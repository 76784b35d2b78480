-- shelfref1.Load and shelfref1.shape: contracts.
import Derived.Test.YtfjmjgnifbgneaaLoad
namespace Go.Proofs.Ytfjmjgnifbgneaa
open Go.ChangeShapes Go.WideShapes Go.ChangeAt Go.RowKit
set_option linter.unusedVariables false

theorem shape_ok (k o : Int) (w : World) (hk : k = 1 ∨ k = 2 ∨ k = 4 ∨ k = 8) (ho : o = 0 ∨ o = 1) :
    Calls Try.prog 25 #[.int .i64 k, .int .i64 o] w fun e w' => e = .returned (.bool true) ∧ w' = w := by
  rcases hk with rfl | rfl | rfl | rfl <;> rcases ho with rfl | rfl
  all_goals
    go_enter Try.func25, Try.ntmps25
    go_wp2
    go_ret
    exact ⟨rfl, rfl⟩
theorem shape_no_size (k o : Int) (w : World) (k1 : (k == 1) = false) (k2 : (k == 2) = false) (k4 : (k == 4) = false) (k8 : (k == 8) = false) :
    Calls Try.prog 25 #[.int .i64 k, .int .i64 o] w fun e w' => e = .returned (.bool false) ∧ w' = w := by
  go_enter Try.func25, Try.ntmps25
  go_wp2
  go_ret
  exact ⟨rfl, rfl⟩
theorem shape_no_order (k o : Int) (w : World) (h0 : (o == 0) = false) (h1 : (o == 1) = false) :
    Calls Try.prog 25 #[.int .i64 k, .int .i64 o] w fun e w' => e = .returned (.bool false) ∧ w' = w := by
  by_cases hk : k = 1 ∨ k = 2 ∨ k = 4 ∨ k = 8
  · rcases hk with rfl | rfl | rfl | rfl
    all_goals
      go_enter Try.func25, Try.ntmps25
      go_wp2
      go_ret
      exact ⟨rfl, rfl⟩
  · exact shape_no_size k o w (by simp; omega) (by simp; omega) (by simp; omega) (by simp; omega)

def worthAt (k : Nat) : Nat := 256 ^ k % 18446744073709551616
-- a sum's next step in 64 bits
theorem sum_step (N b k : Nat) (hN : N < 256 ^ k) (hb : b < 256) (hk : k < 8) :
    IntKind.u64.wrap ((N : Int) + IntKind.u64.wrap (IntKind.u64.wrap (b : Int) * (worthAt k : Int))) = ((N + b * 256 ^ k : Nat) : Int) := by
  have hc : k = 0 ∨ k = 1 ∨ k = 2 ∨ k = 3 ∨ k = 4 ∨ k = 5 ∨ k = 6 ∨ k = 7 := by omega
  rcases hc with rfl | rfl | rfl | rfl | rfl | rfl | rfl | rfl
  all_goals (simp only [worthAt, IntKind.wrap_u64, Nat.reducePow, Nat.reduceMod]; omega)
theorem worth_step (k : Nat) (hk : k < 8) : IntKind.u64.wrap ((worthAt k : Int) * 256) = (worthAt (k + 1) : Int) := by
  have hc : k = 0 ∨ k = 1 ∨ k = 2 ∨ k = 3 ∨ k = 4 ∨ k = 5 ∨ k = 6 ∨ k = 7 := by omega
  rcases hc with rfl | rfl | rfl | rfl | rfl | rfl | rfl | rfl
  all_goals (simp only [worthAt, IntKind.wrap_u64, Nat.reducePow, Nat.reduceMod, Nat.reduceAdd]; omega)
theorem le_list_next (l : List UInt8) (k : Nat) (h : k < l.length) : leNat (l.take (k + 1)) = leNat (l.take k) + l[k].toNat * 256 ^ k := by
  rw [List.take_succ_eq_append_getElem h, leNat_append, List.length_take, Nat.min_eq_left (by omega)]
  simp only [leNat, Nat.mul_zero, Nat.add_zero]
  rw [Nat.mul_comm]
theorem le_list_lt (l : List UInt8) (k : Nat) : leNat (l.take k) < 256 ^ k :=
  Nat.lt_of_lt_of_le (leNat_lt _) (Nat.pow_le_pow_right (by omega) (List.length_take_le _ _))

theorem ref_load_little (s : ByteArray) (a K : Nat) (w : World) (hk : (K : Int) = 1 ∨ (K : Int) = 2 ∨ (K : Int) = 4 ∨ (K : Int) = 8) (ha : a + K ≤ s.size) (hm : s.size ≤ maxLen) (L : List UInt8) (hL : L.length = K) (hat : ∀ i (h : i < K), ∃ h1 h2, s[a + i]'h1 = L[i]'h2) :
    Calls Try.prog 15 #[.string s, .int .i64 a, .int .i64 K, .int .i64 0] w fun e w' => e = .returned (.tuple #[.int .u64 (leNat L), .int .i64 0]) ∧ Below w.heap.size w w' := by
  unfold maxLen at hm
  have HL : Hid (L.length = K) := hL
  have HA : Hid (∀ i (h : i < K), ∃ h1 h2, s[a + i]'h1 = L[i]'h2) := hat
  have HK : Hid ((K : Int) = 1 ∨ (K : Int) = 2 ∨ (K : Int) = 4 ∨ (K : Int) = 8) := hk
  have k0 : (1 : Int) ≤ K := by omega
  have k8 : (K : Int) ≤ 8 := by omega
  have b1 : decide ((a : Int) < 0) = false := by simp
  have b2 : decide (s.size < K) = false := by simp; omega
  have b3 : decide ((s.size : Int) - K < a) = false := by simp; omega
  clear hL hat hk
  go_enter Try.func15, Try.ntmps15
  go_wp2_with (go_at_call 25; refine (shape_ok _ _ _ HK.out (Or.inl rfl)).mono ?_; rintro e w1 ⟨rfl, hw1⟩; subst w1)
  go_loopw [11, 12, 13] (fun v t i wx => ∃ k : Nat, k ≤ K ∧ i = .int .i64 k ∧ v = .int .u64 (leNat (L.take k)) ∧ t = .int .u64 (worthAt k) ∧ Below w.heap.size w wx) (fun _ _ i _ => K - (intOf i).toNat)
  case atStart => exact ⟨0, Nat.zero_le _, rfl, rfl, rfl, Below.refl _ _⟩
  case round =>
    obtain ⟨k, hk, rfl, rfl, rfl, hb⟩ := hrel
    by_cases hlt : k < K
    · obtain ⟨h1, h2, e⟩ := HA.out k hlt
      have HE : Hid (s[a + k] = L[k]) := e
      have HN : Hid (leNat (L.take (k + 1)) = leNat (L.take k) + L[k].toNat * 256 ^ k) := le_list_next L k h2
      have HB : Hid (leNat (L.take k) < 256 ^ k) := le_list_lt L k
      clear e
      go_wp2
      go_roundw
      case rel =>
        refine ⟨k + 1, by omega, by go_num, int_eq_of ?_, int_eq_of (worth_step k (by omega)), hb⟩
        rw [HN.out, HE.out]; exact sum_step _ _ k HB.out (u8_lt _) (by omega)
      case measure => simp [intOf]; omega
    · obtain rfl : k = K := by omega
      go_wp2
      go_ret2
      exact ⟨ret_pair (by rw [List.take_of_length_le (Nat.le_of_eq HL.out)]), hb⟩

theorem ref_load_big (s : ByteArray) (a K : Nat) (w : World) (hk : (K : Int) = 1 ∨ (K : Int) = 2 ∨ (K : Int) = 4 ∨ (K : Int) = 8) (ha : a + K ≤ s.size) (hm : s.size ≤ maxLen) (L : List UInt8) (hL : L.length = K) (hat : ∀ i (h : i < K), ∃ h1 h2, s[a + K - 1 - i]'h1 = L[i]'h2) :
    Calls Try.prog 15 #[.string s, .int .i64 a, .int .i64 K, .int .i64 1] w fun e w' => e = .returned (.tuple #[.int .u64 (leNat L), .int .i64 0]) ∧ Below w.heap.size w w' := by
  unfold maxLen at hm
  have HL : Hid (L.length = K) := hL
  have HA : Hid (∀ i (h : i < K), ∃ h1 h2, s[a + K - 1 - i]'h1 = L[i]'h2) := hat
  have HK : Hid ((K : Int) = 1 ∨ (K : Int) = 2 ∨ (K : Int) = 4 ∨ (K : Int) = 8) := hk
  have k0 : (1 : Int) ≤ K := by omega
  have k8 : (K : Int) ≤ 8 := by omega
  have b1 : decide ((a : Int) < 0) = false := by simp
  have b2 : decide (s.size < K) = false := by simp; omega
  have b3 : decide ((s.size : Int) - K < a) = false := by simp; omega
  clear hL hat hk
  go_enter Try.func15, Try.ntmps15
  go_wp2_with (go_at_call 25; refine (shape_ok _ _ _ HK.out (Or.inr rfl)).mono ?_; rintro e w1 ⟨rfl, hw1⟩; subst w1)
  go_loopw [11, 12, 13] (fun v t i wx => ∃ k : Nat, k ≤ K ∧ i = .int .i64 k ∧ v = .int .u64 (leNat (L.take k)) ∧ t = .int .u64 (worthAt k) ∧ Below w.heap.size w wx) (fun _ _ i _ => K - (intOf i).toNat)
  case atStart => exact ⟨0, Nat.zero_le _, rfl, rfl, rfl, Below.refl _ _⟩
  case round =>
    obtain ⟨k, hk, rfl, rfl, rfl, hb⟩ := hrel
    by_cases hlt : k < K
    · obtain ⟨h1, h2, e⟩ := HA.out k hlt
      have HE : Hid (s[a + K - 1 - k] = L[k]) := e
      have HN : Hid (leNat (L.take (k + 1)) = leNat (L.take k) + L[k].toNat * 256 ^ k) := le_list_next L k h2
      have HB : Hid (leNat (L.take k) < 256 ^ k) := le_list_lt L k
      clear e
      have hz : (((a : Int) + K - 1 - k).toNat) = a + K - 1 - k := by omega
      go_wp2
      go_roundw
      case rel =>
        refine ⟨k + 1, by omega, by go_num, int_eq_of ?_, int_eq_of (worth_step k (by omega)), hb⟩
        rw [HN.out, HE.out]; exact sum_step _ _ k HB.out (u8_lt _) (by omega)
      case measure => simp [intOf]; omega
    · obtain rfl : k = K := by omega
      go_wp2
      go_ret2
      exact ⟨ret_pair (by rw [List.take_of_length_le (Nat.le_of_eq HL.out)]), hb⟩

theorem ref_load_shape (s : ByteArray) (a k o : Int) (w : World) (h : ((k == 1) = false ∧ (k == 2) = false ∧ (k == 4) = false ∧ (k == 8) = false) ∨ ((o == 0) = false ∧ (o == 1) = false)) :
    Calls Try.prog 15 #[.string s, .int .i64 a, .int .i64 k, .int .i64 o] w fun e w' => e = .returned (.tuple #[.int .u64 0, .int .i64 12]) ∧ Below w.heap.size w w' := by
  have H : Hid (∀ w, Calls Try.prog 25 #[.int .i64 k, .int .i64 o] w fun e w' => e = .returned (.bool false) ∧ w' = w) := by
    intro w
    rcases h with ⟨k1, k2, k4, k8⟩ | ⟨h0, h1⟩
    · exact shape_no_size k o w k1 k2 k4 k8
    · exact shape_no_order k o w h0 h1
  clear h
  go_enter Try.func15, Try.ntmps15
  go_wp2_with (go_at_call 25; refine (H.out _).mono ?_; rintro e w1 ⟨rfl, hw1⟩; subst w1)
  go_ret2
  exact ⟨rfl, Below.refl _ _⟩
theorem ref_load_place (s : ByteArray) (a k o : Int) (w : World) (hk : k = 1 ∨ k = 2 ∨ k = 4 ∨ k = 8) (ho : o = 0 ∨ o = 1) (ha : a < 0 ∨ (s.size : Int) < a + k) (hm : s.size ≤ maxLen) (hb : -9223372036854775808 ≤ a ∧ a ≤ 9223372036854775807) :
    Calls Try.prog 15 #[.string s, .int .i64 a, .int .i64 k, .int .i64 o] w fun e w' => e = .returned (.tuple #[.int .u64 0, .int .i64 12]) ∧ Below w.heap.size w w' := by
  unfold maxLen at hm
  have H : Hid (∀ w, Calls Try.prog 25 #[.int .i64 k, .int .i64 o] w fun e w' => e = .returned (.bool true) ∧ w' = w) := by
    intro w
    exact shape_ok k o w hk ho
  have k0 : (1 : Int) ≤ k := by omega
  have k8 : k ≤ 8 := by omega
  clear hk ho
  by_cases hneg : a < 0
  · have b1 : decide (a < 0) = true := by simp; omega
    go_enter Try.func15, Try.ntmps15
    go_wp2_with (go_at_call 25; refine (H.out _).mono ?_; rintro e w1 ⟨rfl, hw1⟩; subst w1)
    go_ret2
    exact ⟨rfl, Below.refl _ _⟩
  · have b1 : decide (a < 0) = false := by simp; omega
    have hp : (s.size : Int) < a + k := by omega
    clear ha hneg
    by_cases hs : (s.size : Int) < k
    · have b2 : decide ((s.size : Int) < k) = true := by simp; omega
      go_enter Try.func15, Try.ntmps15
      go_wp2_with (go_at_call 25; refine (H.out _).mono ?_; rintro e w1 ⟨rfl, hw1⟩; subst w1)
      go_ret2
      exact ⟨rfl, Below.refl _ _⟩
    · have b2 : decide ((s.size : Int) < k) = false := by simp; omega
      have b3 : decide ((s.size : Int) - k < a) = true := by simp; omega
      go_enter Try.func15, Try.ntmps15
      go_wp2_with (go_at_call 25; refine (H.out _).mono ?_; rintro e w1 ⟨rfl, hw1⟩; subst w1)
      go_ret2
      exact ⟨rfl, Below.refl _ _⟩
end Go.Proofs.Ytfjmjgnifbgneaa
