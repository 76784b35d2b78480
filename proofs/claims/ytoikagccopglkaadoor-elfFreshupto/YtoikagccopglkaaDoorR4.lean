
-- The document's entry: contracts.
import Derived.Test.YtoikagccopglkaaDoorR3
namespace Go.Proofs.YtoikagccopglkaaDoor
open Go.ChangeShapes Go.WideShapes Go.ChangeAt Go.RowKit
set_option linter.unusedVariables false
set_option maxRecDepth 100000
set_option maxHeartbeats 1000000 in
theorem rEntry_32 (b : ByteArray) (p : Nat) (o e2 e3 e4 e5 e6 e7 : Int) (w : World) (hs : p + 40 ≤ b.size) (hm : b.size ≤ maxLen) (ho : o = 0 ∨ o = 1) :
    Calls Tryd.prog 17 #[.string b, .int .i64 p, .agg #[.int .i64 32, .int .i64 o, .int .i64 e2, .int .i64 e3, .int .u64 e4, .int .i64 e5, .int .i64 e6, .int .i64 e7]] w fun r w' => r = .returned (.agg #[.int .i64 (numI b (p : Int) 4 o), .int .i64 (numI b ((p : Int) + 4) 4 o), .int .u64 (numI b ((p : Int) + 8) 4 o), .int .i64 (numI b ((p : Int) + 24) 4 o), .int .i64 (numI b ((p : Int) + 28) 4 o), .int .u64 (numI b ((p : Int) + 16) 4 o), .int .u64 (numI b ((p : Int) + 20) 4 o), .int .u64 (numI b ((p : Int) + 36) 4 o)]) ∧ Below w.heap.size w w' := by
  have HS : Hid (∀ (w : World) (q n : Int), ((p : Int) ≤ q ∧ (n = 2 ∨ n = 4) ∧ q + n ≤ (p : Int) + 40) → Calls Tryd.prog 25 #[.string b, .int .i64 q, .int .i64 n, .int .i64 o] w fun r w' => r = .returned (.int .i64 (numI b q n o)) ∧ w' = w) := by
    intro w q n hc
    obtain ⟨A, rfl⟩ := Int.eq_ofNat_of_zero_le (show 0 ≤ q by omega)
    obtain ⟨N, rfl⟩ := Int.eq_ofNat_of_zero_le (show 0 ≤ n by omega)
    exact rSmall_c b A N o w ho (by omega) (by omega) hm
  have HN : Hid (∀ (w : World) (q n : Int), ((p : Int) ≤ q ∧ 0 ≤ n ∧ n ≤ 8 ∧ q + n ≤ (p : Int) + 40) → Calls Tryd.prog 26 #[.string b, .int .i64 q, .int .i64 n, .int .i64 o] w fun r w' => r = .returned (.int .u64 (numI b q n o)) ∧ w' = w) := by
    intro w q n hc
    obtain ⟨A, rfl⟩ := Int.eq_ofNat_of_zero_le (show 0 ≤ q by omega)
    obtain ⟨N, rfl⟩ := Int.eq_ofNat_of_zero_le hc.2.1
    exact rNumber_c b A N o w ho (by omega) (by omega) hm
  have hp2 : (p : Int) + 40 ≤ 9223372036854775807 := by unfold maxLen at hm; omega
  clear hs hm ho
  go_enter Tryd.func17, Tryd.ntmps17
  go_wp2_with (first
    | (go_at_call 25; refine (HS.out _ _ _ (by omega)).mono ?_; rintro e w1 ⟨rfl, hw⟩; subst w1)
    | (go_at_call 26; refine (HN.out _ _ _ (by omega)).mono ?_; rintro e w1 ⟨rfl, hw⟩; subst w1)
    | (go_at_call 15; refine (pick_32 _ _ _).mono ?_; rintro e w1 ⟨rfl, hw⟩; subst w1))
  exact bodyPost_ret (results_cell_row rfl _ _ (w.heap.size + 1) _ _ _ _ rfl ((Below.heap_alloc _ _ _ (by rw [size_alloc, size_alloc]; omega)).trans (heap_alloc2_new w _ _)) Tryd.underlying48 rfl (by kernel_rfl)) rfl ⟨rfl, Below.alloc (Below.alloc (Below.alloc (Below.refl _ _) (Nat.le_refl _) _) (by rw [size_alloc]; omega) _) (by rw [size_alloc, size_alloc]; omega) _⟩
set_option maxHeartbeats 1000000 in
theorem rEntry_64 (b : ByteArray) (p : Nat) (o e2 e3 e4 e5 e6 e7 : Int) (w : World) (hs : p + 64 ≤ b.size) (hm : b.size ≤ maxLen) (ho : o = 0 ∨ o = 1) :
    Calls Tryd.prog 17 #[.string b, .int .i64 p, .agg #[.int .i64 64, .int .i64 o, .int .i64 e2, .int .i64 e3, .int .u64 e4, .int .i64 e5, .int .i64 e6, .int .i64 e7]] w fun r w' => r = .returned (.agg #[.int .i64 (numI b (p : Int) 4 o), .int .i64 (numI b ((p : Int) + 4) 4 o), .int .u64 (numI b ((p : Int) + 8) 8 o), .int .i64 (numI b ((p : Int) + 40) 4 o), .int .i64 (numI b ((p : Int) + 44) 4 o), .int .u64 (numI b ((p : Int) + 24) 8 o), .int .u64 (numI b ((p : Int) + 32) 8 o), .int .u64 (numI b ((p : Int) + 56) 8 o)]) ∧ Below w.heap.size w w' := by
  have HS : Hid (∀ (w : World) (q n : Int), ((p : Int) ≤ q ∧ (n = 2 ∨ n = 4) ∧ q + n ≤ (p : Int) + 64) → Calls Tryd.prog 25 #[.string b, .int .i64 q, .int .i64 n, .int .i64 o] w fun r w' => r = .returned (.int .i64 (numI b q n o)) ∧ w' = w) := by
    intro w q n hc
    obtain ⟨A, rfl⟩ := Int.eq_ofNat_of_zero_le (show 0 ≤ q by omega)
    obtain ⟨N, rfl⟩ := Int.eq_ofNat_of_zero_le (show 0 ≤ n by omega)
    exact rSmall_c b A N o w ho (by omega) (by omega) hm
  have HN : Hid (∀ (w : World) (q n : Int), ((p : Int) ≤ q ∧ 0 ≤ n ∧ n ≤ 8 ∧ q + n ≤ (p : Int) + 64) → Calls Tryd.prog 26 #[.string b, .int .i64 q, .int .i64 n, .int .i64 o] w fun r w' => r = .returned (.int .u64 (numI b q n o)) ∧ w' = w) := by
    intro w q n hc
    obtain ⟨A, rfl⟩ := Int.eq_ofNat_of_zero_le (show 0 ≤ q by omega)
    obtain ⟨N, rfl⟩ := Int.eq_ofNat_of_zero_le hc.2.1
    exact rNumber_c b A N o w ho (by omega) (by omega) hm
  have hp2 : (p : Int) + 64 ≤ 9223372036854775807 := by unfold maxLen at hm; omega
  clear hs hm ho
  go_enter Tryd.func17, Tryd.ntmps17
  go_wp2_with (first
    | (go_at_call 25; refine (HS.out _ _ _ (by omega)).mono ?_; rintro e w1 ⟨rfl, hw⟩; subst w1)
    | (go_at_call 26; refine (HN.out _ _ _ (by omega)).mono ?_; rintro e w1 ⟨rfl, hw⟩; subst w1)
    | (go_at_call 15; refine (pick_64 _ _ _).mono ?_; rintro e w1 ⟨rfl, hw⟩; subst w1))
  exact bodyPost_ret (results_cell_row rfl _ _ (w.heap.size + 1) _ _ _ _ rfl ((Below.heap_alloc _ _ _ (by rw [size_alloc, size_alloc]; omega)).trans (heap_alloc2_new w _ _)) Tryd.underlying48 rfl (by kernel_rfl)) rfl ⟨rfl, Below.alloc (Below.alloc (Below.alloc (Below.refl _ _) (Nat.le_refl _) _) (by rw [size_alloc]; omega) _) (by rw [size_alloc, size_alloc]; omega) _⟩
end Go.Proofs.YtoikagccopglkaaDoor
