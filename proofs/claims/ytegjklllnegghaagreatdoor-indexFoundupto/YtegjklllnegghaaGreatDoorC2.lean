
-- index.codecOf: a contract.
import Derived.Test.YtegjklllnegghaaGreatDoorC1
namespace Go.Proofs.YtegjklllnegghaaGreatDoor
open Go.ChangeShapes Go.WideShapes Go.ChangeAt Go.RowKit
set_option linter.unusedVariables false
set_option maxRecDepth 100000
def codE (f : Int) : Int := if known f then 0 else 101
set_option maxHeartbeats 2000000 in
theorem codecOf_c (f : Int) (w : World) : Calls Tryz.prog 19 #[.int .i64 f] w fun e w' => e = .returned (.tuple #[.agg (codOf f), .int .i64 (codE f)]) ∧ Below w.heap.size w w' := by
  have HC := codecs_c
  have i0 := ix_0
  have i1 := ix_1
  have i2 := ix_2
  go_enter Tryz.func19, Tryz.ntmps19
  go_wp2_with (go_at_call 31; refine (HC _).mono ?_; rintro e w1 ⟨rfl, hb1⟩)
  have R1 := hkeepK hb1 (heap_alloc_new w _)
  have hb1 := bel3K (bupK (Below.refl _ _) _) hb1
  go_loopw [7] (fun i wx => ∃ k : Nat, k ≤ 3 ∧ i = .int .i64 k ∧ (∀ j : Nat, j < k → f ≠ (j : Int) + 1) ∧ wx.heap[w.heap.size]? = some (.cells ca0 52 (0, 0)) ∧ Below w.heap.size w wx) (fun i _ => 3 - (intOf i).toNat)
  case atStart => exact ⟨0, by omega, rfl, fun j hj => absurd hj (Nat.not_lt_zero _), R1, hb1⟩
  case round =>
    obtain ⟨k, hk, rfl, hj, R, hb⟩ := hrel
    have hlt := (Array.getElem?_eq_some_iff.1 R).1
    rcases (show k = 0 ∨ k = 1 ∨ k = 2 ∨ k = 3 by omega) with rfl | rfl | rfl | rfl
    · by_cases hf : f = 1
      · subst hf
        clear hj
        go_wp2_with (first
          | (refine wpList_store_kz rfl rfl _ _ _ rfl _ 0 (.agg ca1) rfl rfl _ _ ca1 (heap_alloc_new _ _) (by kernel_rfl) rfl rfl rfl ?_; intro W2 R2 q2; have c0 := cell_rowK R2 0 (.int .i64 1) rfl; have S2 := q2.keeps (Nat.ne_of_lt hlt) (hupK R _))
          | (refine wpList_store_kz rfl rfl _ _ _ rfl w.heap.size 0 (.agg ca1) rfl rfl _ _ ca1 S2 (by kernel_rfl) rfl rfl rfl ?_; intro W3 R3 q3)
          | (refine wpList_load_row rfl _ _ rfl _ rfl _ _ _ _ R2 Tryz.underlying52 rfl (by kernel_rfl) ?_))
        refine bodyPost_ret (results_cell_tmp_rowC rfl _ _ w.heap.size _ _ _ _ _ rfl rfl R3 Tryz.underlying52 rfl (by kernel_rfl)) rfl ?_
        exact ⟨rfl, q3.belowN (q2.belowN (bupK hb _) (Nat.le_of_lt hlt) (Nat.le_refl _)) (Nat.le_refl _) (Nat.le_refl _)⟩
      · have e1 : ((1 : Int) == f) = false := by simp; omega
        have HN : Hid (¬ f = 1) := hf
        have HJ : Hid (∀ j : Nat, j < 0 → f ≠ (j : Int) + 1) := hj
        clear hf hj
        go_wp2_with (first
          | (refine wpList_store_kz rfl rfl _ _ _ rfl _ 0 (.agg ca1) rfl rfl _ _ ca1 (heap_alloc_new _ _) (by kernel_rfl) rfl rfl rfl ?_; intro W2 R2 q2; have c0 := cell_rowK R2 0 (.int .i64 1) rfl; have S2 := q2.keeps (Nat.ne_of_lt hlt) (hupK R _)))
        go_roundw
        case rel =>
          refine ⟨1, by omega, rfl, fun j hj => ?_, S2, q2.belowN (bupK hb _) (Nat.le_of_lt hlt) (Nat.le_refl _)⟩
          have h1 := HN.out
          by_cases e : j < 0
          · exact HJ.out j e
          · have : j = 0 := by omega
            subst this; simpa using h1
        case measure => simp [intOf]
    · by_cases hf : f = 2
      · subst hf
        clear hj
        go_wp2_with (first
          | (refine wpList_store_kz rfl rfl _ _ _ rfl _ 0 (.agg ca2) rfl rfl _ _ ca2 (heap_alloc_new _ _) (by kernel_rfl) rfl rfl rfl ?_; intro W2 R2 q2; have c0 := cell_rowK R2 0 (.int .i64 2) rfl; have S2 := q2.keeps (Nat.ne_of_lt hlt) (hupK R _))
          | (refine wpList_store_kz rfl rfl _ _ _ rfl w.heap.size 0 (.agg ca2) rfl rfl _ _ ca2 S2 (by kernel_rfl) rfl rfl rfl ?_; intro W3 R3 q3)
          | (refine wpList_load_row rfl _ _ rfl _ rfl _ _ _ _ R2 Tryz.underlying52 rfl (by kernel_rfl) ?_))
        refine bodyPost_ret (results_cell_tmp_rowC rfl _ _ w.heap.size _ _ _ _ _ rfl rfl R3 Tryz.underlying52 rfl (by kernel_rfl)) rfl ?_
        exact ⟨rfl, q3.belowN (q2.belowN (bupK hb _) (Nat.le_of_lt hlt) (Nat.le_refl _)) (Nat.le_refl _) (Nat.le_refl _)⟩
      · have e1 : ((2 : Int) == f) = false := by simp; omega
        have HN : Hid (¬ f = 2) := hf
        have HJ : Hid (∀ j : Nat, j < 1 → f ≠ (j : Int) + 1) := hj
        clear hf hj
        go_wp2_with (first
          | (refine wpList_store_kz rfl rfl _ _ _ rfl _ 0 (.agg ca2) rfl rfl _ _ ca2 (heap_alloc_new _ _) (by kernel_rfl) rfl rfl rfl ?_; intro W2 R2 q2; have c0 := cell_rowK R2 0 (.int .i64 2) rfl; have S2 := q2.keeps (Nat.ne_of_lt hlt) (hupK R _)))
        go_roundw
        case rel =>
          refine ⟨2, by omega, rfl, fun j hj => ?_, S2, q2.belowN (bupK hb _) (Nat.le_of_lt hlt) (Nat.le_refl _)⟩
          have h1 := HN.out
          by_cases e : j < 1
          · exact HJ.out j e
          · have : j = 1 := by omega
            subst this; simpa using h1
        case measure => simp [intOf]
    · by_cases hf : f = 3
      · subst hf
        clear hj
        go_wp2_with (first
          | (refine wpList_store_kz rfl rfl _ _ _ rfl _ 0 (.agg ca3) rfl rfl _ _ ca3 (heap_alloc_new _ _) (by kernel_rfl) rfl rfl rfl ?_; intro W2 R2 q2; have c0 := cell_rowK R2 0 (.int .i64 3) rfl; have S2 := q2.keeps (Nat.ne_of_lt hlt) (hupK R _))
          | (refine wpList_store_kz rfl rfl _ _ _ rfl w.heap.size 0 (.agg ca3) rfl rfl _ _ ca3 S2 (by kernel_rfl) rfl rfl rfl ?_; intro W3 R3 q3)
          | (refine wpList_load_row rfl _ _ rfl _ rfl _ _ _ _ R2 Tryz.underlying52 rfl (by kernel_rfl) ?_))
        refine bodyPost_ret (results_cell_tmp_rowC rfl _ _ w.heap.size _ _ _ _ _ rfl rfl R3 Tryz.underlying52 rfl (by kernel_rfl)) rfl ?_
        exact ⟨rfl, q3.belowN (q2.belowN (bupK hb _) (Nat.le_of_lt hlt) (Nat.le_refl _)) (Nat.le_refl _) (Nat.le_refl _)⟩
      · have e1 : ((3 : Int) == f) = false := by simp; omega
        have HN : Hid (¬ f = 3) := hf
        have HJ : Hid (∀ j : Nat, j < 2 → f ≠ (j : Int) + 1) := hj
        clear hf hj
        go_wp2_with (first
          | (refine wpList_store_kz rfl rfl _ _ _ rfl _ 0 (.agg ca3) rfl rfl _ _ ca3 (heap_alloc_new _ _) (by kernel_rfl) rfl rfl rfl ?_; intro W2 R2 q2; have c0 := cell_rowK R2 0 (.int .i64 3) rfl; have S2 := q2.keeps (Nat.ne_of_lt hlt) (hupK R _)))
        go_roundw
        case rel =>
          refine ⟨3, by omega, rfl, fun j hj => ?_, S2, q2.belowN (bupK hb _) (Nat.le_of_lt hlt) (Nat.le_refl _)⟩
          have h1 := HN.out
          by_cases e : j < 2
          · exact HJ.out j e
          · have : j = 2 := by omega
            subst this; simpa using h1
        case measure => simp [intOf]
    · have h1 := hj 0 (by omega)
      have h2 := hj 1 (by omega)
      have h3 := hj 2 (by omega)
      have HE : Hid (codOf f = ca0 ∧ codE f = 101) := by
        simp at h1 h2 h3
        refine ⟨?_, if_neg (by unfold known; omega)⟩
        unfold codOf; rw [if_neg (by omega), if_neg (by omega), if_neg (by omega)]
      clear h1 h2 h3 hj
      go_wp2_with (refine wpList_store_kz rfl rfl _ _ _ rfl w.heap.size 0 (.agg ca0) rfl rfl _ _ ca0 R (by kernel_rfl) rfl rfl rfl ?_; intro W3 R3 q3)
      refine bodyPost_ret (results_cell_tmp_rowC rfl _ _ w.heap.size _ _ _ _ _ rfl rfl R3 Tryz.underlying52 rfl (by kernel_rfl)) rfl ?_
      exact ⟨by rw [HE.out.1, HE.out.2]; rfl, q3.belowN hb (Nat.le_refl _) (Nat.le_refl _)⟩
end Go.Proofs.YtegjklllnegghaaGreatDoor
