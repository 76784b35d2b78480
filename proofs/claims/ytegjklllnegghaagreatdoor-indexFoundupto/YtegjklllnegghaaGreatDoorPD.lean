
-- index.Decode: contracts.
import Derived.Test.YtegjklllnegghaaGreatDoorPP
import Derived.Test.YtegjklllnegghaaGreatDoorC4
namespace Go.Proofs.YtegjklllnegghaaGreatDoor
open Go.ChangeShapes Go.WideShapes Go.ChangeAt Go.RowKit
set_option linter.unusedVariables false
set_option maxRecDepth 100000
theorem own_leD {B B' : Nat} {w : World} {e : TypeId} {s k : Nat} {v : Value} {xs : List Value} (h : w.ownsRow B' e s v k xs) (hb : B ≤ B') : w.ownsRow B e s v k xs := by
  refine ⟨h.1, ?_⟩
  rcases h.2 with h2 | ⟨g, cap, cur, q1, q2, q⟩
  · exact .inl h2
  · exact .inr ⟨g, cap, cur, q1, Nat.le_trans hb q2, q⟩
set_option maxHeartbeats 2000000 in
theorem pdec_no (f : Int) (v : Value) (w : World) (hk : ¬ known f) :
    Calls Tryz.prog 15 #[.int .i64 f, v] w fun e w' => DecSays 101 [] w e w' := by
  have HC : Hid (∀ w, Calls Tryz.prog 19 #[.int .i64 f] w fun e w' => e = .returned (.tuple #[.agg ca0, .int .i64 101]) ∧ Below w.heap.size w w') := fun w => by
    have h := codecOf_c f w
    have e1 : codOf f = ca0 := by unfold codOf; rw [if_neg (fun q => hk (.inl q)), if_neg (fun q => hk (.inr (.inl q))), if_neg (fun q => hk (.inr (.inr q)))]
    have e2 : codE f = 101 := by unfold codE; rw [if_neg hk]
    rwa [e1, e2] at h
  clear hk
  go_enter Tryz.func15, Tryz.ntmps15
  go_wp2_with (first
    | (go_at_call 19; refine (HC.out _).mono ?_; rintro e w1 ⟨rfl, hb1⟩)
    | (refine wpList_store_kz rfl rfl _ _ _ rfl w1.heap.size 0 (.agg ca0) rfl rfl _ _ ca0 (heap_alloc_new _ _) (by kernel_rfl) rfl rfl rfl ?_; intro W2 R2 q2))
  go_ret2
  exact ⟨_, _, _, rfl, own_nilE _ _ _ _, q2.belowN (bupK hb1 _) hb1.size (Nat.le_refl _)⟩
set_option maxHeartbeats 2000000 in
theorem pdec_1n (L : List En) (s : ByteArray) (w : World) (hX : MaxLenAt w) (HR : Hid (∀ w, MaxLenAt w → Calls Tryz.prog 45 #[.agg ca1, .string s] w fun e w' => ∃ a n c, e = .returned (.tuple #[.slice a n c, .bool false]) ∧ w'.ownsRow w.heap.size 33 2 (.slice a n c) ([] : List En).length (cellsE []) ∧ Below w.heap.size w w')) :
    Calls Tryz.prog 15 #[.int .i64 1, .string s] w fun e w' => DecSays 110 [] w e w' := by
  have HC : Hid (∀ w, Calls Tryz.prog 19 #[.int .i64 1] w fun e w' => e = .returned (.tuple #[.agg ca1, .int .i64 0]) ∧ Below w.heap.size w w') := fun w => codecOf_c 1 w
  have HX := hidK hX
  clear hX
  go_enter Tryz.func15, Tryz.ntmps15
  go_wp2_with (first
    | (go_at_call 19; refine (HC.out _).mono ?_; rintro e w1 ⟨rfl, hb1⟩)
    | (refine wpList_store_kz rfl rfl _ _ _ rfl w1.heap.size 0 (.agg ca1) rfl rfl _ _ ca1 (heap_alloc_new _ _) (by kernel_rfl) rfl rfl rfl ?_; intro W2 R2 q2; have hB2 := q2.belowN (bupK hb1 _) hb1.size (Nat.le_refl _); have c6 := cell_rowK R2 6 (.func (.func 45) #[] #[]) rfl)
    | (refine wpList_load_row rfl _ _ rfl w1.heap.size rfl _ _ _ _ R2 Tryz.underlying52 rfl (by kernel_rfl) ?_)
    | (go_at_call 45; refine (HR.out _ (HX.out.on hB2)).mono ?_; rintro e w3 ⟨a, n, c, rfl, ho, hb3⟩))
  go_ret2
  exact ⟨_, _, _, rfl, own_nilE _ _ _ _, bel3K hB2 hb3⟩
set_option maxHeartbeats 2000000 in
theorem pdec_1s (L : List En) (s : ByteArray) (w : World) (hX : MaxLenAt w) (HR : Hid (∀ w, MaxLenAt w → Calls Tryz.prog 45 #[.agg ca1, .string s] w fun e w' => ∃ a n c, e = .returned (.tuple #[.slice a n c, .bool true]) ∧ w'.ownsRow w.heap.size 33 2 (.slice a n c) (L : List En).length (cellsE L) ∧ Below w.heap.size w w')) :
    Calls Tryz.prog 15 #[.int .i64 1, .string s] w fun e w' => DecSays 0 L w e w' := by
  have HC : Hid (∀ w, Calls Tryz.prog 19 #[.int .i64 1] w fun e w' => e = .returned (.tuple #[.agg ca1, .int .i64 0]) ∧ Below w.heap.size w w') := fun w => codecOf_c 1 w
  have HX := hidK hX
  clear hX
  go_enter Tryz.func15, Tryz.ntmps15
  go_wp2_with (first
    | (go_at_call 19; refine (HC.out _).mono ?_; rintro e w1 ⟨rfl, hb1⟩)
    | (refine wpList_store_kz rfl rfl _ _ _ rfl w1.heap.size 0 (.agg ca1) rfl rfl _ _ ca1 (heap_alloc_new _ _) (by kernel_rfl) rfl rfl rfl ?_; intro W2 R2 q2; have hB2 := q2.belowN (bupK hb1 _) hb1.size (Nat.le_refl _); have c6 := cell_rowK R2 6 (.func (.func 45) #[] #[]) rfl)
    | (refine wpList_load_row rfl _ _ rfl w1.heap.size rfl _ _ _ _ R2 Tryz.underlying52 rfl (by kernel_rfl) ?_)
    | (go_at_call 45; refine (HR.out _ (HX.out.on hB2)).mono ?_; rintro e w3 ⟨a, n, c, rfl, ho, hb3⟩))
  go_ret2
  exact ⟨_, _, _, rfl, own_leD ho hB2.size, bel3K hB2 hb3⟩
set_option maxHeartbeats 2000000 in
theorem pdec_2n (L : List En) (s : ByteArray) (w : World) (hX : MaxLenAt w) (HR : Hid (∀ w, MaxLenAt w → Calls Tryz.prog 45 #[.agg ca2, .string s] w fun e w' => ∃ a n c, e = .returned (.tuple #[.slice a n c, .bool false]) ∧ w'.ownsRow w.heap.size 33 2 (.slice a n c) ([] : List En).length (cellsE []) ∧ Below w.heap.size w w')) :
    Calls Tryz.prog 15 #[.int .i64 2, .string s] w fun e w' => DecSays 110 [] w e w' := by
  have HC : Hid (∀ w, Calls Tryz.prog 19 #[.int .i64 2] w fun e w' => e = .returned (.tuple #[.agg ca2, .int .i64 0]) ∧ Below w.heap.size w w') := fun w => codecOf_c 2 w
  have HX := hidK hX
  clear hX
  go_enter Tryz.func15, Tryz.ntmps15
  go_wp2_with (first
    | (go_at_call 19; refine (HC.out _).mono ?_; rintro e w1 ⟨rfl, hb1⟩)
    | (refine wpList_store_kz rfl rfl _ _ _ rfl w1.heap.size 0 (.agg ca2) rfl rfl _ _ ca2 (heap_alloc_new _ _) (by kernel_rfl) rfl rfl rfl ?_; intro W2 R2 q2; have hB2 := q2.belowN (bupK hb1 _) hb1.size (Nat.le_refl _); have c6 := cell_rowK R2 6 (.func (.func 45) #[] #[]) rfl)
    | (refine wpList_load_row rfl _ _ rfl w1.heap.size rfl _ _ _ _ R2 Tryz.underlying52 rfl (by kernel_rfl) ?_)
    | (go_at_call 45; refine (HR.out _ (HX.out.on hB2)).mono ?_; rintro e w3 ⟨a, n, c, rfl, ho, hb3⟩))
  go_ret2
  exact ⟨_, _, _, rfl, own_nilE _ _ _ _, bel3K hB2 hb3⟩
set_option maxHeartbeats 2000000 in
theorem pdec_2s (L : List En) (s : ByteArray) (w : World) (hX : MaxLenAt w) (HR : Hid (∀ w, MaxLenAt w → Calls Tryz.prog 45 #[.agg ca2, .string s] w fun e w' => ∃ a n c, e = .returned (.tuple #[.slice a n c, .bool true]) ∧ w'.ownsRow w.heap.size 33 2 (.slice a n c) (L : List En).length (cellsE L) ∧ Below w.heap.size w w')) :
    Calls Tryz.prog 15 #[.int .i64 2, .string s] w fun e w' => DecSays 0 L w e w' := by
  have HC : Hid (∀ w, Calls Tryz.prog 19 #[.int .i64 2] w fun e w' => e = .returned (.tuple #[.agg ca2, .int .i64 0]) ∧ Below w.heap.size w w') := fun w => codecOf_c 2 w
  have HX := hidK hX
  clear hX
  go_enter Tryz.func15, Tryz.ntmps15
  go_wp2_with (first
    | (go_at_call 19; refine (HC.out _).mono ?_; rintro e w1 ⟨rfl, hb1⟩)
    | (refine wpList_store_kz rfl rfl _ _ _ rfl w1.heap.size 0 (.agg ca2) rfl rfl _ _ ca2 (heap_alloc_new _ _) (by kernel_rfl) rfl rfl rfl ?_; intro W2 R2 q2; have hB2 := q2.belowN (bupK hb1 _) hb1.size (Nat.le_refl _); have c6 := cell_rowK R2 6 (.func (.func 45) #[] #[]) rfl)
    | (refine wpList_load_row rfl _ _ rfl w1.heap.size rfl _ _ _ _ R2 Tryz.underlying52 rfl (by kernel_rfl) ?_)
    | (go_at_call 45; refine (HR.out _ (HX.out.on hB2)).mono ?_; rintro e w3 ⟨a, n, c, rfl, ho, hb3⟩))
  go_ret2
  exact ⟨_, _, _, rfl, own_leD ho hB2.size, bel3K hB2 hb3⟩
set_option maxHeartbeats 2000000 in
theorem pdec_3n (L : List En) (s : ByteArray) (w : World) (hX : MaxLenAt w) (HR : Hid (∀ w, MaxLenAt w → Calls Tryz.prog 49 #[.agg ca3, .string s] w fun e w' => ∃ a n c, e = .returned (.tuple #[.slice a n c, .bool false]) ∧ w'.ownsRow w.heap.size 33 2 (.slice a n c) ([] : List En).length (cellsE []) ∧ Below w.heap.size w w')) :
    Calls Tryz.prog 15 #[.int .i64 3, .string s] w fun e w' => DecSays 110 [] w e w' := by
  have HC : Hid (∀ w, Calls Tryz.prog 19 #[.int .i64 3] w fun e w' => e = .returned (.tuple #[.agg ca3, .int .i64 0]) ∧ Below w.heap.size w w') := fun w => codecOf_c 3 w
  have HX := hidK hX
  clear hX
  go_enter Tryz.func15, Tryz.ntmps15
  go_wp2_with (first
    | (go_at_call 19; refine (HC.out _).mono ?_; rintro e w1 ⟨rfl, hb1⟩)
    | (refine wpList_store_kz rfl rfl _ _ _ rfl w1.heap.size 0 (.agg ca3) rfl rfl _ _ ca3 (heap_alloc_new _ _) (by kernel_rfl) rfl rfl rfl ?_; intro W2 R2 q2; have hB2 := q2.belowN (bupK hb1 _) hb1.size (Nat.le_refl _); have c6 := cell_rowK R2 6 (.func (.func 49) #[] #[]) rfl)
    | (refine wpList_load_row rfl _ _ rfl w1.heap.size rfl _ _ _ _ R2 Tryz.underlying52 rfl (by kernel_rfl) ?_)
    | (go_at_call 49; refine (HR.out _ (HX.out.on hB2)).mono ?_; rintro e w3 ⟨a, n, c, rfl, ho, hb3⟩))
  go_ret2
  exact ⟨_, _, _, rfl, own_nilE _ _ _ _, bel3K hB2 hb3⟩
set_option maxHeartbeats 2000000 in
theorem pdec_3s (L : List En) (s : ByteArray) (w : World) (hX : MaxLenAt w) (HR : Hid (∀ w, MaxLenAt w → Calls Tryz.prog 49 #[.agg ca3, .string s] w fun e w' => ∃ a n c, e = .returned (.tuple #[.slice a n c, .bool true]) ∧ w'.ownsRow w.heap.size 33 2 (.slice a n c) (L : List En).length (cellsE L) ∧ Below w.heap.size w w')) :
    Calls Tryz.prog 15 #[.int .i64 3, .string s] w fun e w' => DecSays 0 L w e w' := by
  have HC : Hid (∀ w, Calls Tryz.prog 19 #[.int .i64 3] w fun e w' => e = .returned (.tuple #[.agg ca3, .int .i64 0]) ∧ Below w.heap.size w w') := fun w => codecOf_c 3 w
  have HX := hidK hX
  clear hX
  go_enter Tryz.func15, Tryz.ntmps15
  go_wp2_with (first
    | (go_at_call 19; refine (HC.out _).mono ?_; rintro e w1 ⟨rfl, hb1⟩)
    | (refine wpList_store_kz rfl rfl _ _ _ rfl w1.heap.size 0 (.agg ca3) rfl rfl _ _ ca3 (heap_alloc_new _ _) (by kernel_rfl) rfl rfl rfl ?_; intro W2 R2 q2; have hB2 := q2.belowN (bupK hb1 _) hb1.size (Nat.le_refl _); have c6 := cell_rowK R2 6 (.func (.func 49) #[] #[]) rfl)
    | (refine wpList_load_row rfl _ _ rfl w1.heap.size rfl _ _ _ _ R2 Tryz.underlying52 rfl (by kernel_rfl) ?_)
    | (go_at_call 49; refine (HR.out _ (HX.out.on hB2)).mono ?_; rintro e w3 ⟨a, n, c, rfl, ho, hb3⟩))
  go_ret2
  exact ⟨_, _, _, rfl, own_leD ho hB2.size, bel3K hB2 hb3⟩
theorem decA_1 (b : List UInt8) : decA 1 b = rowA b 4 := by unfold decA; rw [if_pos rfl]
theorem decA_2 (b : List UInt8) : decA 2 b = rowA b 8 := by unfold decA; rw [if_neg (by decide), if_pos rfl]
theorem decA_3 (b : List UInt8) : decA 3 b = bsdA b := by unfold decA; rw [if_neg (by decide), if_neg (by decide), if_pos rfl]
theorem decA_no {f : Int} (b : List UInt8) (h : ¬ known f) : decA f b = none := by unfold decA; rw [if_neg (fun q => h (.inl q)), if_neg (fun q => h (.inr (.inl q))), if_neg (fun q => h (.inr (.inr q)))]
/-- what both Decodes say -/
def DSays (f : Int) (b : List UInt8) (w : World) (e : Ending) (w' : World) : Prop := DecSays (decE f b) (decL f b) w e w'
theorem DSays.no {f : Int} {b : List UInt8} {w w' : World} {e : Ending} (hk : ¬ known f) (h : DecSays 101 [] w e w') : DSays f b w e w' := by
  unfold DSays decE decL; rw [if_pos hk, decA_no b hk]; exact h
theorem DSays.ofA {f : Int} {b : List UInt8} {w w' : World} {e : Ending} {A : Option (List En)} (hk : known f) (hA : decA f b = A) (h : ASays A w e w') : DSays f b w e w' := by
  unfold DSays decE decL; rw [if_neg (fun q => q hk), hA]; exact h
theorem pdec_c (f : Int) (s : ByteArray) (w : World) (hm : s.size ≤ 67108864) (hX : MaxLenAt w) :
    Calls Tryz.prog 15 #[.int .i64 f, .string s] w fun e w' => DSays f s.data.toList w e w' := by
  by_cases hk : known f
  · rcases hk with rfl | rfl | rfl
    · have HR : ∀ w, MaxLenAt w → Calls Tryz.prog 45 #[.agg ca1, .string s] w fun e w' => RSays (rowA s.data.toList 4) w e w' := fun w hx => prow4_c s w hm hx
      cases hA : rowA s.data.toList 4 with
      | none => rw [hA] at HR; exact (pdec_1n [] s w hX HR).mono fun e w' h => DSays.ofA (by unfold known; decide) ((decA_1 _).trans hA) h
      | some L => rw [hA] at HR; exact (pdec_1s L s w hX HR).mono fun e w' h => DSays.ofA (by unfold known; decide) ((decA_1 _).trans hA) h
    · have HR : ∀ w, MaxLenAt w → Calls Tryz.prog 45 #[.agg ca2, .string s] w fun e w' => RSays (rowA s.data.toList 8) w e w' := fun w hx => prow8_c s w hm hx
      cases hA : rowA s.data.toList 8 with
      | none => rw [hA] at HR; exact (pdec_2n [] s w hX HR).mono fun e w' h => DSays.ofA (by unfold known; decide) ((decA_2 _).trans hA) h
      | some L => rw [hA] at HR; exact (pdec_2s L s w hX HR).mono fun e w' h => DSays.ofA (by unfold known; decide) ((decA_2 _).trans hA) h
    · have HR : ∀ w, MaxLenAt w → Calls Tryz.prog 49 #[.agg ca3, .string s] w fun e w' => RSays (bsdA s.data.toList) w e w' := fun w hx => ppairs_c s w hm
      cases hA : bsdA s.data.toList with
      | none => rw [hA] at HR; exact (pdec_3n [] s w hX HR).mono fun e w' h => DSays.ofA (by unfold known; decide) ((decA_3 _).trans hA) h
      | some L => rw [hA] at HR; exact (pdec_3s L s w hX HR).mono fun e w' h => DSays.ofA (by unfold known; decide) ((decA_3 _).trans hA) h
  · exact (pdec_no f _ w hk).mono fun e w' h => DSays.no hk h
end Go.Proofs.YtegjklllnegghaaGreatDoor
