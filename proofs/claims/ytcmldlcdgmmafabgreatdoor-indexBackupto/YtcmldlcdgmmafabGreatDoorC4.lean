
-- index: lengths, Size: contracts.
import Derived.Test.YtcmldlcdgmmafabGreatDoorC3
namespace Go.Proofs.YtcmldlcdgmmafabGreatDoor
open Go.ChangeShapes Go.WideShapes Go.ChangeAt Go.RowKit
set_option linter.unusedVariables false
set_option maxRecDepth 100000
theorem rowLen1_c (n t : Nat) (w : World) (h1 : n < 1099511627776) (h2 : t < 1099511627776) :
    Calls Tryz.prog 38 #[.agg ca1, .agg #[.int .i64 n, .int .i64 t]] w fun e w' => e = .returned (.int .i64 (headN 1 n + t : Nat)) ∧ Below w.heap.size w w' := by
  have HE : Hid (headN 1 n + t = 4 * (1 + n) + t) := by show _ = _; unfold headN; simp; omega
  unfold ca1
  go_enter Tryz.func38, Tryz.ntmps38
  go_wp2
  go_ret
  exact ⟨by rw [HE.out]; simp, bupK (bupK (Below.refl _ _) _) _⟩
theorem rowLen2_c (n t : Nat) (w : World) (h1 : n < 1099511627776) (h2 : t < 1099511627776) :
    Calls Tryz.prog 38 #[.agg ca2, .agg #[.int .i64 n, .int .i64 t]] w fun e w' => e = .returned (.int .i64 (headN 2 n + t : Nat)) ∧ Below w.heap.size w w' := by
  have HE : Hid (headN 2 n + t = 8 * (1 + n) + t) := by show _ = _; unfold headN; simp; omega
  unfold ca2
  go_enter Tryz.func38, Tryz.ntmps38
  go_wp2
  go_ret
  exact ⟨by rw [HE.out]; simp, bupK (bupK (Below.refl _ _) _) _⟩
theorem pairsLen_c (n t : Nat) (w : World) (h1 : n < 1099511627776) (h2 : t < 1099511627776) :
    Calls Tryz.prog 42 #[.agg ca3, .agg #[.int .i64 n, .int .i64 t]] w fun e w' => e = .returned (.int .i64 (headN 3 n + t : Nat)) ∧ Below w.heap.size w w' := by
  have HE : Hid (headN 3 n + t = 4 * (2 + 2 * n) + t) := by show _ = _; unfold headN; simp; omega
  unfold ca3
  go_enter Tryz.func42, Tryz.ntmps42
  go_wp2
  go_ret
  exact ⟨by rw [HE.out]; simp, bupK (bupK (Below.refl _ _) _) _⟩
theorem RowS.on {w w' : World} {v : Value} {l : List ByteArray} (h : RowS w v l) (hb : Below w.heap.size w w') : RowS w' v l := by
  rcases h with h | ⟨b, off, cap, rfl, hc⟩
  · exact .inl h
  · exact .inr ⟨b, off, cap, rfl, fun j hj => (hb.cell (p := ⟨b, off + j, none⟩) (World.block_lt_of_cell? _ _ (hc j hj))).trans (hc j hj)⟩
theorem sizeA_no {f : Int} (L : List ByteArray) (h : ¬ known f) : sizeA f L = (0, 101) := by unfold sizeA; rw [if_pos h]
theorem sizeA_bad {f : Int} {L : List ByteArray} (h : known f) (hg : goodAll L = false) : sizeA f L = (0, 80) := by unfold sizeA; rw [if_neg (fun q => q h), hg]; rfl
theorem sizeA_ok {f : Int} {L : List ByteArray} (h : known f) (hg : goodAll L = true) : sizeA f L = (((headN f L.length + evenN (totN L) : Nat) : Int), (0 : Int)) := by unfold sizeA; rw [if_neg (fun q => q h), if_pos hg]
theorem zrow_cod (w : World) : (w.alloc (.cells ca0 51)).heap[w.heap.size]? = some (.cells ca0 51 (0, 0)) := heap_alloc_new w _
set_option maxHeartbeats 2000000 in
theorem psize_no (f : Int) (v : Value) (w : World) (hk : ¬ known f) :
    Calls Tryz.prog 14 #[.int .i64 f, v] w fun e w' => e = .returned (.tuple #[.int .i64 0, .int .i64 101]) ∧ Below w.heap.size w w' := by
  have HC : Hid (∀ w, Calls Tryz.prog 17 #[.int .i64 f] w fun e w' => e = .returned (.tuple #[.agg ca0, .int .i64 101]) ∧ Below w.heap.size w w') := fun w => by
    have h := codecOf_c f w
    have e1 : codOf f = ca0 := by unfold codOf; rw [if_neg (fun q => hk (.inl q)), if_neg (fun q => hk (.inr (.inl q))), if_neg (fun q => hk (.inr (.inr q)))]
    have e2 : codE f = 101 := by unfold codE; rw [if_neg hk]
    rwa [e1, e2] at h
  clear hk
  go_enter Tryz.func14, Tryz.ntmps14
  go_wp2_with (first
    | (go_at_call 17; refine (HC.out _).mono ?_; rintro e w1 ⟨rfl, hb1⟩)
    | (refine wpList_store_kz rfl rfl _ _ _ rfl w1.heap.size 0 (.agg ca0) rfl rfl _ _ ca0 (heap_alloc_new _ _) (by kernel_rfl) rfl rfl rfl ?_; intro W2 R2 q2))
  go_ret2
  exact ⟨rfl, q2.belowN (bupK hb1 _) hb1.size (Nat.le_refl _)⟩
set_option maxHeartbeats 2000000 in
theorem psize_1 (v : Value) (L : List ByteArray) (w : World) (hv : RowS w v L) (ht : totN L < 1099511627775) (hg : goodAll L = true) :
    Calls Tryz.prog 14 #[.int .i64 1, v] w fun e w' => e = .returned (.tuple #[.int .i64 (headN 1 L.length + evenN (totN L) : Nat), .int .i64 0]) ∧ Below w.heap.size w w' := by
  have HC : Hid (∀ w, Calls Tryz.prog 17 #[.int .i64 1] w fun e w' => e = .returned (.tuple #[.agg ca1, .int .i64 0]) ∧ Below w.heap.size w w') := fun w => codecOf_c 1 w
  have HM : Hid (∀ w, RowS w v L → Calls Tryz.prog 19 #[v] w fun e w' => e = .returned (.tuple #[.agg #[.int .i64 L.length, .int .i64 (evenN (totN L) : Nat)], .int .i64 0]) ∧ Below w.heap.size w w') := fun w hv => by
    have h := measure_c v L w hv (by omega)
    have e : measA L = (L.length, evenN (totN L), 0) := by unfold measA; rw [hg]; rfl
    rwa [e] at h
  have hl := totN_len L
  have he : evenN (totN L) < 1099511627776 := by unfold evenN; omega
  have HL : Hid (∀ w, Calls Tryz.prog 38 #[.agg ca1, .agg #[.int .i64 L.length, .int .i64 (evenN (totN L) : Nat)]] w fun e w' => e = .returned (.int .i64 (headN 1 L.length + evenN (totN L) : Nat)) ∧ Below w.heap.size w w') := fun w => rowLen1_c _ _ w (by omega) he
  generalize headN 1 L.length + evenN (totN L) = R at *
  generalize evenN (totN L) = ev at *
  generalize L.length = n at *
  have HV : Hid (RowS w v L) := hv
  clear hv hg ht
  go_enter Tryz.func14, Tryz.ntmps14
  go_wp2_with (first
    | (go_at_call 17; refine (HC.out _).mono ?_; rintro e w1 ⟨rfl, hb1⟩)
    | (go_at_call 19; refine (HM.out _ (HV.out.on hB2)).mono ?_; rintro e w3 ⟨rfl, hb3⟩; have hB3 := bel3K hB2 hb3; have R3 := hkeepK hb3 R2; have l3 := (Array.getElem?_eq_some_iff.1 R3).1)
    | (go_at_call 38; refine (HL.out _).mono ?_; rintro e w5 ⟨rfl, hb5⟩)
    | (refine wpList_load_row rfl _ _ rfl w1.heap.size rfl _ _ _ _ R4 Tryz.underlying51 rfl (by kernel_rfl) ?_)
    | (refine wpList_load_row rfl _ _ rfl w3.heap.size rfl _ _ _ _ S4 Tryz.underlying55 rfl (by kernel_rfl) ?_)
    | (refine wpList_store_kz rfl rfl _ _ _ rfl w1.heap.size 0 (.agg ca1) rfl rfl _ _ ca1 (heap_alloc_new _ _) (by kernel_rfl) rfl rfl rfl ?_; intro W2 R2 q2; have hB2 := q2.belowN (bupK hb1 _) hb1.size (Nat.le_refl _))
    | (refine wpList_store_kz rfl rfl _ _ _ rfl w3.heap.size 0 (.agg #[.int .i64 n, .int .i64 ev]) rfl rfl _ _ #[.int .i64 n, .int .i64 ev] (heap_alloc_new _ _) (by kernel_rfl) rfl rfl rfl ?_; intro W4 S4 q4; have hB4 := q4.belowN (bupK hB3 _) hB3.size (Nat.le_refl _); have R4 := q4.keeps (Nat.ne_of_lt l3) (hupK R3 _); have c3 := cell_rowK R4 3 (.func (.func 38) #[] #[]) rfl))
  go_ret2
  exact ⟨rfl, bel3K hB4 hb5⟩
set_option maxHeartbeats 2000000 in
theorem psize_1b (v : Value) (L : List ByteArray) (w : World) (hv : RowS w v L) (ht : totN L < 1099511627775) (hg : goodAll L = false) :
    Calls Tryz.prog 14 #[.int .i64 1, v] w fun e w' => e = .returned (.tuple #[.int .i64 0, .int .i64 80]) ∧ Below w.heap.size w w' := by
  have HC : Hid (∀ w, Calls Tryz.prog 17 #[.int .i64 1] w fun e w' => e = .returned (.tuple #[.agg ca1, .int .i64 0]) ∧ Below w.heap.size w w') := fun w => codecOf_c 1 w
  have HM : Hid (∀ w, RowS w v L → Calls Tryz.prog 19 #[v] w fun e w' => e = .returned (.tuple #[.agg #[.int .i64 (0 : Nat), .int .i64 (0 : Nat)], .int .i64 80]) ∧ Below w.heap.size w w') := fun w hv => by
    have h := measure_c v L w hv (by omega)
    have e : measA L = (0, 0, 80) := by unfold measA; rw [hg]; rfl
    rwa [e] at h
  have HV : Hid (RowS w v L) := hv
  clear hv hg ht
  go_enter Tryz.func14, Tryz.ntmps14
  go_wp2_with (first
    | (go_at_call 17; refine (HC.out _).mono ?_; rintro e w1 ⟨rfl, hb1⟩)
    | (go_at_call 19; refine (HM.out _ (HV.out.on hB2)).mono ?_; rintro e w3 ⟨rfl, hb3⟩; have hB3 := bel3K hB2 hb3; have R3 := hkeepK hb3 R2; have l3 := (Array.getElem?_eq_some_iff.1 R3).1)
    | (refine wpList_store_kz rfl rfl _ _ _ rfl w1.heap.size 0 (.agg ca1) rfl rfl _ _ ca1 (heap_alloc_new _ _) (by kernel_rfl) rfl rfl rfl ?_; intro W2 R2 q2; have hB2 := q2.belowN (bupK hb1 _) hb1.size (Nat.le_refl _))
    | (refine wpList_store_kz rfl rfl _ _ _ rfl w3.heap.size 0 (.agg #[.int .i64 (0 : Nat), .int .i64 (0 : Nat)]) rfl rfl _ _ #[.int .i64 (0 : Nat), .int .i64 (0 : Nat)] (heap_alloc_new _ _) (by kernel_rfl) rfl rfl rfl ?_; intro W4 S4 q4; have hB4 := q4.belowN (bupK hB3 _) hB3.size (Nat.le_refl _)))
  go_ret2
  exact ⟨rfl, hB4⟩
set_option maxHeartbeats 2000000 in
theorem psize_2 (v : Value) (L : List ByteArray) (w : World) (hv : RowS w v L) (ht : totN L < 1099511627775) (hg : goodAll L = true) :
    Calls Tryz.prog 14 #[.int .i64 2, v] w fun e w' => e = .returned (.tuple #[.int .i64 (headN 2 L.length + evenN (totN L) : Nat), .int .i64 0]) ∧ Below w.heap.size w w' := by
  have HC : Hid (∀ w, Calls Tryz.prog 17 #[.int .i64 2] w fun e w' => e = .returned (.tuple #[.agg ca2, .int .i64 0]) ∧ Below w.heap.size w w') := fun w => codecOf_c 2 w
  have HM : Hid (∀ w, RowS w v L → Calls Tryz.prog 19 #[v] w fun e w' => e = .returned (.tuple #[.agg #[.int .i64 L.length, .int .i64 (evenN (totN L) : Nat)], .int .i64 0]) ∧ Below w.heap.size w w') := fun w hv => by
    have h := measure_c v L w hv (by omega)
    have e : measA L = (L.length, evenN (totN L), 0) := by unfold measA; rw [hg]; rfl
    rwa [e] at h
  have hl := totN_len L
  have he : evenN (totN L) < 1099511627776 := by unfold evenN; omega
  have HL : Hid (∀ w, Calls Tryz.prog 38 #[.agg ca2, .agg #[.int .i64 L.length, .int .i64 (evenN (totN L) : Nat)]] w fun e w' => e = .returned (.int .i64 (headN 2 L.length + evenN (totN L) : Nat)) ∧ Below w.heap.size w w') := fun w => rowLen2_c _ _ w (by omega) he
  generalize headN 2 L.length + evenN (totN L) = R at *
  generalize evenN (totN L) = ev at *
  generalize L.length = n at *
  have HV : Hid (RowS w v L) := hv
  clear hv hg ht
  go_enter Tryz.func14, Tryz.ntmps14
  go_wp2_with (first
    | (go_at_call 17; refine (HC.out _).mono ?_; rintro e w1 ⟨rfl, hb1⟩)
    | (go_at_call 19; refine (HM.out _ (HV.out.on hB2)).mono ?_; rintro e w3 ⟨rfl, hb3⟩; have hB3 := bel3K hB2 hb3; have R3 := hkeepK hb3 R2; have l3 := (Array.getElem?_eq_some_iff.1 R3).1)
    | (go_at_call 38; refine (HL.out _).mono ?_; rintro e w5 ⟨rfl, hb5⟩)
    | (refine wpList_load_row rfl _ _ rfl w1.heap.size rfl _ _ _ _ R4 Tryz.underlying51 rfl (by kernel_rfl) ?_)
    | (refine wpList_load_row rfl _ _ rfl w3.heap.size rfl _ _ _ _ S4 Tryz.underlying55 rfl (by kernel_rfl) ?_)
    | (refine wpList_store_kz rfl rfl _ _ _ rfl w1.heap.size 0 (.agg ca2) rfl rfl _ _ ca2 (heap_alloc_new _ _) (by kernel_rfl) rfl rfl rfl ?_; intro W2 R2 q2; have hB2 := q2.belowN (bupK hb1 _) hb1.size (Nat.le_refl _))
    | (refine wpList_store_kz rfl rfl _ _ _ rfl w3.heap.size 0 (.agg #[.int .i64 n, .int .i64 ev]) rfl rfl _ _ #[.int .i64 n, .int .i64 ev] (heap_alloc_new _ _) (by kernel_rfl) rfl rfl rfl ?_; intro W4 S4 q4; have hB4 := q4.belowN (bupK hB3 _) hB3.size (Nat.le_refl _); have R4 := q4.keeps (Nat.ne_of_lt l3) (hupK R3 _); have c3 := cell_rowK R4 3 (.func (.func 38) #[] #[]) rfl))
  go_ret2
  exact ⟨rfl, bel3K hB4 hb5⟩
set_option maxHeartbeats 2000000 in
theorem psize_2b (v : Value) (L : List ByteArray) (w : World) (hv : RowS w v L) (ht : totN L < 1099511627775) (hg : goodAll L = false) :
    Calls Tryz.prog 14 #[.int .i64 2, v] w fun e w' => e = .returned (.tuple #[.int .i64 0, .int .i64 80]) ∧ Below w.heap.size w w' := by
  have HC : Hid (∀ w, Calls Tryz.prog 17 #[.int .i64 2] w fun e w' => e = .returned (.tuple #[.agg ca2, .int .i64 0]) ∧ Below w.heap.size w w') := fun w => codecOf_c 2 w
  have HM : Hid (∀ w, RowS w v L → Calls Tryz.prog 19 #[v] w fun e w' => e = .returned (.tuple #[.agg #[.int .i64 (0 : Nat), .int .i64 (0 : Nat)], .int .i64 80]) ∧ Below w.heap.size w w') := fun w hv => by
    have h := measure_c v L w hv (by omega)
    have e : measA L = (0, 0, 80) := by unfold measA; rw [hg]; rfl
    rwa [e] at h
  have HV : Hid (RowS w v L) := hv
  clear hv hg ht
  go_enter Tryz.func14, Tryz.ntmps14
  go_wp2_with (first
    | (go_at_call 17; refine (HC.out _).mono ?_; rintro e w1 ⟨rfl, hb1⟩)
    | (go_at_call 19; refine (HM.out _ (HV.out.on hB2)).mono ?_; rintro e w3 ⟨rfl, hb3⟩; have hB3 := bel3K hB2 hb3; have R3 := hkeepK hb3 R2; have l3 := (Array.getElem?_eq_some_iff.1 R3).1)
    | (refine wpList_store_kz rfl rfl _ _ _ rfl w1.heap.size 0 (.agg ca2) rfl rfl _ _ ca2 (heap_alloc_new _ _) (by kernel_rfl) rfl rfl rfl ?_; intro W2 R2 q2; have hB2 := q2.belowN (bupK hb1 _) hb1.size (Nat.le_refl _))
    | (refine wpList_store_kz rfl rfl _ _ _ rfl w3.heap.size 0 (.agg #[.int .i64 (0 : Nat), .int .i64 (0 : Nat)]) rfl rfl _ _ #[.int .i64 (0 : Nat), .int .i64 (0 : Nat)] (heap_alloc_new _ _) (by kernel_rfl) rfl rfl rfl ?_; intro W4 S4 q4; have hB4 := q4.belowN (bupK hB3 _) hB3.size (Nat.le_refl _)))
  go_ret2
  exact ⟨rfl, hB4⟩
set_option maxHeartbeats 2000000 in
theorem psize_3 (v : Value) (L : List ByteArray) (w : World) (hv : RowS w v L) (ht : totN L < 1099511627775) (hg : goodAll L = true) :
    Calls Tryz.prog 14 #[.int .i64 3, v] w fun e w' => e = .returned (.tuple #[.int .i64 (headN 3 L.length + evenN (totN L) : Nat), .int .i64 0]) ∧ Below w.heap.size w w' := by
  have HC : Hid (∀ w, Calls Tryz.prog 17 #[.int .i64 3] w fun e w' => e = .returned (.tuple #[.agg ca3, .int .i64 0]) ∧ Below w.heap.size w w') := fun w => codecOf_c 3 w
  have HM : Hid (∀ w, RowS w v L → Calls Tryz.prog 19 #[v] w fun e w' => e = .returned (.tuple #[.agg #[.int .i64 L.length, .int .i64 (evenN (totN L) : Nat)], .int .i64 0]) ∧ Below w.heap.size w w') := fun w hv => by
    have h := measure_c v L w hv (by omega)
    have e : measA L = (L.length, evenN (totN L), 0) := by unfold measA; rw [hg]; rfl
    rwa [e] at h
  have hl := totN_len L
  have he : evenN (totN L) < 1099511627776 := by unfold evenN; omega
  have HL : Hid (∀ w, Calls Tryz.prog 42 #[.agg ca3, .agg #[.int .i64 L.length, .int .i64 (evenN (totN L) : Nat)]] w fun e w' => e = .returned (.int .i64 (headN 3 L.length + evenN (totN L) : Nat)) ∧ Below w.heap.size w w') := fun w => pairsLen_c _ _ w (by omega) he
  generalize headN 3 L.length + evenN (totN L) = R at *
  generalize evenN (totN L) = ev at *
  generalize L.length = n at *
  have HV : Hid (RowS w v L) := hv
  clear hv hg ht
  go_enter Tryz.func14, Tryz.ntmps14
  go_wp2_with (first
    | (go_at_call 17; refine (HC.out _).mono ?_; rintro e w1 ⟨rfl, hb1⟩)
    | (go_at_call 19; refine (HM.out _ (HV.out.on hB2)).mono ?_; rintro e w3 ⟨rfl, hb3⟩; have hB3 := bel3K hB2 hb3; have R3 := hkeepK hb3 R2; have l3 := (Array.getElem?_eq_some_iff.1 R3).1)
    | (go_at_call 42; refine (HL.out _).mono ?_; rintro e w5 ⟨rfl, hb5⟩)
    | (refine wpList_load_row rfl _ _ rfl w1.heap.size rfl _ _ _ _ R4 Tryz.underlying51 rfl (by kernel_rfl) ?_)
    | (refine wpList_load_row rfl _ _ rfl w3.heap.size rfl _ _ _ _ S4 Tryz.underlying55 rfl (by kernel_rfl) ?_)
    | (refine wpList_store_kz rfl rfl _ _ _ rfl w1.heap.size 0 (.agg ca3) rfl rfl _ _ ca3 (heap_alloc_new _ _) (by kernel_rfl) rfl rfl rfl ?_; intro W2 R2 q2; have hB2 := q2.belowN (bupK hb1 _) hb1.size (Nat.le_refl _))
    | (refine wpList_store_kz rfl rfl _ _ _ rfl w3.heap.size 0 (.agg #[.int .i64 n, .int .i64 ev]) rfl rfl _ _ #[.int .i64 n, .int .i64 ev] (heap_alloc_new _ _) (by kernel_rfl) rfl rfl rfl ?_; intro W4 S4 q4; have hB4 := q4.belowN (bupK hB3 _) hB3.size (Nat.le_refl _); have R4 := q4.keeps (Nat.ne_of_lt l3) (hupK R3 _); have c3 := cell_rowK R4 3 (.func (.func 42) #[] #[]) rfl))
  go_ret2
  exact ⟨rfl, bel3K hB4 hb5⟩
set_option maxHeartbeats 2000000 in
theorem psize_3b (v : Value) (L : List ByteArray) (w : World) (hv : RowS w v L) (ht : totN L < 1099511627775) (hg : goodAll L = false) :
    Calls Tryz.prog 14 #[.int .i64 3, v] w fun e w' => e = .returned (.tuple #[.int .i64 0, .int .i64 80]) ∧ Below w.heap.size w w' := by
  have HC : Hid (∀ w, Calls Tryz.prog 17 #[.int .i64 3] w fun e w' => e = .returned (.tuple #[.agg ca3, .int .i64 0]) ∧ Below w.heap.size w w') := fun w => codecOf_c 3 w
  have HM : Hid (∀ w, RowS w v L → Calls Tryz.prog 19 #[v] w fun e w' => e = .returned (.tuple #[.agg #[.int .i64 (0 : Nat), .int .i64 (0 : Nat)], .int .i64 80]) ∧ Below w.heap.size w w') := fun w hv => by
    have h := measure_c v L w hv (by omega)
    have e : measA L = (0, 0, 80) := by unfold measA; rw [hg]; rfl
    rwa [e] at h
  have HV : Hid (RowS w v L) := hv
  clear hv hg ht
  go_enter Tryz.func14, Tryz.ntmps14
  go_wp2_with (first
    | (go_at_call 17; refine (HC.out _).mono ?_; rintro e w1 ⟨rfl, hb1⟩)
    | (go_at_call 19; refine (HM.out _ (HV.out.on hB2)).mono ?_; rintro e w3 ⟨rfl, hb3⟩; have hB3 := bel3K hB2 hb3; have R3 := hkeepK hb3 R2; have l3 := (Array.getElem?_eq_some_iff.1 R3).1)
    | (refine wpList_store_kz rfl rfl _ _ _ rfl w1.heap.size 0 (.agg ca3) rfl rfl _ _ ca3 (heap_alloc_new _ _) (by kernel_rfl) rfl rfl rfl ?_; intro W2 R2 q2; have hB2 := q2.belowN (bupK hb1 _) hb1.size (Nat.le_refl _))
    | (refine wpList_store_kz rfl rfl _ _ _ rfl w3.heap.size 0 (.agg #[.int .i64 (0 : Nat), .int .i64 (0 : Nat)]) rfl rfl _ _ #[.int .i64 (0 : Nat), .int .i64 (0 : Nat)] (heap_alloc_new _ _) (by kernel_rfl) rfl rfl rfl ?_; intro W4 S4 q4; have hB4 := q4.belowN (bupK hB3 _) hB3.size (Nat.le_refl _)))
  go_ret2
  exact ⟨rfl, hB4⟩
theorem psize_c (f : Int) (v : Value) (L : List ByteArray) (w : World) (hv : RowS w v L) (ht : totN L < 1099511627775) :
    Calls Tryz.prog 14 #[.int .i64 f, v] w fun e w' => e = .returned (.tuple #[.int .i64 (sizeA f L).1, .int .i64 (sizeA f L).2]) ∧ Below w.heap.size w w' := by
  by_cases hk : known f
  · cases hg : goodAll L
    · rw [sizeA_bad hk hg]
      rcases hk with rfl | rfl | rfl
      · exact psize_1b v L w hv ht hg
      · exact psize_2b v L w hv ht hg
      · exact psize_3b v L w hv ht hg
    · rw [sizeA_ok hk hg]
      rcases hk with rfl | rfl | rfl
      · exact psize_1 v L w hv ht hg
      · exact psize_2 v L w hv ht hg
      · exact psize_3 v L w hv ht hg
  · rw [sizeA_no L hk]
    exact psize_no f v w hk
end Go.Proofs.YtcmldlcdgmmafabGreatDoor
