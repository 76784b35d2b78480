
-- ops.withBlock: a contract.
import Derived.Test.YtaaagdmhokgcjaaCZ
import Derived.Deep.CutRange
namespace Go.Proofs.Ytaaagdmhokgcjaa
open Go.ChangeShapes Go.WideShapes Go.ChangeAt Go.RowKit
set_option linter.unusedVariables false
set_option maxRecDepth 100000
set_option linter.unusedSimpArgs false
theorem mk_mems (n : Nat) (hn : n ≤ 67108864) : ∃ Z : List Value, Z.length = n * 7 ∧ ∀ W : World, (Instr.makeSlice 22 (.int .i64 n) (.int .i64 n)).run Try.prog W = .ok (.slice (some ⟨W.heap.size, 0, none⟩) n n) (W.alloc (.cells Z.toArray 32)) := by
  obtain ⟨i0, hi, hz0, hz1, hz2⟩ := info_parts infoMx
  refine ⟨(madeCells #[.int .i64 0, .int .i64 0, .int .i64 0, .int .i64 0, .string ⟨#[]⟩, .int .i64 0, .string ⟨#[]⟩] (n * 7)).toList, ?_, fun W => ?_⟩
  · rw [Array.length_toList]; exact size_madeCells _ _
  · rw [run_make W 22 32 i0 _ Try.underlying22 hi hz0 .i64 .i64 n n (by omega) (by omega) (by rw [hz2]; omega) (by omega), hz1, Int.toNat_natCast]
    rfl
theorem cell_onA {w w' : World} {a : Addr} {v : Value} (h : w.cell? a = some v) (hb : Below w.heap.size w w') : w'.cell? a = some v := (hb.cell (p := a) (World.block_lt_of_cell? _ _ h)).trans h
theorem sizeMx : (Try.prog.info? 32).map (·.size) = some 7 := by kernel_rfl
theorem splice_nil {α : Type} (L : List α) (k : Nat) : splice L k [] = L := by simp [splice]
set_option maxHeartbeats 4000000 in
theorem withBlock_A (m n p : Nat) (ad : Addr) (c1 : Nat) (a2 : Option Addr) (c2 : Nat) (X1 Y X2 Z : List Value) (w : World) (hn : n ≤ 16777216) (hm : m ≤ 16777216) (hp : p ≤ n) (hc1 : n ≤ c1) (hcm : c1 ≤ 9223372036854775807) (hpn : p < n)
    (HX1 : Hid (0 < X1.length → ∀ j v, X1[j]? = some v → w.cell? (ad.add j) = some v))
    (HX2 : Hid (0 < X2.length → ∀ j v, X2[j]? = some v → w.cell? ((ad.add (p * 7)).add j) = some v))
    (HY : Hid (0 < Y.length → ∃ ad2, a2 = some ad2 ∧ ∀ j v, Y[j]? = some v → w.cell? (ad2.add j) = some v))
    (HO : Hid ((∀ u ∈ X1, u.oneCell' = true) ∧ (∀ u ∈ Y, u.oneCell' = true) ∧ (∀ u ∈ X2, u.oneCell' = true)))
    (L1 : Hid (X1.length = p * 7)) (LY : Hid (Y.length = m * 7)) (L2 : Hid (X2.length = (n - p) * 7)) (LZ : Hid (Z.length = (n + m) * 7))
    (HMK : ∀ W : World, (Instr.makeSlice 22 (.int .i64 ((n : Int) + (m : Int))) (.int .i64 ((n : Int) + (m : Int)))).run Try.prog W = .ok (.slice (some ⟨W.heap.size, 0, none⟩) (n + m) (n + m)) (W.alloc (.cells Z.toArray 32))) :
    Calls Try.prog 28 #[.slice (some ad) n c1, .int .i64 p, .slice a2 m c2] w fun e w' => e = .returned (.slice (some ⟨w.heap.size, 0, none⟩) (n + m) (n + m)) ∧ Hid (w'.heap[w.heap.size]? = some (.cells (X1 ++ (Y ++ X2)).toArray 32 (0, 0))) ∧ Below w.heap.size w w' := by
  have hb0 : Below w.heap.size w (w.alloc (.cells Z.toArray 32)) := bupK (Below.refl _ _) _
  have hb1 := hb0
  have HG1 := hidK (heap_alloc_new w (.cells Z.toArray 32))
  have hw1 : IntKind.i64.wrap ((n : Int) + (m : Int)) = ((n : Int) + (m : Int)) := by rw [IntKind.wrap_i64]; omega
  have hpI : (p : Int) ≤ (n : Int) := by omega
  have q1 : ¬ (n + m = p) := by omega
  have q2 : ¬ (n + m = p + m) := by omega
  have q3 : ¬ (c1 = p) := by omega
  have q4 : ¬ (n = p) := by omega
  have hpc : p ≤ c1 := by omega
  have hw2 : IntKind.i64.wrap ((p : Int) + (m : Int)) = (p : Int) + (m : Int) := by rw [IntKind.wrap_i64]; omega
  have htn : ((p : Int) + (m : Int)).toNat = p + m := by omega
  have hpm0 : (0 : Int) ≤ (p : Int) + (m : Int) := by omega
  have hpm : (p : Int) + (m : Int) ≤ (n : Int) + (m : Int) := by omega
  go_enter Try.func28, Try.ntmps28
  go_wp2_with (first
    | (refine wpList_copy_spliceZ rfl (.tmp 14) (.tmp 17) 22 22 rfl 32 7 (by decide) Try.underlying22 sizeMx _ _ _ _ _ _ (by rfl) (by rfl) w.heap.size 0 Z 32 HG1.out X1 (by rw [L1.out]; simp only [Nat.min_def]; split <;> omega) (fun h => ⟨rfl, _, rfl, fun j v hj => (hb0.cell (World.block_lt_of_cell? _ _ (HX1.out h j v hj))).trans (HX1.out h j v hj)⟩) (by rw [L1.out, LZ.out]; omega) HO.out.1 w.heap.size w hb1 (Nat.le_refl _) ?_; intro w2 HG2 hb2; clear HG1)
    | (refine wpList_copy_spliceZ rfl (.tmp 21) (.tmp 22) 22 22 rfl 32 7 (by decide) Try.underlying22 sizeMx _ _ _ _ _ _ (by rfl) (by rfl) w.heap.size (p * 7) (splice Z 0 X1) 32 HG2.out Y (by rw [LY.out]; simp only [Nat.min_def]; split <;> omega) (by intro h; obtain ⟨ad2, e, hc⟩ := HY.out h; refine ⟨?_, ad2, e, fun j v hj => (hb2.cell (World.block_lt_of_cell? _ _ (hc j v hj))).trans (hc j v hj)⟩; first | rfl | (simp [Addr.add]; done) | (exfalso; rw [LY.out] at h; omega)) (by rw [LY.out, length_splice _ _ _ (by rw [L1.out, LZ.out]; omega), LZ.out]; omega) HO.out.2.1 w.heap.size w hb2 (Nat.le_refl _) ?_; intro w3 HG3 hb3; clear HG2))
  obtain ⟨w4, hrun, hg4, hb4⟩ := copy_runZ (P := Try.prog) (w := w3.drew) (dT := 22) (sT := 22) (ty := 3) (elem := 32) (z := 7) (by decide) Try.underlying22 sizeMx (some ⟨w.heap.size, (p + m) * 7, none⟩) (some (ad.add (p * 7))) (n + m - (p + m)) (n + m - (p + m)) (n - p) (c1 - p) w.heap.size ((p + m) * 7) (splice (splice Z 0 X1) (p * 7) Y) 32 HG3.out X2 (by rw [L2.out]; simp only [Nat.min_def]; split <;> omega) (fun h => ⟨rfl, _, rfl, fun j v hj => (hb3.cell (World.block_lt_of_cell? _ _ (HX2.out h j v hj))).trans (HX2.out h j v hj)⟩) (by rw [L2.out, length_splice _ _ _ (by rw [LY.out, length_splice _ _ _ (by rw [L1.out, LZ.out]; omega), LZ.out]; omega), length_splice _ _ _ (by rw [L1.out, LZ.out]; omega), LZ.out]; omega) HO.out.2.2 w.heap.size w hb3.drew (Nat.le_refl _)
  have HG4 := hidK hg4
  clear hg4 HG3 hb0 hb1 hw1
  go_region
  all_goals go_wp2
  all_goals go_ret
  all_goals refine ⟨rfl, ?_, hb4⟩
  all_goals (have := HG4.out; have HF := HG4; clear HG4)
  rw [Nat.add_mul, splice_splice_splice Z X1 Y X2 (p * 7) (m * 7) L1.out LY.out (by rw [L2.out, LZ.out]; omega)] at this
  exact this
set_option maxHeartbeats 4000000 in
theorem withBlock_B (m n : Nat) (ad : Addr) (c1 : Nat) (a2 : Option Addr) (c2 : Nat) (X1 Y X2 Z : List Value) (w : World) (hn : n ≤ 16777216) (hm : m ≤ 16777216) (hp : n ≤ n) (hc1 : n ≤ c1) (hcm : c1 ≤ 9223372036854775807) (hm0 : 0 < m)
    (HX1 : Hid (0 < X1.length → ∀ j v, X1[j]? = some v → w.cell? (ad.add j) = some v))
    (HX2 : Hid (0 < X2.length → ∀ j v, X2[j]? = some v → w.cell? ((ad.add (n * 7)).add j) = some v))
    (HY : Hid (0 < Y.length → ∃ ad2, a2 = some ad2 ∧ ∀ j v, Y[j]? = some v → w.cell? (ad2.add j) = some v))
    (HO : Hid ((∀ u ∈ X1, u.oneCell' = true) ∧ (∀ u ∈ Y, u.oneCell' = true) ∧ (∀ u ∈ X2, u.oneCell' = true)))
    (L1 : Hid (X1.length = n * 7)) (LY : Hid (Y.length = m * 7)) (L2 : Hid (X2.length = (n - n) * 7)) (LZ : Hid (Z.length = (n + m) * 7))
    (HMK : ∀ W : World, (Instr.makeSlice 22 (.int .i64 ((n : Int) + (m : Int))) (.int .i64 ((n : Int) + (m : Int)))).run Try.prog W = .ok (.slice (some ⟨W.heap.size, 0, none⟩) (n + m) (n + m)) (W.alloc (.cells Z.toArray 32))) :
    Calls Try.prog 28 #[.slice (some ad) n c1, .int .i64 n, .slice a2 m c2] w fun e w' => e = .returned (.slice (some ⟨w.heap.size, 0, none⟩) (n + m) (n + m)) ∧ Hid (w'.heap[w.heap.size]? = some (.cells (X1 ++ (Y ++ X2)).toArray 32 (0, 0))) ∧ Below w.heap.size w w' := by
  have hb0 : Below w.heap.size w (w.alloc (.cells Z.toArray 32)) := bupK (Below.refl _ _) _
  have hb1 := hb0
  have HG1 := hidK (heap_alloc_new w (.cells Z.toArray 32))
  have hw1 : IntKind.i64.wrap ((n : Int) + (m : Int)) = ((n : Int) + (m : Int)) := by rw [IntKind.wrap_i64]; omega
  have hpI : (n : Int) ≤ (n : Int) := by omega
  have q0 : ¬ (m = 0) := by omega
  have hw2 : IntKind.i64.wrap ((n : Int) + (m : Int)) = (n : Int) + (m : Int) := by rw [IntKind.wrap_i64]; omega
  have htn : ((n : Int) + (m : Int)).toNat = n + m := by omega
  have hpm0 : (0 : Int) ≤ (n : Int) + (m : Int) := by omega
  go_enter Try.func28, Try.ntmps28
  go_wp2_with (first
    | (refine wpList_copy_spliceZ rfl (.tmp 14) (.tmp 17) 22 22 rfl 32 7 (by decide) Try.underlying22 sizeMx _ _ _ _ _ _ (by rfl) (by rfl) w.heap.size 0 Z 32 HG1.out X1 (by rw [L1.out]; simp only [Nat.min_def]; split <;> omega) (fun h => ⟨rfl, _, rfl, fun j v hj => (hb0.cell (World.block_lt_of_cell? _ _ (HX1.out h j v hj))).trans (HX1.out h j v hj)⟩) (by rw [L1.out, LZ.out]; omega) HO.out.1 w.heap.size w hb1 (Nat.le_refl _) ?_; intro w2 HG2 hb2; clear HG1)
    | (refine wpList_copy_spliceZ rfl (.tmp 21) (.tmp 22) 22 22 rfl 32 7 (by decide) Try.underlying22 sizeMx _ _ _ _ _ _ (by rfl) (by rfl) w.heap.size (n * 7) (splice Z 0 X1) 32 HG2.out Y (by rw [LY.out]; simp only [Nat.min_def]; split <;> omega) (by intro h; obtain ⟨ad2, e, hc⟩ := HY.out h; refine ⟨?_, ad2, e, fun j v hj => (hb2.cell (World.block_lt_of_cell? _ _ (hc j v hj))).trans (hc j v hj)⟩; first | rfl | (simp [Addr.add]; done) | (exfalso; rw [LY.out] at h; omega)) (by rw [LY.out, length_splice _ _ _ (by rw [L1.out, LZ.out]; omega), LZ.out]; omega) HO.out.2.1 w.heap.size w hb2 (Nat.le_refl _) ?_; intro w3 HG3 hb3; clear HG2))
  have hrun : ∀ a c, (Builtin.copy_ #[22, 22] 3 #[.slice (some ⟨w.heap.size, 0, none⟩) 0 0, .slice a 0 c]).run Try.prog w3.drew = .ok (goInt 0) w3.drew := fun a c => run_copy_noneZ _ _ _ 3 32 7 _ _ _ _ _ _ Try.underlying22 sizeMx rfl
  have hX2 : X2 = [] := List.eq_nil_of_length_eq_zero (by rw [L2.out]; omega)
  have HX := hidK hX2
  have hb4 := hb3.drew
  have HG4 : Hid (w3.drew.heap[w.heap.size]? = _) := HG3.out
  clear hb0 hb1 hw1 hX2
  go_region
  all_goals go_wp2
  all_goals go_ret
  all_goals refine ⟨rfl, ?_, hb4⟩
  all_goals (have := HG4.out; have HF := HG4; clear HG4)
  all_goals (obtain rfl := HX.out; have e := splice_splice_splice Z X1 Y [] (n * 7) (m * 7) L1.out LY.out (by rw [LZ.out]; simp only [List.length_nil]; omega); rw [splice_nil] at e; rw [e] at this; exact this)
set_option maxHeartbeats 4000000 in
theorem withBlock_C (n : Nat) (ad : Addr) (c1 : Nat) (a2 : Option Addr) (c2 : Nat) (X1 Y X2 Z : List Value) (w : World) (hn : n ≤ 16777216) (hm : 0 ≤ 16777216) (hp : n ≤ n) (hc1 : n ≤ c1) (hcm : c1 ≤ 9223372036854775807) 
    (HX1 : Hid (0 < X1.length → ∀ j v, X1[j]? = some v → w.cell? (ad.add j) = some v))
    (HX2 : Hid (0 < X2.length → ∀ j v, X2[j]? = some v → w.cell? ((ad.add (n * 7)).add j) = some v))
    (HY : Hid (0 < Y.length → ∃ ad2, a2 = some ad2 ∧ ∀ j v, Y[j]? = some v → w.cell? (ad2.add j) = some v))
    (HO : Hid ((∀ u ∈ X1, u.oneCell' = true) ∧ (∀ u ∈ Y, u.oneCell' = true) ∧ (∀ u ∈ X2, u.oneCell' = true)))
    (L1 : Hid (X1.length = n * 7)) (LY : Hid (Y.length = 0 * 7)) (L2 : Hid (X2.length = (n - n) * 7)) (LZ : Hid (Z.length = (n) * 7))
    (HMK : ∀ W : World, (Instr.makeSlice 22 (.int .i64 (n : Int)) (.int .i64 (n : Int))).run Try.prog W = .ok (.slice (some ⟨W.heap.size, 0, none⟩) (n) (n)) (W.alloc (.cells Z.toArray 32))) :
    Calls Try.prog 28 #[.slice (some ad) n c1, .int .i64 n, .slice a2 0 c2] w fun e w' => e = .returned (.slice (some ⟨w.heap.size, 0, none⟩) (n) (n)) ∧ Hid (w'.heap[w.heap.size]? = some (.cells (X1 ++ (Y ++ X2)).toArray 32 (0, 0))) ∧ Below w.heap.size w w' := by
  have hb0 : Below w.heap.size w (w.alloc (.cells Z.toArray 32)) := bupK (Below.refl _ _) _
  have hb1 := hb0
  have HG1 := hidK (heap_alloc_new w (.cells Z.toArray 32))
  have hw1 : IntKind.i64.wrap ((n : Int) + 0) = (n : Int) := by rw [IntKind.wrap_i64]; omega
  have hpI : (n : Int) ≤ (n : Int) := by omega
  have hwn : IntKind.i64.wrap (n : Int) = (n : Int) := by rw [IntKind.wrap_i64]; omega
  go_enter Try.func28, Try.ntmps28
  go_wp2_with (first
    | (refine wpList_copy_spliceZ rfl (.tmp 14) (.tmp 17) 22 22 rfl 32 7 (by decide) Try.underlying22 sizeMx _ _ _ _ _ _ (by rfl) (by rfl) w.heap.size 0 Z 32 HG1.out X1 (by rw [L1.out]; simp only [Nat.min_def]; split <;> omega) (fun h => ⟨rfl, _, rfl, fun j v hj => (hb0.cell (World.block_lt_of_cell? _ _ (HX1.out h j v hj))).trans (HX1.out h j v hj)⟩) (by rw [L1.out, LZ.out]; omega) HO.out.1 w.heap.size w hb1 (Nat.le_refl _) ?_; intro w2 HG2 hb2; clear HG1)
    | (refine wpList_copy_spliceZ rfl (.tmp 21) (.tmp 22) 22 22 rfl 32 7 (by decide) Try.underlying22 sizeMx _ _ _ _ _ _ (by rfl) (by rfl) w.heap.size (n * 7) (splice Z 0 X1) 32 HG2.out Y (by rw [LY.out]; simp only [Nat.min_def]; split <;> omega) (by intro h; obtain ⟨ad2, e, hc⟩ := HY.out h; refine ⟨?_, ad2, e, fun j v hj => (hb2.cell (World.block_lt_of_cell? _ _ (hc j v hj))).trans (hc j v hj)⟩; first | rfl | (simp [Addr.add]; done) | (exfalso; rw [LY.out] at h; omega)) (by rw [LY.out, length_splice _ _ _ (by rw [L1.out, LZ.out]; omega), LZ.out]; omega) HO.out.2.1 w.heap.size w hb2 (Nat.le_refl _) ?_; intro w3 HG3 hb3; clear HG2))
  have hrun : ∀ a c, (Builtin.copy_ #[22, 22] 3 #[.slice (some ⟨w.heap.size, 0, none⟩) 0 0, .slice a 0 c]).run Try.prog w3.drew = .ok (goInt 0) w3.drew := fun a c => run_copy_noneZ _ _ _ 3 32 7 _ _ _ _ _ _ Try.underlying22 sizeMx rfl
  have hX2 : X2 = [] := List.eq_nil_of_length_eq_zero (by rw [L2.out]; omega)
  have HX := hidK hX2
  have hb4 := hb3.drew
  have HG4 : Hid (w3.drew.heap[w.heap.size]? = _) := HG3.out
  clear hb0 hb1 hw1 hX2
  go_region
  all_goals go_wp2
  all_goals go_ret
  all_goals refine ⟨rfl, ?_, hb4⟩
  all_goals (have := HG4.out; have HF := HG4; clear HG4)
  all_goals (obtain rfl := HX.out; have e := splice_splice_splice Z X1 Y [] (n * 7) (0 * 7) L1.out LY.out (by rw [LZ.out]; simp only [List.length_nil]; omega); rw [splice_nil] at e; rw [e] at this; exact this)
theorem rowG_sub {L : List Mx} {w : World} {ad : Addr} {b off p : Nat} (e : ad = ⟨b, off, none⟩) (hc : ∀ j u, (L.flatMap mxL)[j]? = some u → w.cell? ⟨b, off + j, none⟩ = some u) : (∀ j v, ((L.take p).flatMap mxL)[j]? = some v → w.cell? (ad.add j) = some v) ∧ (∀ j v, ((L.drop p).flatMap mxL)[j]? = some v → w.cell? ((ad.add (p * 7)).add j) = some v) := by
  subst e
  constructor
  · intro j v hj
    rw [Addr.add_mid]
    refine hc j v ?_
    rw [← flatG_take mxL 7 mxL_len, List.getElem?_take] at hj
    split at hj
    · exact hj
    · cases hj
  · intro j v hj
    rw [Addr.add_mid, Addr.add_mid, Nat.add_assoc]
    refine hc _ v ?_
    rw [← flatG_drop mxL 7 mxL_len, List.getElem?_drop] at hj
    exact hj
theorem own_whole {w : World} {B g n : Nat} {L : List Mx} (hl : L.length = n) (hB : B ≤ g) (hn : n ≤ maxLen) (hg : w.heap[g]? = some (.cells (L.flatMap mxL).toArray 32 (0, 0))) : OwnM B w (.slice (some ⟨g, 0, none⟩) n n) L := by
  subst hl
  exact ownG_of mxL 7 mxL_len hg hB (Nat.le_refl _) hn (by rw [List.size_toArray, flatG_len mxL 7 mxL_len]) (by rw [List.toList_toArray, List.take_of_length_le (by rw [flatG_len mxL 7 mxL_len]; exact Nat.le_refl _)]) rfl
end Go.Proofs.Ytaaagdmhokgcjaa
