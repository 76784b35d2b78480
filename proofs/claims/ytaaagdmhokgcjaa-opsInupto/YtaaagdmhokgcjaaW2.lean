
-- ops.withBlock: the contract.
import Derived.Test.YtaaagdmhokgcjaaW1
namespace Go.Proofs.Ytaaagdmhokgcjaa
open Go.ChangeShapes Go.WideShapes Go.ChangeAt Go.RowKit
set_option linter.unusedVariables false
set_option maxRecDepth 100000
set_option linter.unusedSimpArgs false
set_option maxHeartbeats 4000000 in
theorem withBlock_nil (m : Nat) (a2 : Option Addr) (c2 : Nat) (Y Z : List Value) (w : World) (hm : m ≤ 16777216)
    (HY : Hid (0 < Y.length → ∃ ad2, a2 = some ad2 ∧ ∀ j v, Y[j]? = some v → w.cell? (ad2.add j) = some v))
    (HO : Hid (∀ u ∈ Y, u.oneCell' = true)) (LY : Hid (Y.length = m * 7)) (LZ : Hid (Z.length = m * 7))
    (HMK : ∀ W : World, (Instr.makeSlice 22 (.int .i64 (m : Int)) (.int .i64 (m : Int))).run Try.prog W = .ok (.slice (some ⟨W.heap.size, 0, none⟩) m m) (W.alloc (.cells Z.toArray 32))) :
    Calls Try.prog 28 #[.slice none 0 0, .int .i64 0, .slice a2 m c2] w fun e w' => e = .returned (.slice (some ⟨w.heap.size, 0, none⟩) m m) ∧ Hid (w'.heap[w.heap.size]? = some (.cells Y.toArray 32 (0, 0))) ∧ Below w.heap.size w w' := by
  have hb0 : Below w.heap.size w (w.alloc (.cells Z.toArray 32)) := bupK (Below.refl _ _) _
  have hb1 := hb0
  have HG1 := hidK (heap_alloc_new w (.cells Z.toArray 32))
  have hw1 : IntKind.i64.wrap (m : Int) = (m : Int) := by rw [IntKind.wrap_i64]; omega
  have hcp : ∀ W : World, ∀ d n c, (Builtin.copy_ #[22, 22] 3 #[.slice d n c, .slice none 0 0]).run Try.prog W = .ok (goInt 0) W := fun W d n c => run_copy_noneZ _ _ _ 3 32 7 _ _ _ _ _ _ Try.underlying22 sizeMx (by show Nat.min 0 n = 0; exact Nat.zero_min n)
  go_enter Try.func28, Try.ntmps28
  by_cases hm0 : m = 0
  · subst hm0
    have hY : Y = [] := List.eq_nil_of_length_eq_zero (by rw [LY.out])
    have hZ : Z = [] := List.eq_nil_of_length_eq_zero (by rw [LZ.out])
    subst hY
    subst hZ
    have hcp2 : ∀ W : World, ∀ d c a c', (Builtin.copy_ #[22, 22] 3 #[.slice d 0 c, .slice a 0 c']).run Try.prog W = .ok (goInt 0) W := fun W d c a c' => run_copy_noneZ _ _ _ 3 32 7 _ _ _ _ _ _ Try.underlying22 sizeMx rfl
    clear HY HO LY LZ
    have hmk0 : ∀ W : World, (Instr.makeSlice 22 (.int .i64 0) (.int .i64 0)).run Try.prog W = .ok (.slice (some ⟨W.heap.size, 0, none⟩) 0 0) (W.alloc (.cells #[] 32)) := HMK
    clear HMK
    go_wp2
    go_region
    go_wp2
    go_ret
    exact ⟨rfl, HG1.out, hb0.drew⟩
  · go_wp2_with (refine wpList_copy_spliceZ rfl (.tmp 21) (.tmp 22) 22 22 rfl 32 7 (by decide) Try.underlying22 sizeMx _ _ _ _ _ _ (by rfl) (by rfl) w.heap.size 0 Z 32 HG1.out Y (by rw [LY.out]; simp only [Nat.min_def]; split <;> omega) (by intro h; obtain ⟨ad2, e, hc⟩ := HY.out h; refine ⟨?_, ad2, e, fun j v hj => (hb0.cell (World.block_lt_of_cell? _ _ (hc j v hj))).trans (hc j v hj)⟩; first | rfl | (simp [Addr.add]; done)) (by rw [LY.out, LZ.out]; omega) HO.out w.heap.size w hb1 (Nat.le_refl _) ?_; intro w3 HG3 hb3; clear HG1 hb0 hb1)
    go_region
    go_wp2
    go_ret
    refine ⟨rfl, ?_, hb3.drew⟩
    have := HG3.out
    have e : splice Z 0 Y = Y := by unfold splice; rw [List.take_zero, List.nil_append, List.drop_eq_nil_of_le (by rw [LY.out, LZ.out]; omega), List.append_nil]
    rw [e] at this
    exact this
/-- withBlock -/
theorem withBlock_c (v1 v2 : Value) (L M : List Mx) (p : Nat) (w : World) (h1 : RowM w v1 L) (h2 : RowM w v2 M) (hp : p ≤ L.length) (hl : L.length ≤ 16777216) (hm : M.length ≤ 16777216) :
    Calls Try.prog 28 #[v1, .int .i64 p, v2] w fun e w' => ∃ u, e = .returned u ∧ OwnM w.heap.size w' u (L.take p ++ (M ++ L.drop p)) ∧ Below w.heap.size w w' := by
  obtain ⟨ao, c1, rfl, hc1, hcm, hnil, hcell⟩ := h1
  obtain ⟨a2, c2, rfl, hc2, hcm2, hnil2, hcell2⟩ := h2
  obtain ⟨Z, hZ, hmk⟩ := mk_mems (L.length + M.length) (by omega)
  rw [Int.natCast_add] at hmk
  have HY : 0 < (M.flatMap mxL).length → ∃ ad2, a2 = some ad2 ∧ ∀ j v, (M.flatMap mxL)[j]? = some v → w.cell? (ad2.add j) = some v := by
    intro h
    rw [flatG_len mxL 7 mxL_len] at h
    obtain ⟨b, off, e, hc⟩ := hcell2 (by omega)
    exact ⟨_, e, fun j v hj => by rw [Addr.add_mid]; exact hc j v hj⟩
  have hlt : (L.take p ++ (M ++ L.drop p)).length = L.length + M.length := by simp only [List.length_append, List.length_take, List.length_drop]; omega
  have hfl : (L.take p ++ (M ++ L.drop p)).flatMap mxL = (L.take p).flatMap mxL ++ (M.flatMap mxL ++ (L.drop p).flatMap mxL) := by rw [List.flatMap_append, List.flatMap_append]
  have LY : (M.flatMap mxL).length = M.length * 7 := flatG_len mxL 7 mxL_len M
  have hcm' : c1 ≤ 9223372036854775807 := hcm
  have fin : ∀ (e : Ending) (w' : World), (e = .returned (.slice (some ⟨w.heap.size, 0, none⟩) (L.length + M.length) (L.length + M.length)) ∧ Hid (w'.heap[w.heap.size]? = some (.cells ((L.take p).flatMap mxL ++ (M.flatMap mxL ++ (L.drop p).flatMap mxL)).toArray 32 (0, 0))) ∧ Below w.heap.size w w') → ∃ u, e = .returned u ∧ OwnM w.heap.size w' u (L.take p ++ (M ++ L.drop p)) ∧ Below w.heap.size w w' := by
    rintro e w' ⟨rfl, hg, hb⟩
    exact ⟨_, rfl, own_whole hlt (Nat.le_refl _) (by unfold maxLen; omega) (by rw [hfl]; exact hg.out), hb⟩
  cases ao with
  | none =>
    have h0 := hnil rfl
    have hL : L = [] := List.eq_nil_of_length_eq_zero (by omega)
    subst hL
    subst h0
    obtain rfl : p = 0 := by simpa using hp
    simp only [List.length_nil, Nat.zero_add] at hZ hmk
    refine (withBlock_nil M.length a2 c2 (M.flatMap mxL) Z w hm HY (flatG_one mxL_one M) LY hZ (by simpa using hmk)).mono fun e w' h => fin e w' ?_
    simpa using h
  | some ad =>
    have HX : 0 < L.length → ∃ b off, ad = ⟨b, off, none⟩ ∧ ∀ j u, (L.flatMap mxL)[j]? = some u → w.cell? ⟨b, off + j, none⟩ = some u := by
      intro h
      obtain ⟨b, off, e, hc⟩ := hcell h
      exact ⟨b, off, by injection e, hc⟩
    have HX1 : 0 < ((L.take p).flatMap mxL).length → ∀ j v, ((L.take p).flatMap mxL)[j]? = some v → w.cell? (ad.add j) = some v := by
      intro h
      rw [flatG_len mxL 7 mxL_len, List.length_take] at h
      obtain ⟨b, off, e, hc⟩ := HX (by omega)
      exact (rowG_sub (p := p) e hc).1
    have HX2 : 0 < ((L.drop p).flatMap mxL).length → ∀ j v, ((L.drop p).flatMap mxL)[j]? = some v → w.cell? ((ad.add (p * 7)).add j) = some v := by
      intro h
      rw [flatG_len mxL 7 mxL_len, List.length_drop] at h
      obtain ⟨b, off, e, hc⟩ := HX (by omega)
      exact (rowG_sub (p := p) e hc).2
    have HO : (∀ u ∈ (L.take p).flatMap mxL, u.oneCell' = true) ∧ (∀ u ∈ M.flatMap mxL, u.oneCell' = true) ∧ (∀ u ∈ (L.drop p).flatMap mxL, u.oneCell' = true) := ⟨flatG_one mxL_one _, flatG_one mxL_one _, flatG_one mxL_one _⟩
    have L1 : ((L.take p).flatMap mxL).length = p * 7 := by rw [flatG_len mxL 7 mxL_len, List.length_take, Nat.min_eq_left hp]
    have L2 : ((L.drop p).flatMap mxL).length = (L.length - p) * 7 := by rw [flatG_len mxL 7 mxL_len, List.length_drop]
    rcases Nat.lt_or_eq_of_le hp with hpn | hpn
    · exact (withBlock_A _ _ _ ad c1 a2 c2 _ _ _ Z w hl hm hp hc1 hcm' hpn HX1 HX2 HY HO L1 LY L2 hZ hmk).mono fin
    · rcases Nat.eq_zero_or_pos M.length with hm0 | hm0
      · have hM : M = [] := List.eq_nil_of_length_eq_zero hm0
        subst hM
        subst hpn
        refine (withBlock_C _ ad c1 a2 c2 _ _ _ Z w hl (by omega) hp hc1 hcm' HX1 HX2 HY HO L1 LY L2 hZ (by simpa using hmk)).mono fun e w' h => fin e w' ?_
        exact h
      · subst hpn
        exact (withBlock_B _ _ ad c1 a2 c2 _ _ _ Z w hl hm hp hc1 hcm' hm0 HX1 HX2 HY HO L1 LY L2 hZ hmk).mono fin
end Go.Proofs.Ytaaagdmhokgcjaa
