
-- ops.numbersByName: a contract.
import Derived.Test.YtaaagdmhokgcjaaR2
import Derived.Test.YtaaagdmhokgcjaaB3
import Derived.Test.YtaaagdmhokgcjaaMF
namespace Go.Proofs.Ytaaagdmhokgcjaa
open Go.ChangeShapes Go.WideShapes Go.ChangeAt Go.RowKit
set_option linter.unusedVariables false
set_option maxRecDepth 100000
set_option linter.unusedSimpArgs false
def nexts (N : List ByteArray) : List Int := (List.range N.length).map (nextI N)
theorem nexts_len (N : List ByteArray) : (nexts N).length = N.length := by unfold nexts; simp
theorem nexts_get {N : List ByteArray} {j : Nat} (h : j < N.length) : (nexts N)[j]? = some (nextI N j) := by unfold nexts; rw [List.getElem?_map, List.getElem?_range h]; rfl
theorem fit1 {R : List Int} {k : Nat} (hk : k < R.length) : Nat.ble (k + 1) (R.flatMap nmL).toArray.size = true := by
  have := fitG nmL_len hk
  rwa [Nat.mul_one] at this
theorem put1 {R : List Int} {k : Nat} {x : Int} (hk : k < R.length) : putG (R.flatMap nmL).toArray k (nmL x).toArray = ((R.set k x).flatMap nmL).toArray := by
  have := putG_flat nmL 1 nmL_len R k x hk
  rwa [Nat.mul_one] at this
theorem mk_ints (n : Nat) (hn : n ≤ 67108864) (W : World) : (Instr.makeSlice 24 (.int .i64 n) (.int .i64 n)).run Try.prog W = .ok (.slice (some ⟨W.heap.size, 0, none⟩) n n) (W.alloc (.cells ((List.replicate n (0 : Int)).flatMap nmL).toArray 3)) := by
  obtain ⟨i0, hi, hz0, hz1, hz2⟩ := info_parts infoNm
  rw [run_make W 24 3 i0 _ Try.underlying24 hi hz0 .i64 .i64 n n (by omega) (by omega) (by rw [hz2]; omega) (by omega), hz1, Int.toNat_natCast, ← made_flat nmL 1 (by decide) nmL_len (0 : Int) n]
  rfl
theorem mk_map (n : Int) (w : World) : (Instr.makeMap 57 (some (.int .i64 n))).run Try.prog w = .ok (.map (some w.heap.size)) (w.alloc (.map #[] 0)) := by
  simp [Instr.makeMap, run_underlying Try.underlying57, asInt, newObj, Result.andThen]
  rfl
/-- the row of numbers half made: from k on it is done -/
def NextUp (N : List ByteArray) (gn k : Nat) (w : World) : Prop := ∃ R : List Int, R.length = N.length ∧ (∀ j, k ≤ j → j < N.length → R[j]? = some (nextI N j)) ∧ w.heap[gn]? = some (.cells (R.flatMap nmL).toArray 3 (0, 0))
theorem NextUp.done {N : List ByteArray} {gn : Nat} {w : World} (h : NextUp N gn 0 w) : w.heap[gn]? = some (.cells ((nexts N).flatMap nmL).toArray 3 (0, 0)) := by
  obtain ⟨R, h1, h2, h3⟩ := h
  have e : R = nexts N := by
    apply List.ext_getElem?
    intro j
    by_cases hj : j < N.length
    · rw [h2 j (Nat.zero_le _) hj, nexts_get hj]
    · rw [List.getElem?_eq_none (by omega), List.getElem?_eq_none (by rw [nexts_len]; omega)]
  rw [← e]; exact h3
set_option maxHeartbeats 4000000 in
theorem numbers_c (v : Value) (L : List Mx) (w : World) (h : RowM w v L) (hn : L.length ≤ 16777216) :
    Calls Try.prog 27 #[v] w fun e w' => e = .returned (.tuple #[.map (some w.heap.size), .slice (some ⟨w.heap.size + 1, 0, none⟩) L.length L.length]) ∧ MapF w' w.heap.size (fromF (nms L) 0) ∧ w'.heap[w.heap.size + 1]? = some (.cells ((nexts (nms L)).flatMap nmL).toArray 3 (0, 0)) ∧ Below w.heap.size w w' := by
  obtain ⟨a1, c1, q1, _, _⟩ := h.form
  have HMK := mk_ints L.length (by omega)
  have HMP := mk_map
  obtain ⟨n, hnn⟩ : ∃ n, n = L.length := ⟨_, rfl⟩
  have HN := hidK hnn
  have HNN : Hid ((nms L).length = n) := by show _ = _; rw [List.length_map]; exact hnn.symm
  have HV := hidK h
  subst q1
  rw [← hnn] at hn HMK ⊢ HV
  clear h hnn
  have hn1 : (1 : Int) ≤ (n : Int) ∨ n = 0 := by omega
  obtain ⟨gn, hgn⟩ : ∃ gn, gn = w.heap.size + 1 := ⟨_, rfl⟩
  have HGN := hidK hgn
  have HMF := hidK ((MapF.made w).on (bupK (Below.refl _ _) (.cells ((List.replicate n (0 : Int)).flatMap nmL).toArray 3)))
  have HNX : Hid (((w.alloc (.map #[] 0)).alloc (.cells ((List.replicate n (0 : Int)).flatMap nmL).toArray 3)).heap[w.heap.size + 1]? = some (.cells ((List.replicate n (0 : Int)).flatMap nmL).toArray 3 (0, 0))) := heap_new2K w _ _
  have HB0 := hidK (bupK2 (bupK (Below.refl w.heap.size w) (.map #[] 0)) (.cells ((List.replicate n (0 : Int)).flatMap nmL).toArray 3))
  clear hgn
  go_enter Try.func27, Try.ntmps27
  go_wp2
  go_loopw [6] (fun i wx => ∃ k : Nat, i = .int .i64 ((k : Int) - 1) ∧ k ≤ n ∧ MapF wx w.heap.size (fromF (nms L) k) ∧ NextUp (nms L) (w.heap.size + 1) k wx ∧ Below w.heap.size w wx) (fun i _ => (intOf i + 1).toNat)
  case atStart =>
    refine ⟨n, by go_num, Nat.le_refl _, ?_, ⟨_, ?_, ?_, HNX.out⟩, HB0.out⟩
    · have e := fromF_end (nms L); rw [HNN.out] at e; rw [e]; exact HMF.out
    · rw [List.length_replicate]; exact HNN.out.symm
    · intro j h1 h2; have := HNN.out; omega
  case round =>
    clear HMF HNX HB0
    obtain ⟨kk, rfl, hkn, hM, hR, hB⟩ := hrel
    have HM := hidK hM
    have HR := hidK hR
    clear hM hR
    cases kk with
    | zero =>
      have HF := hidK HR.out.done
      have e0 : ((0 : Nat) : Int) - 1 = -1 := by omega
      rw [e0]
      clear HR HV
      go_wp2
      go_ret2
      exact ⟨rfl, HM.out, HF.out, hB⟩
    | succ k =>
      have e0 : ((k + 1 : Nat) : Int) - 1 = (k : Int) := by omega
      rw [e0]
      have kI : (k : Int) < (n : Int) := by omega
      have kN : k < n := by omega
      have k0 : (0 : Int) ≤ (k : Int) := by omega
      have hkl : k < L.length := by have := HN.out; omega
      obtain ⟨⟨dd, uu, gg, mm, nn, zz, dt⟩, hx⟩ : ∃ x, L[k]? = some x := ⟨_, List.getElem?_eq_getElem hkl⟩
      obtain ⟨b1, o1, p1, e1, d0, d1, d2, d3, d4, d5, d6⟩ := (HV.out.on hB).mx hx
      have HX := hidK (nms_get hx)
      simp only [] at d4
      injection e1 with e1 e1b e1c
      subst e1
      obtain ⟨R, hR1, hR2, hR3⟩ := HR.out
      have hkR : k < R.length := by have := HNN.out; omega
      have HKR := hidK hkR
      have HR1 := hidK hR1
      have HR2 := hidK hR2
      have HR3 := hidK hR3
      have HMR : Hid (w.heap.size ≠ w.heap.size + 1) := by show _ ≠ _; omega
      clear hx hkl e1b e1c HV d0 d1 d2 d3 d5 d6 HR hkR hR1 hR2 hR3
      go_upto_region 8 with (refine wpList_store_row_G rfl rfl 3 (.tmp 30) (.const (.int .i64 (-1))) rfl (w.heap.size + 1) k (.int .i64 (-1)) rfl rfl 3 ((R).flatMap nmL).toArray ((R.set k (-1)).flatMap nmL).toArray HR3.out (by kernel_rfl) (fit1 HKR.out) rfl (put1 HKR.out) ?_; intro W3 hW3 hG3)
      have HW3 := hidK hW3
      have HM3 := hidK (HM.out.keep (hG3.block w.heap.size HM.out.lt (fun e => HMR.out (by injection e))))
      have HB3 := hidK (below_some hB hG3 (Nat.le_succ _) (Nat.le_refl _))
      clear hW3 hG3 HR3 HM d4 hB
      have hz3 := Try.zeroValue3
      cases hfr : fromF (nms L) (k + 1) nn with
      | none =>
        have hl := HM3.out.look_no (P := Try.prog) (t := 57) Try.underlying57 Try.underlying9 (hz3 _) hfr
        obtain ⟨W5, hrun, hM5, hT5⟩ := HM3.out.store (P := Try.prog) (t := 57) Try.underlying57 Try.underlying9 nn (k : Int)
        have HM5 := hidK hM5
        have HB5 := hidK (below_some HB3.out hT5.grown (Nat.le_refl _) (Nat.le_refl _))
        have HW5 := hidK ((hT5.other (Ne.symm HMR.out)).trans HW3.out)
        have HFR := hidK hfr
        clear hM5 hT5 HM3 HB3 HW3 hfr
        go_wp2
        go_roundw
        case rel =>
          refine ⟨k, by go_num, by omega, ?_, ⟨_, by rw [List.length_set]; exact HR1.out, ?_, HW5.out⟩, HB5.out⟩
          · rw [fromF_step HX.out]; exact HM5.out
          · intro j h1 h2
            by_cases hj : j = k
            · subst hj; rw [List.getElem?_set_self HKR.out, nextI_of HX.out, HFR.out]; rfl
            · rw [List.getElem?_set_ne (Ne.symm hj)]; exact HR2.out j (by omega) h2
        case measure => simp [intOf]
      | some y =>
        have hl := HM3.out.look (P := Try.prog) (t := 57) Try.underlying57 Try.underlying9 hfr
        have HFR := hidK hfr
        have HKS : Hid (k < (R.set k (-1)).length) := by show _ < _; rw [List.length_set]; exact HKR.out
        clear hfr
        go_upto_region 11 with (refine wpList_store_row_G rfl rfl 3 (.tmp 41) (.tmp 40) rfl (w.heap.size + 1) k (.int .i64 y) rfl rfl 3 ((R.set k (-1)).flatMap nmL).toArray (((R.set k (-1)).set k y).flatMap nmL).toArray HW3.out (by kernel_rfl) (fit1 HKS.out) rfl (put1 HKS.out) ?_; intro W4 hW4 hG4)
        have HM4 := hidK (HM3.out.keep (hG4.block w.heap.size HM3.out.lt (fun e => HMR.out (by injection e))))
        have HB4 := hidK (below_some HB3.out hG4 (Nat.le_succ _) (Nat.le_refl _))
        obtain ⟨W5, hrun, hM5, hT5⟩ := HM4.out.store (P := Try.prog) (t := 57) Try.underlying57 Try.underlying9 nn (k : Int)
        have HM5 := hidK hM5
        have HB5 := hidK (below_some HB4.out hT5.grown (Nat.le_refl _) (Nat.le_refl _))
        have HW5 := hidK ((hT5.other (Ne.symm HMR.out)).trans hW4)
        clear hM5 hT5 HM3 HB3 HW3 hW4 hG4 HM4 HB4 hl
        go_wp2
        go_roundw
        case rel =>
          refine ⟨k, by go_num, by omega, ?_, ⟨_, by rw [List.length_set, List.length_set]; exact HR1.out, ?_, HW5.out⟩, HB5.out⟩
          · rw [fromF_step HX.out]; exact HM5.out
          · intro j h1 h2
            by_cases hj : j = k
            · subst hj; rw [List.getElem?_set_self HKS.out, nextI_of HX.out, HFR.out]; rfl
            · rw [List.getElem?_set_ne (Ne.symm hj), List.getElem?_set_ne (Ne.symm hj)]; exact HR2.out j (by omega) h2
        case measure => simp [intOf]
end Go.Proofs.Ytaaagdmhokgcjaa
