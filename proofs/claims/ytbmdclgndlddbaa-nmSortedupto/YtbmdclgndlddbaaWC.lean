
-- late: never of neighbours that stand in order.
import Derived.Test.YtbmdclgndlddbaaWA
namespace Go.Proofs.Ytbmdclgndlddbaa
open Go.ChangeShapes Go.WideShapes Go.ChangeAt Go.RowKit Go.Sort
set_option linter.unusedVariables false
set_option maxRecDepth 100000
theorem slt_cases {a b : ByteArray} (h : sltB b a = false) : (Op.bytesLess a.toList b.toList = true ∧ (a.toList == b.toList) = false) ∨ (Op.bytesLess a.toList b.toList = false ∧ (a.toList == b.toList) = true) := by
  cases h2 : sltB a b with
  | true =>
    refine .inl ⟨h2, ?_⟩
    rw [nm_eq, decide_eq_false_iff_not]
    rintro rfl
    rw [sltB_irr] at h2; cases h2
  | false =>
    refine .inr ⟨h2, ?_⟩
    rw [nm_eq, decide_eq_true_iff]
    exact sltB_tri h2 h
set_option maxHeartbeats 16000000 in
theorem late_c (num : Bool) (x y : Rw) (w : World) (h : ltR num y x = false) : Calls Try.prog 8 #[rwV x, rwV y, .bool num] w fun e w' => e = .returned (.bool false) ∧ Gr w w' := by
  obtain ⟨X, hX⟩ : ∃ X, X = rwO x := ⟨_, rfl⟩
  obtain ⟨Y, hY⟩ : ∃ Y, Y = rwO y := ⟨_, rfl⟩
  obtain ⟨w1, hw1⟩ : ∃ w1, w1 = (w.alloc X).alloc Y := ⟨_, rfl⟩
  have x0 : w1.heap[w.heap.size]? = some (rwO x) := by rw [hw1]; exact hupK (by rw [heap_alloc_new, hX]) Y
  have y0 : w1.heap[w.heap.size + 1]? = some (rwO y) := by rw [hw1, heap_new2K, hY]
  have HG : Hid (Gr w w1) := by rw [hw1]; exact ((Gr.refl w).alloc X).alloc Y
  obtain ⟨a0, a1, a2, a3, a4, a5, a6, a7⟩ := rw_cells x0
  obtain ⟨b0, b1, b2, b3, b4, b5, b6, b7⟩ := rw_cells y0
  unfold rwO at hX hY
  unfold rwV
  clear x0 y0 a1 a2 a3 a6 a7 b1 b2 b3 b6 b7
  subst hX hY
  cases num with
  | false =>
    rw [ltR_false, nm_eq] at h
    simp only [Bool.or_eq_false_iff, Bool.and_eq_false_iff, decide_eq_false_iff_not] at h
    obtain ⟨h1, h2⟩ := h
    rcases slt_cases h1 with ⟨s1, s2⟩ | ⟨s1, s2⟩
    · clear h1 h2
      go_enter Try.func8, Try.ntmps8
      go_upto_region 1 with fail
      rw [← hw1]
      clear hw1
      go_wp2
      go_ret
      exact ⟨rfl, HG.out⟩
    · have h3 : ¬ (y.va < x.va) := by
        rcases h2 with h2 | h2
        · rw [nm_eq, decide_eq_true_iff] at s2
          exact absurd s2.symm h2
        · exact h2
      clear h1 h2
      go_enter Try.func8, Try.ntmps8
      go_upto_region 1 with fail
      rw [← hw1]
      clear hw1
      go_wp2
      go_ret
      exact ⟨rfl, HG.out⟩
  | true =>
    rw [ltR_true] at h
    have hcase : ((x.sc == 0) = true ∧ (y.sc == 0) = false ∧ (x.sc != y.sc) = true ∧ (x.sc != 0) = false) ∨ ((((x.sc == 0) = true ∧ (y.sc == 0) = true ∧ (x.sc != y.sc) = false) ∨ ((x.sc == 0) = false ∧ (y.sc == 0) = false)) ∧ ¬ (y.va < x.va) ∧ ((x.va == y.va) = false ∨ ((x.va == y.va) = true ∧ sltB y.nm x.nm = false))) := by
      have hrest : ((y.sc == 0) != (x.sc == 0)) = false → ¬ (y.va < x.va) ∧ ((x.va == y.va) = false ∨ ((x.va == y.va) = true ∧ sltB y.nm x.nm = false)) := by
        intro e
        rw [e, if_neg (by decide)] at h
        simp only [Bool.or_eq_false_iff, Bool.and_eq_false_iff, decide_eq_false_iff_not] at h
        refine ⟨h.1, ?_⟩
        by_cases v : x.va = y.va
        · refine .inr ⟨by simp [v], ?_⟩
          rcases h.2 with h2 | h2
          · simp [v] at h2
          · exact h2
        · exact .inl (by simp [v])
      by_cases p : x.sc = 0
      · by_cases u : y.sc = 0
        · exact .inr ⟨.inl ⟨by simp [p], by simp [u], by simp [p, u]⟩, hrest (by simp [p, u])⟩
        · exact .inl ⟨by simp [p], by simp [u], by rw [p]; simp [Ne.symm u], by simp [p]⟩
      · have e1 : (x.sc == 0) = false := by simp [p]
        by_cases u : y.sc = 0
        · have e2 : (y.sc == 0) = true := by simp [u]
          rw [e1, e2] at h
          simp at h
        · have e2 : (y.sc == 0) = false := by simp [u]
          exact .inr ⟨.inr ⟨e1, e2⟩, hrest (by rw [e1, e2]; rfl)⟩
    clear h
    rcases hcase with ⟨e1, e2, e3, e4⟩ | ⟨hs, h1, hv⟩
    · go_enter Try.func8, Try.ntmps8
      go_upto_region 1 with fail
      rw [← hw1]
      clear hw1
      go_wp2
      go_ret
      exact ⟨rfl, HG.out⟩
    · rcases hv with v | ⟨v, h3⟩
      · rcases hs with ⟨e1, e2, e3⟩ | ⟨e1, e2⟩ <;>
        · go_enter Try.func8, Try.ntmps8
          go_upto_region 1 with fail
          rw [← hw1]
          clear hw1
          go_wp2
          go_ret
          exact ⟨rfl, HG.out⟩
      · rcases slt_cases h3 with ⟨s1, s2⟩ | ⟨s1, s2⟩ <;> rcases hs with ⟨e1, e2, e3⟩ | ⟨e1, e2⟩ <;>
        · clear h3
          go_enter Try.func8, Try.ntmps8
          go_upto_region 1 with fail
          rw [← hw1]
          clear hw1
          go_wp2
          go_ret
          exact ⟨rfl, HG.out⟩
end Go.Proofs.Ytbmdclgndlddbaa
