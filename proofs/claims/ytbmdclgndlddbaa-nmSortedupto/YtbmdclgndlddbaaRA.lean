
-- The document's ahead.
import Derived.Test.YtbmdclgndlddbaaSQ
namespace Go.Proofs.Ytbmdclgndlddbaa
open Go.ChangeShapes Go.WideShapes Go.ChangeAt Go.RowKit Go.Sort
set_option linter.unusedVariables false
set_option maxRecDepth 100000
theorem nm_eq {a b : ByteArray} : (a.toList == b.toList) = decide (a = b) := by
  by_cases e : a = b
  · subst e; simp
  · rw [strNe e]; simp [e]
theorem ltR_false (x y : Rw) : ltR false x y = (sltB x.nm y.nm || ((x.nm.toList == y.nm.toList) && decide (x.va < y.va))) := by
  rw [nm_eq]
  unfold ltR
  rw [Bool.eq_iff_iff, decide_eq_true_iff, lt_iff]
  unfold LtR
  simp
theorem ltR_true (x y : Rw) : ltR true x y = (if ((x.sc == 0) != (y.sc == 0)) = true then (x.sc == 0) else (decide (x.va < y.va) || ((x.va == y.va) && sltB x.nm y.nm))) := by
  unfold ltR
  rw [Bool.eq_iff_iff, decide_eq_true_iff, lt_iff]
  unfold LtR
  by_cases h1 : x.sc = 0
  · by_cases h2 : y.sc = 0
    · simp [h1, h2]
    · have e2 : (y.sc == 0) = false := by simp [h2]
      simp [h1, h2, e2]
  · have e1 : (x.sc == 0) = false := by simp [h1]
    by_cases h2 : y.sc = 0
    · simp [h1, h2, e1]
    · have e2 : (y.sc == 0) = false := by simp [h2]
      simp [h1, h2, e1, e2]
set_option maxHeartbeats 8000000 in
theorem rahead_c (num : Bool) (x y : Rw) (w : World) : Calls Try.prog 28 #[rwV x, rwV y, .bool num] w fun e w' => e = .returned (.bool (ltR num x y)) ∧ Gr w w' := by
  obtain ⟨X, hX⟩ : ∃ X, X = rwO x := ⟨_, rfl⟩
  obtain ⟨Y, hY⟩ : ∃ Y, Y = rwO y := ⟨_, rfl⟩
  obtain ⟨w1, hw1⟩ : ∃ w1, w1 = (w.alloc X).alloc Y := ⟨_, rfl⟩
  have x0 : w1.heap[w.heap.size]? = some (rwO x) := by rw [hw1]; exact hupK (by rw [heap_alloc_new, hX]) Y
  have y0 : w1.heap[w.heap.size + 1]? = some (rwO y) := by rw [hw1, heap_new2K, hY]
  have HG : Hid (Gr w w1) := by rw [hw1]; exact ((Gr.refl w).alloc X).alloc Y
  obtain ⟨a0, a1, a2, a3, a4, a5, a6, a7⟩ := rw_cells x0
  obtain ⟨b0, b1, b2, b3, b4, b5, b6, b7⟩ := rw_cells y0
  obtain ⟨r, hr⟩ : ∃ r, r = ltR num x y := ⟨_, rfl⟩
  rw [← hr]
  unfold rwO at hX hY
  unfold rwV
  clear x0 y0 a1 a2 a3 a6 a7 b1 b2 b3 b6 b7
  subst hX hY
  cases num with
  | false =>
    have HR : Hid (r = (Op.bytesLess x.nm.toList y.nm.toList || ((x.nm.toList == y.nm.toList) && decide (x.va < y.va)))) := by show _ = _; rw [hr, ltR_false]; rfl
    clear hr
    go_enter Try.func28, Try.ntmps28
    go_upto_region 1 with fail
    rw [← hw1]
    clear hw1
    obtain ⟨s, hs⟩ : ∃ s, Op.bytesLess x.nm.toList y.nm.toList = s := ⟨_, rfl⟩
    obtain ⟨q, hq⟩ : ∃ q, (x.nm.toList == y.nm.toList) = q := ⟨_, rfl⟩
    rw [hs, hq] at HR
    cases s
    · cases q
      · go_wp2
        go_ret
        exact ⟨by rw [HR.out]; rfl, HG.out⟩
      · by_cases h3 : x.va < y.va
        · rw [decide_eq_true h3] at HR
          go_wp2
          go_ret
          exact ⟨by rw [HR.out]; rfl, HG.out⟩
        · rw [decide_eq_false h3] at HR
          go_wp2
          go_ret
          exact ⟨by rw [HR.out]; rfl, HG.out⟩
    · go_wp2
      go_ret
      exact ⟨by rw [HR.out]; rfl, HG.out⟩
  | true =>
    have HR : Hid (r = if ((x.sc == 0) != (y.sc == 0)) = true then (x.sc == 0) else (decide (x.va < y.va) || ((x.va == y.va) && Op.bytesLess x.nm.toList y.nm.toList))) := by show _ = _; rw [hr, ltR_true]; rfl
    clear hr
    go_enter Try.func28, Try.ntmps28
    go_upto_region 1 with fail
    rw [← hw1]
    clear hw1
    obtain ⟨p, hp⟩ : ∃ p, (x.sc == 0) = p := ⟨_, rfl⟩
    obtain ⟨u, hu⟩ : ∃ p, (y.sc == 0) = p := ⟨_, rfl⟩
    obtain ⟨s, hs⟩ : ∃ s, Op.bytesLess x.nm.toList y.nm.toList = s := ⟨_, rfl⟩
    rw [hp, hu, hs] at HR
    cases p <;> cases u
    · by_cases h3 : x.va < y.va
      · go_wp2
        go_ret
        exact ⟨by rw [HR.out]; simp [h3], HG.out⟩
      · by_cases h4 : x.va = y.va
        · cases s
          · go_wp2
            go_ret
            exact ⟨by rw [HR.out]; simp [h3], HG.out⟩
          · go_wp2
            go_ret
            exact ⟨by rw [HR.out]; simp [h4], HG.out⟩
        · have h5 : (x.va == y.va) = false := by simp [h4]
          go_wp2
          go_ret
          exact ⟨by rw [HR.out]; simp [h3, h4], HG.out⟩
    · go_wp2
      go_ret
      exact ⟨by rw [HR.out]; rfl, HG.out⟩
    · go_wp2
      go_ret
      exact ⟨by rw [HR.out]; rfl, HG.out⟩
    · by_cases h3 : x.va < y.va
      · go_wp2
        go_ret
        exact ⟨by rw [HR.out]; simp [h3], HG.out⟩
      · by_cases h4 : x.va = y.va
        · cases s
          · go_wp2
            go_ret
            exact ⟨by rw [HR.out]; simp [h3], HG.out⟩
          · go_wp2
            go_ret
            exact ⟨by rw [HR.out]; simp [h4], HG.out⟩
        · have h5 : (x.va == y.va) = false := by simp [h4]
          go_wp2
          go_ret
          exact ⟨by rw [HR.out]; simp [h3, h4], HG.out⟩
end Go.Proofs.Ytbmdclgndlddbaa
