import Derived.Test.YtnfplepaejjmfaaGreatDoorM5

-- arc: add, a contract (2).
namespace Go.Proofs.YtnfplepaejjmfaaGreatDoor
open Go.RowKit Go.Shelf
set_option linter.unusedVariables false
set_option maxRecDepth 100000

set_option maxHeartbeats 4000000 in
theorem add_ix (B n₀ : Nat) (pk pf ps : Int) (pi : ByteArray) (vm va : Value) (lm : List Value) (km : Nat) (la : List Value) (ka : Nat) (d u g m s a z k so nu : Int) (n fn nm da : ByteArray) (w : World) (hn : n₀ ≤ B)
    (hB : w.heap[B]? = some (.cells #[.int .i64 pk, .int .i64 pf, .string pi, .int .i64 ps, vm, va] 43 (0, 0))) (hM : w.ownsRow n₀ 54 7 vm km lm) (hA : w.ownsRow n₀ 3 1 va ka la) (ho : ¬ ordS so) (hs : ixS so) :
    Calls Tryz.prog 34 #[.pointer (some ⟨B, 0, none⟩), .agg #[.int .i64 d, .int .i64 u, .int .i64 g, .int .i64 m, .string n, .int .i64 s, .int .i64 a, .int .i64 z, .int .i64 k, .int .i64 so, .int .i64 nu, .string fn, .string nm, .string da]] w fun e w' => (∃ v, e = .returned v) ∧ w'.heap[B]? = some (.cells #[.int .i64 k, .int .i64 (formS so), .string da, .int .i64 d, vm, va] 43 (0, 0)) ∧ w'.ownsRow n₀ 54 7 vm km lm ∧ w'.ownsRow n₀ 3 1 va ka la ∧ Fr n₀ w w' := by
  have HO := fun w => isOrd_c d u g m s a z k so nu n fn nm da w
  have hlt : B < w.heap.size := (Array.getElem?_eq_some_iff.1 hB).1
  obtain ⟨c0, f0⟩ := one_row hB 0 _ rfl
  have hB0 := hup (set_row (i := 0) (.int .i64 k) hB) (.cells #[.int .i64 d, .int .i64 u, .int .i64 g, .int .i64 m, .string n, .int .i64 s, .int .i64 a, .int .i64 z, .int .i64 k, .int .i64 so, .int .i64 nu, .string fn, .string nm, .string da] 86)
  have hX0 : ((w.setCell ⟨B, 0, none⟩ (.int .i64 k)).alloc (.cells #[.int .i64 d, .int .i64 u, .int .i64 g, .int .i64 m, .string n, .int .i64 s, .int .i64 a, .int .i64 z, .int .i64 k, .int .i64 so, .int .i64 nu, .string fn, .string nm, .string da] 86)).heap[w.heap.size]? = some (.cells #[.int .i64 d, .int .i64 u, .int .i64 g, .int .i64 m, .string n, .int .i64 s, .int .i64 a, .int .i64 z, .int .i64 k, .int .i64 so, .int .i64 nu, .string fn, .string nm, .string da] 86 (0, 0)) := by
    have h := heap_alloc_new (w.setCell ⟨B, 0, none⟩ (.int .i64 k)) (.cells #[.int .i64 d, .int .i64 u, .int .i64 g, .int .i64 m, .string n, .int .i64 s, .int .i64 a, .int .i64 z, .int .i64 k, .int .i64 so, .int .i64 nu, .string fn, .string nm, .string da] 86)
    rw [show (w.setCell ⟨B, 0, none⟩ (.int .i64 k)).heap.size = w.heap.size from by simp] at h
    exact h
  have hf0 : Fr n₀ w ((w.setCell ⟨B, 0, none⟩ (.int .i64 k)).alloc (.cells #[.int .i64 d, .int .i64 u, .int .i64 g, .int .i64 m, .string n, .int .i64 s, .int .i64 a, .int .i64 z, .int .i64 k, .int .i64 so, .int .i64 nu, .string fn, .string nm, .string da] 86)) := (Fr.set hB hn (by decide) (by decide) (by decide) _).trans (Fr.alloc (by simp; omega) _)
  have hM0 := own_on (own_set (i := 0) hM hB (by decide) (.int .i64 k)) (bup (Below.refl _ _) (.cells #[.int .i64 d, .int .i64 u, .int .i64 g, .int .i64 m, .string n, .int .i64 s, .int .i64 a, .int .i64 z, .int .i64 k, .int .i64 so, .int .i64 nu, .string fn, .string nm, .string da] 86))
  have hA0 := own_on (own_set (i := 0) hA hB (by decide) (.int .i64 k)) (bup (Below.refl _ _) (.cells #[.int .i64 d, .int .i64 u, .int .i64 g, .int .i64 m, .string n, .int .i64 s, .int .i64 a, .int .i64 z, .int .i64 k, .int .i64 so, .int .i64 nu, .string fn, .string nm, .string da] 86))
  rw [decide_eq_false ho] at HO
  have HI := fun w => isIndex_c d u g m s a z k so nu n fn nm da w
  rw [decide_eq_true hs] at HI
  have HF := fun w => form_c d u g m s a z k so nu n fn nm da w
  generalize formS so = fs at HF ⊢
  clear ho hs hB hM hA
  go_enter Tryz.func34, Tryz.ntmps34
  go_wp2_with first | (go_at_call 48; refine (HO _).mono ?_; rintro e w1 ⟨rfl, hb1⟩; have hB1 := hkeep hb1 hB0; have hX1 := hkeep hb1 hX0; have hf1 := hf0.trans (Fr.of hb1 (by simp; omega)); have hM1 := own_on hM0 hb1; have hA1 := own_on hA0 hb1; obtain ⟨q0, q1, q2, q3, q4, q5, q6, q7, q8, q9, q10, q11, q12, q13⟩ := cells14 hX1; obtain ⟨c4, f4⟩ := one_row hB1 4 _ rfl; obtain ⟨c5, f5⟩ := one_row hB1 5 _ rfl) | (go_at_call 55; refine (HI _).mono ?_; rintro e w2 ⟨rfl, hb2⟩; have hB2 := hkeep hb2 hB1; have hX2 := hkeep hb2 hX1; have hf2 := hf1.trans (Fr.of hb2 (by have := hf1.below.size; omega)); have hM2 := own_on hM1 hb2; have hA2 := own_on hA1 hb2; obtain ⟨r0, r1, r2, r3, r4, r5, r6, r7, r8, r9, r10, r11, r12, r13⟩ := cells14 hX2; obtain ⟨c1, g1⟩ := one_row hB2 1 _ rfl; obtain ⟨c2, g2⟩ := one_row hB2 2 _ rfl; obtain ⟨c3, g3⟩ := one_row hB2 3 _ rfl)
  have hM2d : (w2.drew).ownsRow n₀ 54 7 vm km lm := hM2
  have hA2d : (w2.drew).ownsRow n₀ 3 1 va ka la := hA2
  have hB2d : (w2.drew).heap[B]? = some (.cells #[.int .i64 k, .int .i64 pf, .string pi, .int .i64 ps, vm, va] 43 (0, 0)) := hB2
  have hX2d : (w2.drew).heap[w.heap.size]? = some (.cells #[.int .i64 d, .int .i64 u, .int .i64 g, .int .i64 m, .string n, .int .i64 s, .int .i64 a, .int .i64 z, .int .i64 k, .int .i64 so, .int .i64 nu, .string fn, .string nm, .string da] 86 (0, 0)) := hX2
  have HFd := HF w2.drew
  have hf2d : Fr n₀ w w2.drew := hf2.trans (Fr.drew _)
  have hn2 : n₀ ≤ w2.drew.heap.size := by have := hf2.below.size; show n₀ ≤ w2.heap.size; omega
  clear HF HO HI hb1 hb2 hM1 hA1 hB1 hX1 hf1 q0 q1 q2 q3 q4 q5 q6 q7 q8 q9 q10 q11 q12 q13 c0 f0 c4 f4 c5 f5 hB2 hX2 hM2 hA2 hf2 hB0 hX0 hf0 hM0 hA0
  go_region_law (refine step_call rfl 56 (.tmp 43) 86 rfl (.agg #[.int .i64 d, .int .i64 u, .int .i64 g, .int .i64 m, .string n, .int .i64 s, .int .i64 a, .int .i64 z, .int .i64 k, .int .i64 so, .int .i64 nu, .string fn, .string nm, .string da]) (by simp [Act.eval]) (enters_of Tryz.func56 (by kernel_rfl) rfl) HFd ?_; rintro e w3 ⟨rfl, hb3⟩; refine ⟨_, rfl, ?_⟩; have hB3 := hkeep hb3 hB2d; have hX3 := hkeep hb3 hX2d; have s13 := cell_row hX3 13 _ rfl; have s0 := cell_row hX3 0 _ rfl; obtain ⟨d1, j1⟩ := one_row hB3 1 _ rfl; obtain ⟨d2, j2⟩ := one_row hB3 2 _ rfl; obtain ⟨d3, j3⟩ := one_row hB3 3 _ rfl)
  all_goals
    have hM3 := own_on hM2d hb3
    have hA3 := own_on hA2d hb3
    have hf3 := hf2d.trans (Fr.of hb3 hn2)
    have e1 := set_row (i := 1) (.int .i64 fs) hB3
    have e2 := set_row (i := 2) (.string da) e1
    have e3 := set_row (i := 3) (.int .i64 d) e2
    have hfin : _ ∧ _ ∧ _ ∧ Fr n₀ w (((w3.setCell ⟨B, 1, none⟩ (.int .i64 fs)).setCell ⟨B, 2, none⟩ (.string da)).setCell ⟨B, 3, none⟩ (.int .i64 d)) := ⟨e3, own_set (i := 3) (own_set (i := 2) (own_set (i := 1) hM3 hB3 (by decide) (.int .i64 fs)) e1 (by decide) (.string da)) e2 (by decide) (.int .i64 d), own_set (i := 3) (own_set (i := 2) (own_set (i := 1) hA3 hB3 (by decide) (.int .i64 fs)) e1 (by decide) (.string da)) e2 (by decide) (.int .i64 d), ((hf3.trans (Fr.set (i := 1) hB3 hn (by decide) (by decide) (by decide) (.int .i64 fs))).trans (Fr.set (i := 2) e1 hn (by decide) (by decide) (by decide) (.string da))).trans (Fr.set (i := 3) e2 hn (by decide) (by decide) (by decide) (.int .i64 d))⟩
    generalize ((w3.setCell ⟨B, 1, none⟩ (.int .i64 fs)).setCell ⟨B, 2, none⟩ (.string da)).setCell ⟨B, 3, none⟩ (.int .i64 d) = w4 at hfin ⊢
    clear e1 e2 e3 hM3 hA3 hf3 hB3 hX3
    go_wp2
    go_end0
    exact ⟨⟨_, rfl⟩, hfin⟩

end Go.Proofs.YtnfplepaejjmfaaGreatDoor
