import Derived.Test.YtnfplepaejjmfaaGreatDoorR4a

-- arc: add, a contract.
namespace Go.Proofs.YtnfplepaejjmfaaGreatDoor
open Go.RowKit Go.Shelf
set_option linter.unusedVariables false
set_option maxRecDepth 100000
set_option maxHeartbeats 4000000 in
theorem add_or (B n₀ : Nat) (pk pf ps : Int) (pi : ByteArray) (vm va : Value) (lm : List Value) (km : Nat) (la : List Value) (ka : Nat) (d u g m s a z k so nu : Int) (n fn nm da : ByteArray) (w : World) (hn : n₀ ≤ B)
    (hB : w.heap[B]? = some (.cells #[.int .i64 pk, .int .i64 pf, .string pi, .int .i64 ps, vm, va] 43 (0, 0))) (hM : w.ownsRow n₀ 54 7 vm km lm) (hA : w.ownsRow n₀ 3 1 va ka la) (ho : ordS so) (hk1 : km < 4294967296) (hk2 : ka < 4294967296) :
    Calls Tryz.prog 34 #[.pointer (some ⟨B, 0, none⟩), .agg #[.int .i64 d, .int .i64 u, .int .i64 g, .int .i64 m, .string n, .int .i64 s, .int .i64 a, .int .i64 z, .int .i64 k, .int .i64 so, .int .i64 nu, .string fn, .string nm, .string da]] w fun e w' => (∃ v, e = .returned v) ∧ ∃ vm' va', w'.heap[B]? = some (.cells #[.int .i64 k, .int .i64 pf, .string pi, .int .i64 ps, vm', va'] 43 (0, 0)) ∧ w'.ownsRow n₀ 54 7 vm' (km + 1) (lm ++ [.int .i64 d, .int .i64 u, .int .i64 g, .int .i64 m, .string nm, .int .i64 s, .string da]) ∧ w'.ownsRow n₀ 3 1 va' (ka + 1) (la ++ [.int .i64 a]) ∧ Fr n₀ w w' := by
  obtain ⟨i0, hi, hz0, hz1, hz2⟩ := info_parts infoM
  obtain ⟨i3, hi3, hy0, hy1, hy2⟩ := info_parts info3
  have HO := fun w => isOrd_c d u g m s a z k so nu n fn nm da w
  have hlt : B < w.heap.size := (Array.getElem?_eq_some_iff.1 hB).1
  obtain ⟨c0, f0⟩ := one_row hB 0 _ rfl
  have hB0 := hup (set_row (i := 0) (.int .i64 k) hB) (.cells #[.int .i64 d, .int .i64 u, .int .i64 g, .int .i64 m, .string n, .int .i64 s, .int .i64 a, .int .i64 z, .int .i64 k, .int .i64 so, .int .i64 nu, .string fn, .string nm, .string da] 86)
  have hX0 : ((w.setCell ⟨B, 0, none⟩ (.int .i64 k)).alloc (.cells #[.int .i64 d, .int .i64 u, .int .i64 g, .int .i64 m, .string n, .int .i64 s, .int .i64 a, .int .i64 z, .int .i64 k, .int .i64 so, .int .i64 nu, .string fn, .string nm, .string da] 86)).heap[w.heap.size]? = some (.cells #[.int .i64 d, .int .i64 u, .int .i64 g, .int .i64 m, .string n, .int .i64 s, .int .i64 a, .int .i64 z, .int .i64 k, .int .i64 so, .int .i64 nu, .string fn, .string nm, .string da] 86 (0, 0)) := by
    have h := heap_alloc_new (w.setCell ⟨B, 0, none⟩ (.int .i64 k)) (.cells #[.int .i64 d, .int .i64 u, .int .i64 g, .int .i64 m, .string n, .int .i64 s, .int .i64 a, .int .i64 z, .int .i64 k, .int .i64 so, .int .i64 nu, .string fn, .string nm, .string da] 86)
    rw [show (w.setCell ⟨B, 0, none⟩ (.int .i64 k)).heap.size = w.heap.size from by simp] at h
    exact h
  have hf0 : Fr n₀ w ((w.setCell ⟨B, 0, none⟩ (.int .i64 k)).alloc (.cells #[.int .i64 d, .int .i64 u, .int .i64 g, .int .i64 m, .string n, .int .i64 s, .int .i64 a, .int .i64 z, .int .i64 k, .int .i64 so, .int .i64 nu, .string fn, .string nm, .string da] 86)) := (Fr.set hB hn (by decide) (by decide) (by decide) _).trans (Fr.alloc (by simp; omega) _)
  have hM0 := own_on (own_set (i := 0) hM hB (by decide) (.int .i64 k)) (bup (Below.refl _ _) (.cells #[.int .i64 d, .int .i64 u, .int .i64 g, .int .i64 m, .string n, .int .i64 s, .int .i64 a, .int .i64 z, .int .i64 k, .int .i64 so, .int .i64 nu, .string fn, .string nm, .string da] 86))
  have hA0 := own_on (own_set (i := 0) hA hB (by decide) (.int .i64 k)) (bup (Below.refl _ _) (.cells #[.int .i64 d, .int .i64 u, .int .i64 g, .int .i64 m, .string n, .int .i64 s, .int .i64 a, .int .i64 z, .int .i64 k, .int .i64 so, .int .i64 nu, .string fn, .string nm, .string da] 86))
  rw [decide_eq_true ho] at HO
  have HMm := fun w => member_c d u g m s a z k so nu n fn nm da w
  clear ho hB hM hA
  go_enter Tryz.func34, Tryz.ntmps34
  go_wp2_with (go_at_call 48; refine (HO _).mono ?_; rintro e w1 ⟨rfl, hb1⟩; have hB1 := hkeep hb1 hB0; have hX1 := hkeep hb1 hX0; have hf1 := hf0.trans (Fr.of hb1 (by simp; omega)); have hM1 := own_on hM0 hb1; have hA1 := own_on hA0 hb1; obtain ⟨q0, q1, q2, q3, q4, q5, q6, q7, q8, q9, q10, q11, q12, q13⟩ := cells14 hX1; obtain ⟨c4, f4⟩ := one_row hB1 4 _ rfl; obtain ⟨c5, f5⟩ := one_row hB1 5 _ rfl)
  have hM1d : (w1.drew).ownsRow n₀ 54 7 vm km lm := hM1
  have hA1d : (w1.drew).ownsRow n₀ 3 1 va ka la := hA1
  have hB1d : (w1.drew).heap[B]? = some (.cells #[.int .i64 k, .int .i64 pf, .string pi, .int .i64 ps, vm, va] 43 (0, 0)) := hB1
  have hX1d : (w1.drew).heap[w.heap.size]? = some (.cells #[.int .i64 d, .int .i64 u, .int .i64 g, .int .i64 m, .string n, .int .i64 s, .int .i64 a, .int .i64 z, .int .i64 k, .int .i64 so, .int .i64 nu, .string fn, .string nm, .string da] 86 (0, 0)) := hX1
  have HMd := HMm w1.drew
  have hn1 : n₀ ≤ w1.drew.heap.size := by have := hf1.below.size; show n₀ ≤ w1.heap.size; omega
  have hf1d : Fr n₀ w w1.drew := hf1.trans (Fr.drew _)
  clear HMm HO hb1 c0 f0 hM1 hA1 hB1 hX1 hf1
  go_region_law (first
    | (refine step_call rfl 49 (.tmp 19) 86 rfl (.agg #[.int .i64 d, .int .i64 u, .int .i64 g, .int .i64 m, .string n, .int .i64 s, .int .i64 a, .int .i64 z, .int .i64 k, .int .i64 so, .int .i64 nu, .string fn, .string nm, .string da]) (by simp [Act.eval]) (enters_of Tryz.func49 (by kernel_rfl) rfl) HMd ?_; rintro e w2 ⟨rfl, hb2⟩; refine ⟨_, rfl, ?_⟩; have hM2 := own_on (own_on hM1d hb2) (bup (Below.refl _ _) (.cells #[.int .i64 d, .int .i64 u, .int .i64 g, .int .i64 m, .string nm, .int .i64 s, .string da] 54)); have c4' := cell_row (hkeep hb2 hB1d) 4 _ rfl; have hlt2 : B < w2.heap.size := (Array.getElem?_eq_some_iff.1 (hkeep hb2 hB1d)).1; have hn2 : n₀ ≤ w2.heap.size := Nat.le_trans hn1 hb2.size)
    | (refine step_append_own rfl (.tmp 18) (.tmp 21) 23 rfl n₀ 54 i0 (.agg #[.int .i64 0, .int .i64 0, .int .i64 0, .int .i64 0, .string ⟨#[]⟩, .int .i64 0, .string ⟨#[]⟩]) 7 72 Tryz.underlying23 hi hz0 hz1 hz2 rfl (by decide) vm km lm (by simp [Act.eval]) hM2 ⟨w2.heap.size, 0, none⟩ 1 1 [.int .i64 d, .int .i64 u, .int .i64 g, .int .i64 m, .string nm, .int .i64 s, .string da] (by simp [Act.eval]) rfl (new_row w2 #[.int .i64 d, .int .i64 u, .int .i64 g, .int .i64 m, .string nm, .int .i64 s, .string da] 54 [.int .i64 d, .int .i64 u, .int .i64 g, .int .i64 m, .string nm, .int .i64 s, .string da] rfl) (by intro u hu; simp at hu; rcases hu with rfl | rfl | rfl | rfl | rfl | rfl | rfl <;> rfl) (by unfold maxLen; omega) (by omega) (by rw [World.size_alloc]; omega) ?_; intro v3 w3 ho3 hg3; obtain ⟨g3, cap3, rfl⟩ := ownsRow_succ ho3; have hB3 := row_grown (row_keep hB1d hb2 _) hM2 (by decide) hg3; obtain ⟨c43, f43⟩ := one_row hB3 4 _ rfl; have hX3 := row_grown (row_keep hX1d hb2 _) hM2 (by decide) hg3))
  all_goals
    have hf3 : Fr n₀ w w3 := (hf1d.trans ((Fr.of hb2 hn1).trans (Fr.alloc hn2 _))).trans (Fr.grown hg3 hM2 (by rw [World.size_alloc]; omega) (by decide) (by decide) (by decide))
    have hn3 : n₀ ≤ w3.heap.size := by have := hf3.below.size; omega
    have hA3 := own_grown (own_on (own_on hA1d hb2) (bup (Below.refl _ _) (.cells #[.int .i64 d, .int .i64 u, .int .i64 g, .int .i64 m, .string nm, .int .i64 s, .string da] 54))) hM2 (by decide) hg3
    have hB4 := set_row (i := 4) (.slice (some ⟨g3, 0, none⟩) (km + 1) cap3) hB3
    have hX4 := (heap_setCell_other w3 ⟨B, 4, none⟩ w.heap.size (.slice (some ⟨g3, 0, none⟩) (km + 1) cap3) (by show w.heap.size ≠ B; omega)).trans hX3
    have hM4 := own_set (i := 4) ho3 hB3 (by decide) (.slice (some ⟨g3, 0, none⟩) (km + 1) cap3)
    have hA4 := own_set (i := 4) hA3 hB3 (by decide) (.slice (some ⟨g3, 0, none⟩) (km + 1) cap3)
    have hf4 := hf3.trans (Fr.set (i := 4) hB3 hn (by decide) (by decide) (by decide) (.slice (some ⟨g3, 0, none⟩) (km + 1) cap3))
    have hsz4 : (w3.setCell ⟨B, 4, none⟩ (.slice (some ⟨g3, 0, none⟩) (km + 1) cap3)).heap.size = w3.heap.size := by simp
    generalize w3.setCell ⟨B, 4, none⟩ (.slice (some ⟨g3, 0, none⟩) (km + 1) cap3) = w4 at hB4 hX4 hM4 hA4 hf4 hsz4 ⊢
    rw [← hsz4] at hn3
    clear hsz4 hg3 hM2 hb2 hB3 hX3 ho3 hf3 hA3 c43 f43 c4'
    clear hM1d hA1d hB1d hX1d HMd hn1 hf1d
    have hM5 : (w4.drew).ownsRow n₀ 54 7 _ _ _ := hM4
    have hA5 : (w4.drew).ownsRow n₀ 3 1 va ka la := hA4
    have hB5 : (w4.drew).heap[B]? = _ := hB4
    have c55 := cell_row hB4 5 _ rfl
    have q66 := cell_row hX4 6 _ rfl
    have hf5 : Fr n₀ w w4.drew := hf4.trans (Fr.drew _)
    have hn5 : n₀ ≤ (w4.drew).heap.size := hn3
    have hlt5 : B < w4.heap.size := (Array.getElem?_eq_some_iff.1 hB4).1
    have hlx5 : w.heap.size < w4.heap.size := (Array.getElem?_eq_some_iff.1 hX4).1
    have hA6 : ((w4.alloc (.cells #[.int .i64 a] 3)).drew).ownsRow n₀ 3 1 va ka la := own_on hA5 (bup (Below.refl _ _) (.cells #[.int .i64 a] 3))
    have hM6' : ((w4.alloc (.cells #[.int .i64 a] 3)).drew).ownsRow n₀ 54 7 _ _ _ := own_on hM5 (bup (Below.refl _ _) (.cells #[.int .i64 a] 3))
    have hB6' : ((w4.alloc (.cells #[.int .i64 a] 3)).drew).heap[B]? = _ := hup hB5 (.cells #[.int .i64 a] 3)
    have hN6 : ∀ (j : Nat) (u : Value), [Value.int .i64 a][j]? = some u → ((w4.alloc (.cells #[.int .i64 a] 3)).drew).cell? (Addr.add ⟨w4.heap.size, 0, none⟩ j) = some u := new_row w4 #[.int .i64 a] 3 [.int .i64 a] rfl
    have hn6 : n₀ ≤ ((w4.alloc (.cells #[.int .i64 a] 3)).drew).heap.size := by show n₀ ≤ (w4.alloc (.cells #[.int .i64 a] 3)).heap.size; rw [World.size_alloc]; exact Nat.le_succ_of_le hn3
    have hf6' : Fr n₀ w ((w4.alloc (.cells #[.int .i64 a] 3)).drew) := (hf4.trans (Fr.alloc hn3 _)).trans (Fr.drew _)
    clear hlt2 hn2 hX4 hM4 hA4 hf4 hn3 q0 q1 q2 q3 q4 q5 q6 q7 q8 q9 q10 q11 q12 q13 c4 f4 c5 f5
    go_wp2
    go_region_law (refine step_append_own rfl (.tmp 30) (.tmp 33) 22 rfl n₀ 3 i3 (.int .i64 0) 1 8 Tryz.underlying22 hi3 hy0 hy1 hy2 rfl (by decide) va ka la (by simp [Act.eval]) hA6 ⟨w4.heap.size, 0, none⟩ 1 1 [.int .i64 a] (by simp [Act.eval]) rfl hN6 (by intro u hu; simp at hu; subst hu; rfl) (by unfold maxLen; omega) (by omega) hn6 ?_; intro v6 w6 ho6 hg6; obtain ⟨g6, cap6, rfl⟩ := ownsRow_succ ho6; have hB6 := row_grown hB6' hA6 (by decide) hg6; obtain ⟨c56, f56⟩ := one_row hB6 5 _ rfl)
    all_goals
      have hf6 : Fr n₀ w w6 := hf6'.trans (Fr.grown hg6 hA6 hn6 (by decide) (by decide) (by decide))
      have hM6 := own_grown hM6' hA6 (by decide) hg6
      have hfin : (w6.setCell ⟨B, 5, none⟩ (.slice (some ⟨g6, 0, none⟩) (ka + 1) cap6)).heap[B]? = _ ∧ _ ∧ _ ∧ Fr n₀ w _ := ⟨set_row (i := 5) (.slice (some ⟨g6, 0, none⟩) (ka + 1) cap6) hB6, own_set (i := 5) hM6 hB6 (by decide) (.slice (some ⟨g6, 0, none⟩) (ka + 1) cap6), own_set (i := 5) ho6 hB6 (by decide) (.slice (some ⟨g6, 0, none⟩) (ka + 1) cap6), hf6.trans (Fr.set (i := 5) hB6 hn (by decide) (by decide) (by decide) (.slice (some ⟨g6, 0, none⟩) (ka + 1) cap6))⟩
      generalize w6.setCell ⟨B, 5, none⟩ (.slice (some ⟨g6, 0, none⟩) (ka + 1) cap6) = w7 at hfin ⊢
      clear hf6 hM6 hg6 hA6 hM5 hB5 hB6 ho6 hA5 hf5 c55 q66 c56 f56 hB4 hM6' hB6' hN6 hf6'
      go_wp2
      go_end0
      exact ⟨⟨_, rfl⟩, _, _, hfin⟩

end Go.Proofs.YtnfplepaejjmfaaGreatDoor

-- arc: add, a contract (2).
namespace Go.Proofs.YtnfplepaejjmfaaGreatDoor
open Go.RowKit Go.Shelf
set_option linter.unusedVariables false
set_option maxRecDepth 100000

set_option maxHeartbeats 4000000 in
theorem add_tb (B n₀ : Nat) (pk pf ps : Int) (pi : ByteArray) (vm va : Value) (lm : List Value) (km : Nat) (la : List Value) (ka : Nat) (d u g m s a z k so nu : Int) (n fn nm da : ByteArray) (w : World) (hn : n₀ ≤ B)
    (hB : w.heap[B]? = some (.cells #[.int .i64 pk, .int .i64 pf, .string pi, .int .i64 ps, vm, va] 43 (0, 0))) (hM : w.ownsRow n₀ 54 7 vm km lm) (hA : w.ownsRow n₀ 3 1 va ka la) (ho : ¬ ordS so) (hs : ¬ ixS so) :
    Calls Tryz.prog 34 #[.pointer (some ⟨B, 0, none⟩), .agg #[.int .i64 d, .int .i64 u, .int .i64 g, .int .i64 m, .string n, .int .i64 s, .int .i64 a, .int .i64 z, .int .i64 k, .int .i64 so, .int .i64 nu, .string fn, .string nm, .string da]] w fun e w' => (∃ v, e = .returned v) ∧ w'.heap[B]? = some (.cells #[.int .i64 k, .int .i64 pf, .string pi, .int .i64 ps, vm, va] 43 (0, 0)) ∧ w'.ownsRow n₀ 54 7 vm km lm ∧ w'.ownsRow n₀ 3 1 va ka la ∧ Fr n₀ w w' := by
  have HO := fun w => isOrd_c d u g m s a z k so nu n fn nm da w
  have hlt : B < w.heap.size := (Array.getElem?_eq_some_iff.1 hB).1
  obtain ⟨c0, f0⟩ := one_row hB 0 _ rfl
  have hB0 := hup (set_row (i := 0) (.int .i64 k) hB) (.cells #[.int .i64 d, .int .i64 u, .int .i64 g, .int .i64 m, .string n, .int .i64 s, .int .i64 a, .int .i64 z, .int .i64 k, .int .i64 so, .int .i64 nu, .string fn, .string nm, .string da] 86)
  have hX0 : ((w.setCell ⟨B, 0, none⟩ (.int .i64 k)).alloc (.cells #[.int .i64 d, .int .i64 u, .int .i64 g, .int .i64 m, .string n, .int .i64 s, .int .i64 a, .int .i64 z, .int .i64 k, .int .i64 so, .int .i64 nu, .string fn, .string nm, .string da] 86)).heap[w.heap.size]? = some (.cells #[.int .i64 d, .int .i64 u, .int .i64 g, .int .i64 m, .string n, .int .i64 s, .int .i64 a, .int .i64 z, .int .i64 k, .int .i64 so, .int .i64 nu, .string fn, .string nm, .string da] 86 (0, 0)) := by
    have h := heap_alloc_new (w.setCell ⟨B, 0, none⟩ (.int .i64 k)) (.cells #[.int .i64 d, .int .i64 u, .int .i64 g, .int .i64 m, .string n, .int .i64 s, .int .i64 a, .int .i64 z, .int .i64 k, .int .i64 so, .int .i64 nu, .string fn, .string nm, .string da] 86)
    rw [show (w.setCell ⟨B, 0, none⟩ (.int .i64 k)).heap.size = w.heap.size from by simp] at h
    exact h
  have hf0 : Fr n₀ w ((w.setCell ⟨B, 0, none⟩ (.int .i64 k)).alloc (.cells #[.int .i64 d, .int .i64 u, .int .i64 g, .int .i64 m, .string n, .int .i64 s, .int .i64 a, .int .i64 z, .int .i64 k, .int .i64 so, .int .i64 nu, .string fn, .string nm, .string da] 86)) := (Fr.set hB hn (by decide) (by decide) (by decide) _).trans (Fr.alloc (by simp; omega) _)
  have hM0 := own_on (own_set (i := 0) hM hB (by decide) (.int .i64 k)) (bup (Below.refl _ _) (.cells #[.int .i64 d, .int .i64 u, .int .i64 g, .int .i64 m, .string n, .int .i64 s, .int .i64 a, .int .i64 z, .int .i64 k, .int .i64 so, .int .i64 nu, .string fn, .string nm, .string da] 86))
  have hA0 := own_on (own_set (i := 0) hA hB (by decide) (.int .i64 k)) (bup (Below.refl _ _) (.cells #[.int .i64 d, .int .i64 u, .int .i64 g, .int .i64 m, .string n, .int .i64 s, .int .i64 a, .int .i64 z, .int .i64 k, .int .i64 so, .int .i64 nu, .string fn, .string nm, .string da] 86))
  rw [decide_eq_false ho] at HO
  have HI := fun w => isIndex_c d u g m s a z k so nu n fn nm da w
  rw [decide_eq_false hs] at HI
  clear ho hs hB hM hA
  go_enter Tryz.func34, Tryz.ntmps34
  go_wp2_with first | (go_at_call 48; refine (HO _).mono ?_; rintro e w1 ⟨rfl, hb1⟩; have hB1 := hkeep hb1 hB0; have hX1 := hkeep hb1 hX0; have hf1 := hf0.trans (Fr.of hb1 (by simp; omega)); have hM1 := own_on hM0 hb1; have hA1 := own_on hA0 hb1; obtain ⟨q0, q1, q2, q3, q4, q5, q6, q7, q8, q9, q10, q11, q12, q13⟩ := cells14 hX1; obtain ⟨c4, f4⟩ := one_row hB1 4 _ rfl; obtain ⟨c5, f5⟩ := one_row hB1 5 _ rfl) | (go_at_call 55; refine (HI _).mono ?_; rintro e w2 ⟨rfl, hb2⟩; have hB2 := hkeep hb2 hB1; have hX2 := hkeep hb2 hX1; have hf2 := hf1.trans (Fr.of hb2 (by have := hf1.below.size; omega)); have hM2 := own_on hM1 hb2; have hA2 := own_on hA1 hb2; obtain ⟨r0, r1, r2, r3, r4, r5, r6, r7, r8, r9, r10, r11, r12, r13⟩ := cells14 hX2; obtain ⟨c1, g1⟩ := one_row hB2 1 _ rfl; obtain ⟨c2, g2⟩ := one_row hB2 2 _ rfl; obtain ⟨c3, g3⟩ := one_row hB2 3 _ rfl)
  go_end0
  exact ⟨⟨_, rfl⟩, hB2, hM2, hA2, hf2⟩

end Go.Proofs.YtnfplepaejjmfaaGreatDoor
