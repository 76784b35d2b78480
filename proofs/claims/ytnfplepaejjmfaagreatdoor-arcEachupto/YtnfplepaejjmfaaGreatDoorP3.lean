
-- arc: what is asked of a part.
import Derived.Test.YtnfplepaejjmfaaGreatDoorP2
import Derived.Test.YtnfplepaejjmfaaGreatDoorD1
namespace Go.Proofs.YtnfplepaejjmfaaGreatDoor
open Go.ChangeShapes Go.WideShapes Go.ChangeAt Go.RowKit
set_option linter.unusedVariables false
set_option maxRecDepth 100000
theorem heap_new2 (w : World) (o o' : Obj) : ((w.alloc o).alloc o').heap[w.heap.size + 1]? = some o' := by
  have h := heap_alloc_new (w.alloc o) o'
  rwa [World.size_alloc] at h
theorem below_drewN {n : Nat} {a b : World} (h : Below n a b) (k : Nat) : Below n a (b.drewN k) := by
  induction k with
  | zero => exact h
  | succ k ih => exact ih.drew

set_option maxHeartbeats 1000000 in
theorem hasData_c  (d u g m s a z k so nu : Int) (n fn nm da : ByteArray) (w : World) :
    Calls Tryz.prog 98 #[.agg #[.int .i64 d, .int .i64 u, .int .i64 g, .int .i64 m, .string n, .int .i64 s, .int .i64 a, .int .i64 z, .int .i64 k, .int .i64 so, .int .i64 nu, .string fn, .string nm, .string da]] w fun e w' => e = .returned (.bool (!decide (k = 1 ∧ ordS so))) ∧ Below w.heap.size w w' := by
  have HO := fun w => isOrd_c d u g m s a z k so nu n fn nm da w
  by_cases h : k = 1
  · subst h
    have e : decide ((1 : Int) = 1 ∧ ordS so) = decide (ordS so) := by simp
    rw [e]
    generalize decide (ordS so) = O at HO ⊢
    clear e
    go_enter Tryz.func98, Tryz.ntmps98
    go_wp2_with (go_at_call 48; refine (HO _).mono ?_; rintro e w1 ⟨rfl, hb1⟩)
    go_ret
    exact ⟨rfl, bel3 (bup (Below.refl _ _) _) hb1⟩
  · have e : decide (k = 1 ∧ ordS so) = false := decide_eq_false (fun q => h q.1)
    rw [e]
    have c1 : (k == 1) = false := by simp [h]
    have c2 : (k != 1) = true := by simp [bne, c1]
    clear e h HO
    go_enter Tryz.func98, Tryz.ntmps98
    go_wp2
    go_ret
    exact ⟨rfl, bup (Below.refl _ _) _⟩

set_option maxHeartbeats 1000000 in
theorem goes_c  (d u g m s a z k so nu : Int) (n fn nm da : ByteArray) (w : World) :
    Calls Tryz.prog 74 #[.agg #[.int .i64 d, .int .i64 u, .int .i64 g, .int .i64 m, .string n, .int .i64 s, .int .i64 a, .int .i64 z, .int .i64 k, .int .i64 so, .int .i64 nu, .string fn, .string nm, .string da]] w fun e w' => e = .returned (.bool (decide (goesW k so))) ∧ Below w.heap.size w w' := by
  have e : ((kindI so == 2) == (k == 2)) = decide (goesW k so) := by
    rw [Bool.eq_iff_iff]; simp only [beq_iff_eq, decide_eq_true_eq, goesW]; rw [Bool.eq_iff_iff]; simp only [beq_iff_eq]
  rw [← e]
  have HK := fun w => pkind_c so w
  generalize kindI so = K at HK ⊢
  clear e
  go_enter Tryz.func74, Tryz.ntmps74
  go_wp2
  go_quiet (first | (go_at_call 97; exact Calls.quiet_of_same (HK _)))
  go_wp2
  go_ret
  exact ⟨rfl, below_drewN (bup (Below.refl _ _) _) _⟩

set_option maxHeartbeats 1000000 in
theorem kindAt_c (B : Nat) (wf wt : ByteArray) (wa wc wk : Int) (wi : Bool) (d u g m s a z k so nu : Int) (n fn nm da : ByteArray) (w : World) (hB : w.heap[B]? = some (.cells #[.string wf, .int .i64 wa, .int .i64 wc, .int .i64 wk, .bool wi, .string wt] 111 (0, 0))) :
    Calls Tryz.prog 73 #[.pointer (some ⟨B, 0, none⟩), .agg #[.int .i64 d, .int .i64 u, .int .i64 g, .int .i64 m, .string n, .int .i64 s, .int .i64 a, .int .i64 z, .int .i64 k, .int .i64 so, .int .i64 nu, .string fn, .string nm, .string da]] w fun e w' => e = .returned (.int .i64 (if wc = 0 ∧ ¬ wk = 1 then kindI so else wk)) ∧ Below w.heap.size w w' := by
  have hlt : B < w.heap.size := (Array.getElem?_eq_some_iff.1 hB).1
  have c2 := cell_row hB 2 _ rfl
  have c3 := cell_row hB 3 _ rfl
  have HK := fun w => pkind_c so w
  clear hB
  by_cases h0 : wc = 0
  · subst h0
    by_cases h1 : wk = 1
    · subst h1
      go_enter Tryz.func73, Tryz.ntmps73
      go_wp2
      go_ret
      exact ⟨rfl, bup (Below.refl _ _) _⟩
    · rw [if_pos ⟨rfl, h1⟩]
      have b1 : (wk == 1) = false := by simp [h1]
      have b2 : (wk != 1) = true := by simp [bne, b1]
      generalize kindI so = K at HK ⊢
      clear h1
      go_enter Tryz.func73, Tryz.ntmps73
      go_wp2_with (go_at_call 97; refine (HK _).mono ?_; rintro e w1 ⟨rfl, hw1⟩; subst w1)
      go_ret
      exact ⟨rfl, bup (Below.refl _ _) _⟩
  · rw [if_neg (fun q => h0 q.1)]
    have b1 : (wc == 0) = false := by simp [h0]
    clear h0
    go_enter Tryz.func73, Tryz.ntmps73
    go_wp2
    go_ret
    exact ⟨rfl, bup (Below.refl _ _) _⟩

set_option maxHeartbeats 1000000 in
theorem place_ix (B : Nat) (wf wt : ByteArray) (wa wc wk : Int) (wi : Bool) (d u g m s a z k so nu : Int) (n fn nm da : ByteArray) (w : World) (hB : w.heap[B]? = some (.cells #[.string wf, .int .i64 wa, .int .i64 wc, .int .i64 wk, .bool wi, .string wt] 111 (0, 0))) (hs : ixS so) :
    Calls Tryz.prog 75 #[.pointer (some ⟨B, 0, none⟩), .agg #[.int .i64 d, .int .i64 u, .int .i64 g, .int .i64 m, .string n, .int .i64 s, .int .i64 a, .int .i64 z, .int .i64 k, .int .i64 so, .int .i64 nu, .string fn, .string nm, .string da]] w fun e w' => e = .returned (.bool (wc == 0)) ∧ Below w.heap.size w w' := by
  have hlt : B < w.heap.size := (Array.getElem?_eq_some_iff.1 hB).1
  have hB0 := hup hB (.cells #[.int .i64 d, .int .i64 u, .int .i64 g, .int .i64 m, .string n, .int .i64 s, .int .i64 a, .int .i64 z, .int .i64 k, .int .i64 so, .int .i64 nu, .string fn, .string nm, .string da] 86)
  have hX0 : (w.alloc (.cells #[.int .i64 d, .int .i64 u, .int .i64 g, .int .i64 m, .string n, .int .i64 s, .int .i64 a, .int .i64 z, .int .i64 k, .int .i64 so, .int .i64 nu, .string fn, .string nm, .string da] 86)).heap[w.heap.size]? = some (.cells #[.int .i64 d, .int .i64 u, .int .i64 g, .int .i64 m, .string n, .int .i64 s, .int .i64 a, .int .i64 z, .int .i64 k, .int .i64 so, .int .i64 nu, .string fn, .string nm, .string da] 86 (0, 0)) := heap_alloc_new w _
  have HI := fun w => isIndex_c d u g m s a z k so nu n fn nm da w
  have HT := fun w => isTable_c d u g m s a z k so nu n fn nm da w
  clear hB
  rw [decide_eq_true hs] at HI
  clear HT hs
  go_enter Tryz.func75, Tryz.ntmps75
  go_wp2_with (go_at_call 55; refine (HI _).mono ?_; rintro e w1 ⟨rfl, hb1⟩; have hB1 := hkeep hb1 hB0; have hX1 := hkeep hb1 hX0; have c2 := cell_row hB1 2 _ rfl; obtain ⟨q0, q1, q2, q3, q4, q5, q6, q7, q8, q9, q10, q11, q12, q13⟩ := cells14 hX1)
  go_ret
  exact ⟨rfl, bel3 (bup (Below.refl _ _) _) hb1⟩

set_option maxHeartbeats 1000000 in
theorem place_tb (B : Nat) (wf wt : ByteArray) (wa wc wk : Int) (wi : Bool) (d u g m s a z k so nu : Int) (n fn nm da : ByteArray) (w : World) (hB : w.heap[B]? = some (.cells #[.string wf, .int .i64 wa, .int .i64 wc, .int .i64 wk, .bool wi, .string wt] 111 (0, 0))) (hs : ¬ ixS so) (ht : so = 3) :
    Calls Tryz.prog 75 #[.pointer (some ⟨B, 0, none⟩), .agg #[.int .i64 d, .int .i64 u, .int .i64 g, .int .i64 m, .string n, .int .i64 s, .int .i64 a, .int .i64 z, .int .i64 k, .int .i64 so, .int .i64 nu, .string fn, .string nm, .string da]] w fun e w' => e = .returned (.bool (wc == 0 || (wc == 1 && wi))) ∧ Below w.heap.size w w' := by
  have hlt : B < w.heap.size := (Array.getElem?_eq_some_iff.1 hB).1
  have hB0 := hup hB (.cells #[.int .i64 d, .int .i64 u, .int .i64 g, .int .i64 m, .string n, .int .i64 s, .int .i64 a, .int .i64 z, .int .i64 k, .int .i64 so, .int .i64 nu, .string fn, .string nm, .string da] 86)
  have hX0 : (w.alloc (.cells #[.int .i64 d, .int .i64 u, .int .i64 g, .int .i64 m, .string n, .int .i64 s, .int .i64 a, .int .i64 z, .int .i64 k, .int .i64 so, .int .i64 nu, .string fn, .string nm, .string da] 86)).heap[w.heap.size]? = some (.cells #[.int .i64 d, .int .i64 u, .int .i64 g, .int .i64 m, .string n, .int .i64 s, .int .i64 a, .int .i64 z, .int .i64 k, .int .i64 so, .int .i64 nu, .string fn, .string nm, .string da] 86 (0, 0)) := heap_alloc_new w _
  have HI := fun w => isIndex_c d u g m s a z k so nu n fn nm da w
  have HT := fun w => isTable_c d u g m s a z k so nu n fn nm da w
  clear hB
  rw [decide_eq_false hs] at HI
  rw [decide_eq_true ht] at HT
  clear ht hs
  by_cases h0 : wc = 0
  · subst h0
    go_enter Tryz.func75, Tryz.ntmps75
    go_wp2_with first | (go_at_call 55; refine (HI _).mono ?_; rintro e w1 ⟨rfl, hb1⟩; have hB1 := hkeep hb1 hB0; have hX1 := hkeep hb1 hX0; have c2 := cell_row hB1 2 _ rfl; obtain ⟨q0, q1, q2, q3, q4, q5, q6, q7, q8, q9, q10, q11, q12, q13⟩ := cells14 hX1) | (go_at_call 65; refine (HT _).mono ?_; rintro e w2 ⟨rfl, hb2⟩; have hB2 := hkeep hb2 hB1; have c2' := cell_row hB2 2 _ rfl; have c4' := cell_row hB2 4 _ rfl)
    go_ret
    exact ⟨rfl, bel3 (bel3 (bup (Below.refl _ _) _) hb1) hb2⟩
  have b0 : (wc == 0) = false := by simp [h0]
  clear h0
  by_cases h1 : wc = 1
  · subst h1
    go_enter Tryz.func75, Tryz.ntmps75
    go_wp2_with first | (go_at_call 55; refine (HI _).mono ?_; rintro e w1 ⟨rfl, hb1⟩; have hB1 := hkeep hb1 hB0; have hX1 := hkeep hb1 hX0; have c2 := cell_row hB1 2 _ rfl; obtain ⟨q0, q1, q2, q3, q4, q5, q6, q7, q8, q9, q10, q11, q12, q13⟩ := cells14 hX1) | (go_at_call 65; refine (HT _).mono ?_; rintro e w2 ⟨rfl, hb2⟩; have hB2 := hkeep hb2 hB1; have c2' := cell_row hB2 2 _ rfl; have c4' := cell_row hB2 4 _ rfl)
    go_ret
    exact ⟨rfl, bel3 (bel3 (bup (Below.refl _ _) _) hb1) hb2⟩
  · have b1 : (wc == 1) = false := by simp [h1]
    rw [b0, b1]
    clear h1
    go_enter Tryz.func75, Tryz.ntmps75
    go_wp2_with first | (go_at_call 55; refine (HI _).mono ?_; rintro e w1 ⟨rfl, hb1⟩; have hB1 := hkeep hb1 hB0; have hX1 := hkeep hb1 hX0; have c2 := cell_row hB1 2 _ rfl; obtain ⟨q0, q1, q2, q3, q4, q5, q6, q7, q8, q9, q10, q11, q12, q13⟩ := cells14 hX1) | (go_at_call 65; refine (HT _).mono ?_; rintro e w2 ⟨rfl, hb2⟩; have hB2 := hkeep hb2 hB1; have c2' := cell_row hB2 2 _ rfl; have c4' := cell_row hB2 4 _ rfl)
    go_ret
    exact ⟨rfl, bel3 (bel3 (bup (Below.refl _ _) _) hb1) hb2⟩

set_option maxHeartbeats 1000000 in
theorem place_or (B : Nat) (wf wt : ByteArray) (wa wc wk : Int) (wi : Bool) (d u g m s a z k so nu : Int) (n fn nm da : ByteArray) (w : World) (hB : w.heap[B]? = some (.cells #[.string wf, .int .i64 wa, .int .i64 wc, .int .i64 wk, .bool wi, .string wt] 111 (0, 0))) (hs : ¬ ixS so) (ht : ¬ so = 3) :
    Calls Tryz.prog 75 #[.pointer (some ⟨B, 0, none⟩), .agg #[.int .i64 d, .int .i64 u, .int .i64 g, .int .i64 m, .string n, .int .i64 s, .int .i64 a, .int .i64 z, .int .i64 k, .int .i64 so, .int .i64 nu, .string fn, .string nm, .string da]] w fun e w' => e = .returned (.bool true) ∧ Below w.heap.size w w' := by
  have hlt : B < w.heap.size := (Array.getElem?_eq_some_iff.1 hB).1
  have hB0 := hup hB (.cells #[.int .i64 d, .int .i64 u, .int .i64 g, .int .i64 m, .string n, .int .i64 s, .int .i64 a, .int .i64 z, .int .i64 k, .int .i64 so, .int .i64 nu, .string fn, .string nm, .string da] 86)
  have hX0 : (w.alloc (.cells #[.int .i64 d, .int .i64 u, .int .i64 g, .int .i64 m, .string n, .int .i64 s, .int .i64 a, .int .i64 z, .int .i64 k, .int .i64 so, .int .i64 nu, .string fn, .string nm, .string da] 86)).heap[w.heap.size]? = some (.cells #[.int .i64 d, .int .i64 u, .int .i64 g, .int .i64 m, .string n, .int .i64 s, .int .i64 a, .int .i64 z, .int .i64 k, .int .i64 so, .int .i64 nu, .string fn, .string nm, .string da] 86 (0, 0)) := heap_alloc_new w _
  have HI := fun w => isIndex_c d u g m s a z k so nu n fn nm da w
  have HT := fun w => isTable_c d u g m s a z k so nu n fn nm da w
  clear hB
  rw [decide_eq_false hs] at HI
  rw [decide_eq_false ht] at HT
  clear ht hs
  go_enter Tryz.func75, Tryz.ntmps75
  go_wp2_with first | (go_at_call 55; refine (HI _).mono ?_; rintro e w1 ⟨rfl, hb1⟩; have hB1 := hkeep hb1 hB0; have hX1 := hkeep hb1 hX0; have c2 := cell_row hB1 2 _ rfl; obtain ⟨q0, q1, q2, q3, q4, q5, q6, q7, q8, q9, q10, q11, q12, q13⟩ := cells14 hX1) | (go_at_call 65; refine (HT _).mono ?_; rintro e w2 ⟨rfl, hb2⟩; have hB2 := hkeep hb2 hB1; have c2' := cell_row hB2 2 _ rfl; have c4' := cell_row hB2 4 _ rfl)
  go_ret
  exact ⟨rfl, bel3 (bel3 (bup (Below.refl _ _) _) hb1) hb2⟩

set_option maxHeartbeats 1000000 in
theorem place_c (B : Nat) (wf wt : ByteArray) (wa wc wk : Int) (wi : Bool) (d u g m s a z k so nu : Int) (n fn nm da : ByteArray) (w : World) (hB : w.heap[B]? = some (.cells #[.string wf, .int .i64 wa, .int .i64 wc, .int .i64 wk, .bool wi, .string wt] 111 (0, 0))) :
    Calls Tryz.prog 75 #[.pointer (some ⟨B, 0, none⟩), .agg #[.int .i64 d, .int .i64 u, .int .i64 g, .int .i64 m, .string n, .int .i64 s, .int .i64 a, .int .i64 z, .int .i64 k, .int .i64 so, .int .i64 nu, .string fn, .string nm, .string da]] w fun e w' => e = .returned (.bool (decide ((ixS so → wc = 0) ∧ (so = 3 → wc = 0 ∨ (wc = 1 ∧ wi = true))))) ∧ Below w.heap.size w w' := by
  by_cases hs : ixS so
  · have ht : ¬ so = 3 := by unfold ixS at hs; omega
    have e : decide ((ixS so → wc = 0) ∧ (so = 3 → wc = 0 ∨ (wc = 1 ∧ wi = true))) = (wc == 0) := by
      by_cases h : wc = 0 <;> simp [h, hs, ht]
    rw [e]; exact place_ix B wf wt wa wc wk wi d u g m s a z k so nu n fn nm da w hB hs
  · by_cases ht : so = 3
    · have e : decide ((ixS so → wc = 0) ∧ (so = 3 → wc = 0 ∨ (wc = 1 ∧ wi = true))) = (wc == 0 || (wc == 1 && wi)) := by
        by_cases h : wc = 0
        · simp [h]
        · by_cases h' : wc = 1 <;> cases wi <;> simp [h, h', ht]
      rw [e]; exact place_tb B wf wt wa wc wk wi d u g m s a z k so nu n fn nm da w hB hs ht
    · rw [decide_eq_true ⟨fun q => absurd q hs, fun q => absurd q ht⟩]
      exact place_or B wf wt wa wc wk wi d u g m s a z k so nu n fn nm da w hB hs ht

set_option maxHeartbeats 1000000 in
theorem member_c (d u g m s a z k so nu : Int) (n fn nm da : ByteArray) (w : World) :
    Calls Tryz.prog 49 #[.agg #[.int .i64 d, .int .i64 u, .int .i64 g, .int .i64 m, .string n, .int .i64 s, .int .i64 a, .int .i64 z, .int .i64 k, .int .i64 so, .int .i64 nu, .string fn, .string nm, .string da]] w fun e w' => e = .returned (.agg #[.int .i64 d, .int .i64 u, .int .i64 g, .int .i64 m, .string nm, .int .i64 s, .string da]) ∧ Below w.heap.size w w' := by
  go_enter Tryz.func49, Tryz.ntmps49
  go_wp2
  refine bodyPost_ret (results_cell_row rfl _ _ (w.heap.size + 1) _ _ _ _ rfl (heap_new2 w _ _) Tryz.underlying54 rfl (by kernel_rfl)) rfl ?_
  exact ⟨rfl, bup (bup (Below.refl _ _) _) _⟩

end Go.Proofs.YtnfplepaejjmfaaGreatDoor
