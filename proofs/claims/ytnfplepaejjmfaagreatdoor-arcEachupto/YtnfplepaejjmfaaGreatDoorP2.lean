
-- arc: a walk goes on behind a part.
import Derived.Test.YtnfplepaejjmfaaGreatDoorP1
import Derived.Laws.Rows
import Derived.Laws.Tables
namespace Go.Proofs.YtnfplepaejjmfaaGreatDoor
open Go.ChangeShapes Go.WideShapes Go.ChangeAt Go.RowKit
set_option linter.unusedVariables false
set_option maxRecDepth 100000

/-- nothing has turned but block k, and blocks are new -/
structure Kq (k : Nat) (w w' : World) : Prop where
  os : w'.os = w.os
  tape : w'.tape = w.tape
  output : w'.output = w.output
  size : w.heap.size ≤ w'.heap.size
  block : ∀ j, j ≠ k → j < w.heap.size → w'.heap[j]? = w.heap[j]?
theorem Kq.of {k : Nat} {w w' : World} (h : Below w.heap.size w w') : Kq k w w' := ⟨h.os, h.tape, h.output, h.size, fun j _ hj => h.block j hj⟩
theorem Kq.refl (k : Nat) (w : World) : Kq k w w := Kq.of (Below.refl _ _)
theorem Kq.trans {k : Nat} {a b c : World} (h : Kq k a b) (g : Kq k b c) : Kq k a c :=
  ⟨g.os.trans h.os, g.tape.trans h.tape, g.output.trans h.output, Nat.le_trans h.size g.size, fun j h1 h2 => (g.block j h1 (Nat.lt_of_lt_of_le h2 h.size)).trans (h.block j h1 h2)⟩
theorem Kq.set {k : Nat} {a w : World} (h : Kq k a w) (i : Nat) (v : Value) : Kq k a (w.setCell ⟨k, i, none⟩ v) := by
  have hb : Below 0 w (w.setCell ⟨k, i, none⟩ v) := Below.setCell (Below.refl _ _) (Nat.zero_le _) _
  exact ⟨hb.os.trans h.os, hb.tape.trans h.tape, hb.output.trans h.output, Nat.le_trans h.size hb.size, fun j h1 h2 => (Below.heap_setCell w _ _ j h1).trans (h.block j h1 h2)⟩
theorem Kq.alloc {k : Nat} {a w : World} (h : Kq k a w) (x : Obj) : Kq k a (w.alloc x) := h.trans (Kq.of (bup (Below.refl _ _) x))
theorem Kq.drew {k : Nat} {a w : World} (h : Kq k a w) : Kq k a w.drew := h.trans (Kq.of (Below.drew (Below.refl _ _)))
theorem Kq.on {k : Nat} {a b c : World} (h : Kq k a b) (g : Below b.heap.size b c) : Kq k a c := h.trans (Kq.of g)
theorem Kq.below {k B : Nat} {w w' : World} (h : Kq k w w') (hk : B ≤ k) (hB : B ≤ w.heap.size) : Below B w w' := ⟨h.os, h.tape, h.output, h.size, fun j hj => h.block j (by omega) (by omega)⟩
theorem set_row {w : World} {k i : Nat} {cs : Array Value} {t : TypeId} (v : Value) (h : w.heap[k]? = some (.cells cs t (0, 0))) : (w.setCell ⟨k, i, none⟩ v).heap[k]? = some (.cells (cs.setIfInBounds i v) t (0, 0)) := heap_setCell_same _ k i _ _ v h
theorem froz_row {w : World} {k : Nat} {cs : Array Value} {t : TypeId} (h : w.heap[k]? = some (.cells cs t (0, 0))) (i : Nat) : w.frozen? ⟨k, i, none⟩ = false := by
  simp [World.frozen?, h]
theorem one_row {w : World} {k : Nat} {cs : Array Value} {t : TypeId} (h : w.heap[k]? = some (.cells cs t (0, 0))) (i : Nat) (v : Value) (hv : cs[i]? = some v) : w.cell? ⟨k, i, none⟩ = some v ∧ w.frozen? ⟨k, i, none⟩ = false := ⟨cell_row h i v hv, froz_row h i⟩

set_option maxHeartbeats 2000000 in
theorem pass_ix (B : Nat) (wf wt : ByteArray) (wa wc wk : Int) (wi : Bool) (d u g m s a z k so nu : Int) (n fn nm da : ByteArray) (w : World) (hB : w.heap[B]? = some (.cells #[.string wf, .int .i64 wa, .int .i64 wc, .int .i64 wk, .bool wi, .string wt] 111 (0, 0))) (h0 : 0 ≤ wc) (h1 : wc < 4611686018427387904) (hs : ixS so) (ht : ¬ so = 3) :
    Calls Tryz.prog 54 #[.pointer (some ⟨B, 0, none⟩), .agg #[.int .i64 d, .int .i64 u, .int .i64 g, .int .i64 m, .string n, .int .i64 s, .int .i64 a, .int .i64 z, .int .i64 k, .int .i64 so, .int .i64 nu, .string fn, .string nm, .string da]] w fun e w' => (∃ v, e = .returned v) ∧ w'.heap[B]? = some (.cells #[.string wf, .int .i64 z, .int .i64 (wc + 1), .int .i64 k, .bool true, .string wt] 111 (0, 0)) ∧ Kq B w w' := by
  have HI := fun w => isIndex_c d u g m s a z k so nu n fn nm da w
  have HT := fun w => isTable_c d u g m s a z k so nu n fn nm da w
  rw [decide_eq_true hs] at HI
  rw [decide_eq_false ht] at HT
  have hlt : B < w.heap.size := (Array.getElem?_eq_some_iff.1 hB).1
  obtain ⟨c1, f1⟩ := one_row hB 1 _ rfl
  obtain ⟨c2, f2⟩ := one_row hB 2 _ rfl
  obtain ⟨c3, f3⟩ := one_row hB 3 _ rfl
  have hB3 := hup (set_row (i := 3) (.int .i64 k) (set_row (i := 2) (.int .i64 (wc + 1)) (set_row (i := 1) (.int .i64 z) hB))) (.cells #[.int .i64 d, .int .i64 u, .int .i64 g, .int .i64 m, .string n, .int .i64 s, .int .i64 a, .int .i64 z, .int .i64 k, .int .i64 so, .int .i64 nu, .string fn, .string nm, .string da] 86)
  have hq3 : Kq B w ((((w.setCell ⟨B, 1, none⟩ (.int .i64 z)).setCell ⟨B, 2, none⟩ (.int .i64 (wc + 1))).setCell ⟨B, 3, none⟩ (.int .i64 k)).alloc (.cells #[.int .i64 d, .int .i64 u, .int .i64 g, .int .i64 m, .string n, .int .i64 s, .int .i64 a, .int .i64 z, .int .i64 k, .int .i64 so, .int .i64 nu, .string fn, .string nm, .string da] 86)) := (((((Kq.refl B w).set _ _).set _ _).set _ _).alloc _)
  have hxc : ((((w.setCell ⟨B, 1, none⟩ (.int .i64 z)).setCell ⟨B, 2, none⟩ (.int .i64 (wc + 1))).setCell ⟨B, 3, none⟩ (.int .i64 k)).alloc (.cells #[.int .i64 d, .int .i64 u, .int .i64 g, .int .i64 m, .string n, .int .i64 s, .int .i64 a, .int .i64 z, .int .i64 k, .int .i64 so, .int .i64 nu, .string fn, .string nm, .string da] 86)).heap[w.heap.size]? = some (.cells #[.int .i64 d, .int .i64 u, .int .i64 g, .int .i64 m, .string n, .int .i64 s, .int .i64 a, .int .i64 z, .int .i64 k, .int .i64 so, .int .i64 nu, .string fn, .string nm, .string da] 86 (0, 0)) := by
    have h := heap_alloc_new (((w.setCell ⟨B, 1, none⟩ (.int .i64 z)).setCell ⟨B, 2, none⟩ (.int .i64 (wc + 1))).setCell ⟨B, 3, none⟩ (.int .i64 k)) (.cells #[.int .i64 d, .int .i64 u, .int .i64 g, .int .i64 m, .string n, .int .i64 s, .int .i64 a, .int .i64 z, .int .i64 k, .int .i64 so, .int .i64 nu, .string fn, .string nm, .string da] 86)
    rw [show (((w.setCell ⟨B, 1, none⟩ (.int .i64 z)).setCell ⟨B, 2, none⟩ (.int .i64 (wc + 1))).setCell ⟨B, 3, none⟩ (.int .i64 k)).heap.size = w.heap.size from by simp] at h
    exact h
  clear hs ht hB
  go_enter Tryz.func54, Tryz.ntmps54
  go_wp2_with first | (go_at_call 55; refine (HI _).mono ?_; rintro e w1 ⟨rfl, hb1⟩; have hC1 := hkeep hb1 hB3; have hD1 := hkeep hb1 hxc; obtain ⟨c4, f4⟩ := one_row hC1 4 _ rfl; obtain ⟨q0, q1, q2, q3, q4, q5, q6, q7, q8, q9, q10, q11, q12, q13⟩ := cells14 hD1; have hC2 := set_row (i := 4) (.bool true) hC1; have hD2 := (heap_setCell_other w1 ⟨B, 4, none⟩ w.heap.size (.bool true) (by show w.heap.size ≠ B; omega)).trans hD1) | (go_at_call 65; refine (HT _).mono ?_; rintro e w2 ⟨rfl, hb2⟩; have hE1 := hkeep hb2 hC2; have hF1 := hkeep hb2 hD2; obtain ⟨c5, f5⟩ := one_row hE1 5 _ rfl; have q13' := cell_row hF1 13 _ rfl)
  go_end0
  exact ⟨⟨_, rfl⟩, hE1, ((hq3.on hb1).set _ _).on hb2⟩

set_option maxHeartbeats 2000000 in
theorem pass_tb (B : Nat) (wf wt : ByteArray) (wa wc wk : Int) (wi : Bool) (d u g m s a z k so nu : Int) (n fn nm da : ByteArray) (w : World) (hB : w.heap[B]? = some (.cells #[.string wf, .int .i64 wa, .int .i64 wc, .int .i64 wk, .bool wi, .string wt] 111 (0, 0))) (h0 : 0 ≤ wc) (h1 : wc < 4611686018427387904) (hs : ¬ ixS so) (ht : so = 3) :
    Calls Tryz.prog 54 #[.pointer (some ⟨B, 0, none⟩), .agg #[.int .i64 d, .int .i64 u, .int .i64 g, .int .i64 m, .string n, .int .i64 s, .int .i64 a, .int .i64 z, .int .i64 k, .int .i64 so, .int .i64 nu, .string fn, .string nm, .string da]] w fun e w' => (∃ v, e = .returned v) ∧ w'.heap[B]? = some (.cells #[.string wf, .int .i64 z, .int .i64 (wc + 1), .int .i64 k, .bool wi, .string da] 111 (0, 0)) ∧ Kq B w w' := by
  have HI := fun w => isIndex_c d u g m s a z k so nu n fn nm da w
  have HT := fun w => isTable_c d u g m s a z k so nu n fn nm da w
  rw [decide_eq_false hs] at HI
  rw [decide_eq_true ht] at HT
  have hlt : B < w.heap.size := (Array.getElem?_eq_some_iff.1 hB).1
  obtain ⟨c1, f1⟩ := one_row hB 1 _ rfl
  obtain ⟨c2, f2⟩ := one_row hB 2 _ rfl
  obtain ⟨c3, f3⟩ := one_row hB 3 _ rfl
  have hB3 := hup (set_row (i := 3) (.int .i64 k) (set_row (i := 2) (.int .i64 (wc + 1)) (set_row (i := 1) (.int .i64 z) hB))) (.cells #[.int .i64 d, .int .i64 u, .int .i64 g, .int .i64 m, .string n, .int .i64 s, .int .i64 a, .int .i64 z, .int .i64 k, .int .i64 so, .int .i64 nu, .string fn, .string nm, .string da] 86)
  have hq3 : Kq B w ((((w.setCell ⟨B, 1, none⟩ (.int .i64 z)).setCell ⟨B, 2, none⟩ (.int .i64 (wc + 1))).setCell ⟨B, 3, none⟩ (.int .i64 k)).alloc (.cells #[.int .i64 d, .int .i64 u, .int .i64 g, .int .i64 m, .string n, .int .i64 s, .int .i64 a, .int .i64 z, .int .i64 k, .int .i64 so, .int .i64 nu, .string fn, .string nm, .string da] 86)) := (((((Kq.refl B w).set _ _).set _ _).set _ _).alloc _)
  have hxc : ((((w.setCell ⟨B, 1, none⟩ (.int .i64 z)).setCell ⟨B, 2, none⟩ (.int .i64 (wc + 1))).setCell ⟨B, 3, none⟩ (.int .i64 k)).alloc (.cells #[.int .i64 d, .int .i64 u, .int .i64 g, .int .i64 m, .string n, .int .i64 s, .int .i64 a, .int .i64 z, .int .i64 k, .int .i64 so, .int .i64 nu, .string fn, .string nm, .string da] 86)).heap[w.heap.size]? = some (.cells #[.int .i64 d, .int .i64 u, .int .i64 g, .int .i64 m, .string n, .int .i64 s, .int .i64 a, .int .i64 z, .int .i64 k, .int .i64 so, .int .i64 nu, .string fn, .string nm, .string da] 86 (0, 0)) := by
    have h := heap_alloc_new (((w.setCell ⟨B, 1, none⟩ (.int .i64 z)).setCell ⟨B, 2, none⟩ (.int .i64 (wc + 1))).setCell ⟨B, 3, none⟩ (.int .i64 k)) (.cells #[.int .i64 d, .int .i64 u, .int .i64 g, .int .i64 m, .string n, .int .i64 s, .int .i64 a, .int .i64 z, .int .i64 k, .int .i64 so, .int .i64 nu, .string fn, .string nm, .string da] 86)
    rw [show (((w.setCell ⟨B, 1, none⟩ (.int .i64 z)).setCell ⟨B, 2, none⟩ (.int .i64 (wc + 1))).setCell ⟨B, 3, none⟩ (.int .i64 k)).heap.size = w.heap.size from by simp] at h
    exact h
  clear hs ht hB
  go_enter Tryz.func54, Tryz.ntmps54
  go_wp2_with first | (go_at_call 55; refine (HI _).mono ?_; rintro e w1 ⟨rfl, hb1⟩; have hC1 := hkeep hb1 hB3; have hD1 := hkeep hb1 hxc; obtain ⟨c4, f4⟩ := one_row hC1 4 _ rfl; obtain ⟨q0, q1, q2, q3, q4, q5, q6, q7, q8, q9, q10, q11, q12, q13⟩ := cells14 hD1) | (go_at_call 65; refine (HT _).mono ?_; rintro e w2 ⟨rfl, hb2⟩; have hE1 := hkeep hb2 hC1; have hF1 := hkeep hb2 hD1; obtain ⟨c5, f5⟩ := one_row hE1 5 _ rfl; have q13' := cell_row hF1 13 _ rfl)
  go_end0
  exact ⟨⟨_, rfl⟩, set_row (.string da) hE1, ((hq3.on hb1).on hb2).set _ _⟩

set_option maxHeartbeats 2000000 in
theorem pass_or (B : Nat) (wf wt : ByteArray) (wa wc wk : Int) (wi : Bool) (d u g m s a z k so nu : Int) (n fn nm da : ByteArray) (w : World) (hB : w.heap[B]? = some (.cells #[.string wf, .int .i64 wa, .int .i64 wc, .int .i64 wk, .bool wi, .string wt] 111 (0, 0))) (h0 : 0 ≤ wc) (h1 : wc < 4611686018427387904) (hs : ¬ ixS so) (ht : ¬ so = 3) :
    Calls Tryz.prog 54 #[.pointer (some ⟨B, 0, none⟩), .agg #[.int .i64 d, .int .i64 u, .int .i64 g, .int .i64 m, .string n, .int .i64 s, .int .i64 a, .int .i64 z, .int .i64 k, .int .i64 so, .int .i64 nu, .string fn, .string nm, .string da]] w fun e w' => (∃ v, e = .returned v) ∧ w'.heap[B]? = some (.cells #[.string wf, .int .i64 z, .int .i64 (wc + 1), .int .i64 k, .bool wi, .string wt] 111 (0, 0)) ∧ Kq B w w' := by
  have HI := fun w => isIndex_c d u g m s a z k so nu n fn nm da w
  have HT := fun w => isTable_c d u g m s a z k so nu n fn nm da w
  rw [decide_eq_false hs] at HI
  rw [decide_eq_false ht] at HT
  have hlt : B < w.heap.size := (Array.getElem?_eq_some_iff.1 hB).1
  obtain ⟨c1, f1⟩ := one_row hB 1 _ rfl
  obtain ⟨c2, f2⟩ := one_row hB 2 _ rfl
  obtain ⟨c3, f3⟩ := one_row hB 3 _ rfl
  have hB3 := hup (set_row (i := 3) (.int .i64 k) (set_row (i := 2) (.int .i64 (wc + 1)) (set_row (i := 1) (.int .i64 z) hB))) (.cells #[.int .i64 d, .int .i64 u, .int .i64 g, .int .i64 m, .string n, .int .i64 s, .int .i64 a, .int .i64 z, .int .i64 k, .int .i64 so, .int .i64 nu, .string fn, .string nm, .string da] 86)
  have hq3 : Kq B w ((((w.setCell ⟨B, 1, none⟩ (.int .i64 z)).setCell ⟨B, 2, none⟩ (.int .i64 (wc + 1))).setCell ⟨B, 3, none⟩ (.int .i64 k)).alloc (.cells #[.int .i64 d, .int .i64 u, .int .i64 g, .int .i64 m, .string n, .int .i64 s, .int .i64 a, .int .i64 z, .int .i64 k, .int .i64 so, .int .i64 nu, .string fn, .string nm, .string da] 86)) := (((((Kq.refl B w).set _ _).set _ _).set _ _).alloc _)
  have hxc : ((((w.setCell ⟨B, 1, none⟩ (.int .i64 z)).setCell ⟨B, 2, none⟩ (.int .i64 (wc + 1))).setCell ⟨B, 3, none⟩ (.int .i64 k)).alloc (.cells #[.int .i64 d, .int .i64 u, .int .i64 g, .int .i64 m, .string n, .int .i64 s, .int .i64 a, .int .i64 z, .int .i64 k, .int .i64 so, .int .i64 nu, .string fn, .string nm, .string da] 86)).heap[w.heap.size]? = some (.cells #[.int .i64 d, .int .i64 u, .int .i64 g, .int .i64 m, .string n, .int .i64 s, .int .i64 a, .int .i64 z, .int .i64 k, .int .i64 so, .int .i64 nu, .string fn, .string nm, .string da] 86 (0, 0)) := by
    have h := heap_alloc_new (((w.setCell ⟨B, 1, none⟩ (.int .i64 z)).setCell ⟨B, 2, none⟩ (.int .i64 (wc + 1))).setCell ⟨B, 3, none⟩ (.int .i64 k)) (.cells #[.int .i64 d, .int .i64 u, .int .i64 g, .int .i64 m, .string n, .int .i64 s, .int .i64 a, .int .i64 z, .int .i64 k, .int .i64 so, .int .i64 nu, .string fn, .string nm, .string da] 86)
    rw [show (((w.setCell ⟨B, 1, none⟩ (.int .i64 z)).setCell ⟨B, 2, none⟩ (.int .i64 (wc + 1))).setCell ⟨B, 3, none⟩ (.int .i64 k)).heap.size = w.heap.size from by simp] at h
    exact h
  clear hs ht hB
  go_enter Tryz.func54, Tryz.ntmps54
  go_wp2_with first | (go_at_call 55; refine (HI _).mono ?_; rintro e w1 ⟨rfl, hb1⟩; have hC1 := hkeep hb1 hB3; have hD1 := hkeep hb1 hxc; obtain ⟨c4, f4⟩ := one_row hC1 4 _ rfl; obtain ⟨q0, q1, q2, q3, q4, q5, q6, q7, q8, q9, q10, q11, q12, q13⟩ := cells14 hD1) | (go_at_call 65; refine (HT _).mono ?_; rintro e w2 ⟨rfl, hb2⟩; have hE1 := hkeep hb2 hC1; have hF1 := hkeep hb2 hD1; obtain ⟨c5, f5⟩ := one_row hE1 5 _ rfl; have q13' := cell_row hF1 13 _ rfl)
  go_end0
  exact ⟨⟨_, rfl⟩, hE1, (hq3.on hb1).on hb2⟩

end Go.Proofs.YtnfplepaejjmfaaGreatDoor
