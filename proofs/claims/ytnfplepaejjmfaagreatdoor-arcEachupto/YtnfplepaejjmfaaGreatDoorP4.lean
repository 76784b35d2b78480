
-- arc: the data behind a header.
import Derived.Test.YtnfplepaejjmfaaGreatDoorP3
import Derived.BigRegion
import Derived.RegionTactic
namespace Go.Proofs.YtnfplepaejjmfaaGreatDoor
open Go.ChangeShapes Go.WideShapes Go.ChangeAt Go.RowKit
set_option linter.unusedVariables false
set_option maxRecDepth 100000

def rowP (x : Pt) : Array Value := #[.int .i64 x.h.date, .int .i64 x.h.uid, .int .i64 x.h.gid, .int .i64 x.h.mode, .string x.h.name, .int .i64 x.h.size, .int .i64 x.pos, .int .i64 x.fin, .int .i64 x.kind, .int .i64 x.f.sort, .int .i64 x.f.num, .string x.f.name, .string x.name, .string x.data]
theorem ptV_row (x : Pt) : ptV x = .agg (rowP x) := rfl
theorem row_drewN {w : World} {B : Nat} {x : Obj} (h : w.heap[B]? = some x) (k : Nat) : (w.drewN k).heap[B]? = some x := by
  induction k with
  | zero => exact h
  | succ k ih => exact ih
theorem Kq.drewN {k : Nat} {a w : World} (h : Kq k a w) (q : Nat) : Kq k a (w.drewN q) := h.trans (Kq.of (below_drewN (Below.refl _ _) q))

set_option maxHeartbeats 4000000 in
theorem cut_thin (B : Nat) (b : ByteArray) (d u g m s a z k so nu : Int) (n fn nm da : ByteArray) (w : World) (hB : w.heap[B]? = some (.cells #[.int .i64 d, .int .i64 u, .int .i64 g, .int .i64 m, .string n, .int .i64 s, .int .i64 a, .int .i64 z, .int .i64 k, .int .i64 so, .int .i64 nu, .string fn, .string nm, .string da] 86 (0, 0))) (hm : b.size ≤ maxLen) (ha : 0 ≤ a) (hab : a + 60 ≤ b.size) (hs0 : 0 ≤ s) (hs1 : s ≤ 99999999999) (hk : k = 1 ∧ ordS so) :
    Calls Tryz.prog 76 #[.pointer (some ⟨B, 0, none⟩), .string b] w fun e w' => e = .returned (.int .i64 0) ∧ w'.heap[B]? = some (.cells #[.int .i64 d, .int .i64 u, .int .i64 g, .int .i64 m, .string n, .int .i64 s, .int .i64 a, .int .i64 (a + 60), .int .i64 k, .int .i64 so, .int .i64 nu, .string fn, .string nm, .string da] 86 (0, 0)) ∧ Kq B w w' := by
  unfold maxLen at hm
  have HD := fun w => hasData_c d u g m s a (a + 60) k so nu n fn nm da w
  rw [decide_eq_true hk] at HD
  have hlt : B < w.heap.size := (Array.getElem?_eq_some_iff.1 hB).1
  obtain ⟨q0, q1, q2, q3, q4, q5, q6, q7, q8, q9, q10, q11, q12, q13⟩ := cells14 hB
  have f7 := froz_row hB 7
  have f13 := froz_row hB 13
  have hB1 := set_row (i := 7) (.int .i64 (a + 60)) hB
  have hq1 : Kq B w (w.setCell ⟨B, 7, none⟩ (.int .i64 (a + 60))) := (Kq.refl B w).set _ _
  clear hk hB
  go_enter Tryz.func76, Tryz.ntmps76
  go_wp2_with (go_at_call 98; refine (HD _).mono ?_; rintro e w1 ⟨rfl, hb1⟩; have hB2 := hkeep hb1 hB1; have r5 := cell_row hB2 5 _ rfl; have r7 := cell_row hB2 7 _ rfl; have g7 := froz_row hB2 7; have r13 := cell_row hB2 13 _ rfl; have g13 := froz_row hB2 13; have hq2 := hq1.on hb1)
  go_ret
  exact ⟨rfl, hB2, hq2⟩

set_option maxHeartbeats 4000000 in
theorem cut_few (B : Nat) (b : ByteArray) (d u g m s a z k so nu : Int) (n fn nm da : ByteArray) (w : World) (hB : w.heap[B]? = some (.cells #[.int .i64 d, .int .i64 u, .int .i64 g, .int .i64 m, .string n, .int .i64 s, .int .i64 a, .int .i64 z, .int .i64 k, .int .i64 so, .int .i64 nu, .string fn, .string nm, .string da] 86 (0, 0))) (hm : b.size ≤ maxLen) (ha : 0 ≤ a) (hab : a + 60 ≤ b.size) (hs0 : 0 ≤ s) (hs1 : s ≤ 99999999999) (hk : ¬ (k = 1 ∧ ordS so)) (hl : (b.size : Int) - (a + 60) < s) :
    Calls Tryz.prog 76 #[.pointer (some ⟨B, 0, none⟩), .string b] w fun e w' => e = .returned (.int .i64 91) ∧ w'.heap[B]? = some (.cells #[.int .i64 d, .int .i64 u, .int .i64 g, .int .i64 m, .string n, .int .i64 s, .int .i64 a, .int .i64 (a + 60), .int .i64 k, .int .i64 so, .int .i64 nu, .string fn, .string nm, .string da] 86 (0, 0)) ∧ Kq B w w' := by
  unfold maxLen at hm
  have HD := fun w => hasData_c d u g m s a (a + 60) k so nu n fn nm da w
  rw [decide_eq_false hk] at HD
  have hlt : B < w.heap.size := (Array.getElem?_eq_some_iff.1 hB).1
  obtain ⟨q0, q1, q2, q3, q4, q5, q6, q7, q8, q9, q10, q11, q12, q13⟩ := cells14 hB
  have f7 := froz_row hB 7
  have f13 := froz_row hB 13
  have hB1 := set_row (i := 7) (.int .i64 (a + 60)) hB
  have hq1 : Kq B w (w.setCell ⟨B, 7, none⟩ (.int .i64 (a + 60))) := (Kq.refl B w).set _ _
  clear hk hB
  have b1 : decide ((b.size : Int) - (a + 60) < s) = true := decide_eq_true hl
  go_enter Tryz.func76, Tryz.ntmps76
  go_wp2_with (go_at_call 98; refine (HD _).mono ?_; rintro e w1 ⟨rfl, hb1⟩; have hB2 := hkeep hb1 hB1; have r5 := cell_row hB2 5 _ rfl; have r7 := cell_row hB2 7 _ rfl; have g7 := froz_row hB2 7; have r13 := cell_row hB2 13 _ rfl; have g13 := froz_row hB2 13; have hq2 := hq1.on hb1)
  go_quiet (fail)
  go_wp2
  go_ret
  exact ⟨rfl, hB2, hq2.drewN _⟩

set_option maxHeartbeats 4000000 in
theorem cut_even (B : Nat) (b : ByteArray) (d u g m s a z k so nu : Int) (n fn nm da : ByteArray) (w : World) (hB : w.heap[B]? = some (.cells #[.int .i64 d, .int .i64 u, .int .i64 g, .int .i64 m, .string n, .int .i64 s, .int .i64 a, .int .i64 z, .int .i64 k, .int .i64 so, .int .i64 nu, .string fn, .string nm, .string da] 86 (0, 0))) (hm : b.size ≤ maxLen) (ha : 0 ≤ a) (hab : a + 60 ≤ b.size) (hs0 : 0 ≤ s) (hs1 : s ≤ 99999999999) (D : ByteArray) (hk : ¬ (k = 1 ∧ ordS so)) (hl : ¬ (b.size : Int) - (a + 60) < s) (hD : ∀ w, (Instr.slice 9 (.string b) (some (.int .i64 (a + 60))) (some (.int .i64 (a + 60 + s))) none).run Tryz.prog w = .ok (.string D) w) (h2 : s % 2 = 0) :
    Calls Tryz.prog 76 #[.pointer (some ⟨B, 0, none⟩), .string b] w fun e w' => e = .returned (.int .i64 0) ∧ w'.heap[B]? = some (.cells #[.int .i64 d, .int .i64 u, .int .i64 g, .int .i64 m, .string n, .int .i64 s, .int .i64 a, .int .i64 (a + 60 + s), .int .i64 k, .int .i64 so, .int .i64 nu, .string fn, .string nm, .string D] 86 (0, 0)) ∧ Kq B w w' := by
  unfold maxLen at hm
  have HD := fun w => hasData_c d u g m s a (a + 60) k so nu n fn nm da w
  rw [decide_eq_false hk] at HD
  have hlt : B < w.heap.size := (Array.getElem?_eq_some_iff.1 hB).1
  obtain ⟨q0, q1, q2, q3, q4, q5, q6, q7, q8, q9, q10, q11, q12, q13⟩ := cells14 hB
  have f7 := froz_row hB 7
  have f13 := froz_row hB 13
  have hB1 := set_row (i := 7) (.int .i64 (a + 60)) hB
  have hq1 : Kq B w (w.setCell ⟨B, 7, none⟩ (.int .i64 (a + 60))) := (Kq.refl B w).set _ _
  clear hk hB
  have b1 : decide ((b.size : Int) - (a + 60) < s) = false := decide_eq_false hl
  have hsl : ∀ w, (Instr.slice 9 (.string b) (some (.int .i64 (a + 60))) (some (.int .i64 (a + 60 + s))) none).run Tryz.prog w = .ok (.string D) w := hD
  have hw1 : wrap64 (a + 60 + s) = a + 60 + s := by unfold wrap64; omega
  have hw2 : IntKind.i64.wrap (a + 60 + s) = a + 60 + s := by rw [IntKind.wrap_i64]; omega
  clear hl hD
  have b2 : (s % 2 == 0) = true := by simp [h2]
  have b3 : (Int.tmod s 2 == 0) = true := by rw [Int.tmod_eq_emod_of_nonneg hs0]; exact b2
  clear h2
  go_enter Tryz.func76, Tryz.ntmps76
  go_wp2_with (go_at_call 98; refine (HD _).mono ?_; rintro e w1 ⟨rfl, hb1⟩; have hB2 := hkeep hb1 hB1; have r5 := cell_row hB2 5 _ rfl; have r7 := cell_row hB2 7 _ rfl; have g7 := froz_row hB2 7; have r13 := cell_row hB2 13 _ rfl; have g13 := froz_row hB2 13; have hq2 := hq1.on hb1)
  go_quiet (fail)
  go_wp2
  go_region
  all_goals go_wp2
  all_goals go_region
  all_goals go_wp2
  all_goals go_ret
  all_goals exact ⟨rfl, set_row (.int .i64 (a + 60 + s)) (set_row (i := 13) (.string D) (row_drewN hB2 _)), (((hq2.drewN _).set 13 (.string D)).drew).set 7 (.int .i64 (a + 60 + s))⟩

set_option maxHeartbeats 4000000 in
theorem cut_end (B : Nat) (b : ByteArray) (d u g m s a z k so nu : Int) (n fn nm da : ByteArray) (w : World) (hB : w.heap[B]? = some (.cells #[.int .i64 d, .int .i64 u, .int .i64 g, .int .i64 m, .string n, .int .i64 s, .int .i64 a, .int .i64 z, .int .i64 k, .int .i64 so, .int .i64 nu, .string fn, .string nm, .string da] 86 (0, 0))) (hm : b.size ≤ maxLen) (ha : 0 ≤ a) (hab : a + 60 ≤ b.size) (hs0 : 0 ≤ s) (hs1 : s ≤ 99999999999) (D : ByteArray) (hk : ¬ (k = 1 ∧ ordS so)) (hl : ¬ (b.size : Int) - (a + 60) < s) (hD : ∀ w, (Instr.slice 9 (.string b) (some (.int .i64 (a + 60))) (some (.int .i64 (a + 60 + s))) none).run Tryz.prog w = .ok (.string D) w) (h2 : ¬ s % 2 = 0) (h3 : a + 60 + s = b.size) :
    Calls Tryz.prog 76 #[.pointer (some ⟨B, 0, none⟩), .string b] w fun e w' => e = .returned (.int .i64 92) ∧ w'.heap[B]? = some (.cells #[.int .i64 d, .int .i64 u, .int .i64 g, .int .i64 m, .string n, .int .i64 s, .int .i64 a, .int .i64 (a + 60 + s), .int .i64 k, .int .i64 so, .int .i64 nu, .string fn, .string nm, .string D] 86 (0, 0)) ∧ Kq B w w' := by
  unfold maxLen at hm
  have HD := fun w => hasData_c d u g m s a (a + 60) k so nu n fn nm da w
  rw [decide_eq_false hk] at HD
  have hlt : B < w.heap.size := (Array.getElem?_eq_some_iff.1 hB).1
  obtain ⟨q0, q1, q2, q3, q4, q5, q6, q7, q8, q9, q10, q11, q12, q13⟩ := cells14 hB
  have f7 := froz_row hB 7
  have f13 := froz_row hB 13
  have hB1 := set_row (i := 7) (.int .i64 (a + 60)) hB
  have hq1 : Kq B w (w.setCell ⟨B, 7, none⟩ (.int .i64 (a + 60))) := (Kq.refl B w).set _ _
  clear hk hB
  have b1 : decide ((b.size : Int) - (a + 60) < s) = false := decide_eq_false hl
  have hsl : ∀ w, (Instr.slice 9 (.string b) (some (.int .i64 (a + 60))) (some (.int .i64 (a + 60 + s))) none).run Tryz.prog w = .ok (.string D) w := hD
  have hw1 : wrap64 (a + 60 + s) = a + 60 + s := by unfold wrap64; omega
  have hw2 : IntKind.i64.wrap (a + 60 + s) = a + 60 + s := by rw [IntKind.wrap_i64]; omega
  clear hl hD
  have b2 : (s % 2 == 0) = false := by simp [h2]
  have b3 : (Int.tmod s 2 == 0) = false := by rw [Int.tmod_eq_emod_of_nonneg hs0]; exact b2
  have b4 : (a + 60 + s == (b.size : Int)) = true := by simp [h3]
  clear h2 h3
  go_enter Tryz.func76, Tryz.ntmps76
  go_wp2_with (go_at_call 98; refine (HD _).mono ?_; rintro e w1 ⟨rfl, hb1⟩; have hB2 := hkeep hb1 hB1; have r5 := cell_row hB2 5 _ rfl; have r7 := cell_row hB2 7 _ rfl; have g7 := froz_row hB2 7; have r13 := cell_row hB2 13 _ rfl; have g13 := froz_row hB2 13; have hq2 := hq1.on hb1)
  go_quiet (fail)
  go_wp2
  go_region
  all_goals go_wp2
  all_goals go_region
  all_goals go_wp2
  all_goals go_ret
  all_goals exact ⟨rfl, set_row (.int .i64 (a + 60 + s)) (set_row (i := 13) (.string D) (row_drewN hB2 _)), (((hq2.drewN _).set 13 (.string D)).drew).set 7 (.int .i64 (a + 60 + s))⟩

set_option maxHeartbeats 4000000 in
theorem cut_wrong (B : Nat) (b : ByteArray) (d u g m s a z k so nu : Int) (n fn nm da : ByteArray) (w : World) (hB : w.heap[B]? = some (.cells #[.int .i64 d, .int .i64 u, .int .i64 g, .int .i64 m, .string n, .int .i64 s, .int .i64 a, .int .i64 z, .int .i64 k, .int .i64 so, .int .i64 nu, .string fn, .string nm, .string da] 86 (0, 0))) (hm : b.size ≤ maxLen) (ha : 0 ≤ a) (hab : a + 60 ≤ b.size) (hs0 : 0 ≤ s) (hs1 : s ≤ 99999999999) (D : ByteArray) (hk : ¬ (k = 1 ∧ ordS so)) (hl : ¬ (b.size : Int) - (a + 60) < s) (hD : ∀ w, (Instr.slice 9 (.string b) (some (.int .i64 (a + 60))) (some (.int .i64 (a + 60 + s))) none).run Tryz.prog w = .ok (.string D) w) (c : Int) (hi : ∀ w, (Instr.index 9 (.string b) (.int .i64 (a + 60 + s))).run Tryz.prog w = .ok (.int .u8 c) w) (h2 : ¬ s % 2 = 0) (h3 : ¬ a + 60 + s = b.size) (h4 : ¬ c = 10) :
    Calls Tryz.prog 76 #[.pointer (some ⟨B, 0, none⟩), .string b] w fun e w' => e = .returned (.int .i64 92) ∧ w'.heap[B]? = some (.cells #[.int .i64 d, .int .i64 u, .int .i64 g, .int .i64 m, .string n, .int .i64 s, .int .i64 a, .int .i64 (a + 60 + s), .int .i64 k, .int .i64 so, .int .i64 nu, .string fn, .string nm, .string D] 86 (0, 0)) ∧ Kq B w w' := by
  unfold maxLen at hm
  have HD := fun w => hasData_c d u g m s a (a + 60) k so nu n fn nm da w
  rw [decide_eq_false hk] at HD
  have hlt : B < w.heap.size := (Array.getElem?_eq_some_iff.1 hB).1
  obtain ⟨q0, q1, q2, q3, q4, q5, q6, q7, q8, q9, q10, q11, q12, q13⟩ := cells14 hB
  have f7 := froz_row hB 7
  have f13 := froz_row hB 13
  have hB1 := set_row (i := 7) (.int .i64 (a + 60)) hB
  have hq1 : Kq B w (w.setCell ⟨B, 7, none⟩ (.int .i64 (a + 60))) := (Kq.refl B w).set _ _
  clear hk hB
  have b1 : decide ((b.size : Int) - (a + 60) < s) = false := decide_eq_false hl
  have hsl : ∀ w, (Instr.slice 9 (.string b) (some (.int .i64 (a + 60))) (some (.int .i64 (a + 60 + s))) none).run Tryz.prog w = .ok (.string D) w := hD
  have hw1 : wrap64 (a + 60 + s) = a + 60 + s := by unfold wrap64; omega
  have hw2 : IntKind.i64.wrap (a + 60 + s) = a + 60 + s := by rw [IntKind.wrap_i64]; omega
  clear hl hD
  have b2 : (s % 2 == 0) = false := by simp [h2]
  have b3 : (Int.tmod s 2 == 0) = false := by rw [Int.tmod_eq_emod_of_nonneg hs0]; exact b2
  have b4 : (a + 60 + s == (b.size : Int)) = false := by simp [h3]
  have b5 : (c == 10) = false := by simp [h4]
  have b6 : (c != 10) = true := by simp [bne, b5]
  clear h2 h3 h4
  go_enter Tryz.func76, Tryz.ntmps76
  go_wp2_with (go_at_call 98; refine (HD _).mono ?_; rintro e w1 ⟨rfl, hb1⟩; have hB2 := hkeep hb1 hB1; have r5 := cell_row hB2 5 _ rfl; have r7 := cell_row hB2 7 _ rfl; have g7 := froz_row hB2 7; have r13 := cell_row hB2 13 _ rfl; have g13 := froz_row hB2 13; have hq2 := hq1.on hb1)
  go_quiet (fail)
  go_wp2
  go_region
  all_goals go_wp2
  all_goals go_region
  all_goals go_wp2
  all_goals go_ret
  all_goals exact ⟨rfl, set_row (.int .i64 (a + 60 + s)) (set_row (i := 13) (.string D) (row_drewN hB2 _)), (((hq2.drewN _).set 13 (.string D)).drew).set 7 (.int .i64 (a + 60 + s))⟩

set_option maxHeartbeats 4000000 in
theorem cut_pad (B : Nat) (b : ByteArray) (d u g m s a z k so nu : Int) (n fn nm da : ByteArray) (w : World) (hB : w.heap[B]? = some (.cells #[.int .i64 d, .int .i64 u, .int .i64 g, .int .i64 m, .string n, .int .i64 s, .int .i64 a, .int .i64 z, .int .i64 k, .int .i64 so, .int .i64 nu, .string fn, .string nm, .string da] 86 (0, 0))) (hm : b.size ≤ maxLen) (ha : 0 ≤ a) (hab : a + 60 ≤ b.size) (hs0 : 0 ≤ s) (hs1 : s ≤ 99999999999) (D : ByteArray) (hk : ¬ (k = 1 ∧ ordS so)) (hl : ¬ (b.size : Int) - (a + 60) < s) (hD : ∀ w, (Instr.slice 9 (.string b) (some (.int .i64 (a + 60))) (some (.int .i64 (a + 60 + s))) none).run Tryz.prog w = .ok (.string D) w) (c : Int) (hi : ∀ w, (Instr.index 9 (.string b) (.int .i64 (a + 60 + s))).run Tryz.prog w = .ok (.int .u8 c) w) (h2 : ¬ s % 2 = 0) (h3 : a + 60 + s < b.size) (h4 : c = 10) :
    Calls Tryz.prog 76 #[.pointer (some ⟨B, 0, none⟩), .string b] w fun e w' => e = .returned (.int .i64 0) ∧ w'.heap[B]? = some (.cells #[.int .i64 d, .int .i64 u, .int .i64 g, .int .i64 m, .string n, .int .i64 s, .int .i64 a, .int .i64 (a + 60 + s + 1), .int .i64 k, .int .i64 so, .int .i64 nu, .string fn, .string nm, .string D] 86 (0, 0)) ∧ Kq B w w' := by
  unfold maxLen at hm
  have HD := fun w => hasData_c d u g m s a (a + 60) k so nu n fn nm da w
  rw [decide_eq_false hk] at HD
  have hlt : B < w.heap.size := (Array.getElem?_eq_some_iff.1 hB).1
  obtain ⟨q0, q1, q2, q3, q4, q5, q6, q7, q8, q9, q10, q11, q12, q13⟩ := cells14 hB
  have f7 := froz_row hB 7
  have f13 := froz_row hB 13
  have hB1 := set_row (i := 7) (.int .i64 (a + 60)) hB
  have hq1 : Kq B w (w.setCell ⟨B, 7, none⟩ (.int .i64 (a + 60))) := (Kq.refl B w).set _ _
  clear hk hB
  have b1 : decide ((b.size : Int) - (a + 60) < s) = false := decide_eq_false hl
  have hsl : ∀ w, (Instr.slice 9 (.string b) (some (.int .i64 (a + 60))) (some (.int .i64 (a + 60 + s))) none).run Tryz.prog w = .ok (.string D) w := hD
  have hw1 : wrap64 (a + 60 + s) = a + 60 + s := by unfold wrap64; omega
  have hw2 : IntKind.i64.wrap (a + 60 + s) = a + 60 + s := by rw [IntKind.wrap_i64]; omega
  clear hl hD
  subst h4
  have b2 : (s % 2 == 0) = false := by simp [h2]
  have b3 : (Int.tmod s 2 == 0) = false := by rw [Int.tmod_eq_emod_of_nonneg hs0]; exact b2
  have b4 : (a + 60 + s == (b.size : Int)) = false := by simp; omega
  have hw3 : wrap64 (a + 60 + s + 1) = a + 60 + s + 1 := by unfold wrap64; omega
  have hw4 : IntKind.i64.wrap (a + 60 + s + 1) = a + 60 + s + 1 := by rw [IntKind.wrap_i64]; omega
  clear h2 h3
  go_enter Tryz.func76, Tryz.ntmps76
  go_wp2_with (go_at_call 98; refine (HD _).mono ?_; rintro e w1 ⟨rfl, hb1⟩; have hB2 := hkeep hb1 hB1; have r5 := cell_row hB2 5 _ rfl; have r7 := cell_row hB2 7 _ rfl; have g7 := froz_row hB2 7; have r13 := cell_row hB2 13 _ rfl; have g13 := froz_row hB2 13; have hq2 := hq1.on hb1)
  go_quiet (fail)
  go_wp2
  go_region
  all_goals go_wp2
  all_goals go_region
  all_goals go_wp2
  all_goals go_ret
  all_goals exact ⟨rfl, set_row (.int .i64 (a + 60 + s + 1)) (set_row (i := 7) (.int .i64 (a + 60 + s)) (set_row (i := 13) (.string D) (row_drewN hB2 _))), ((((hq2.drewN _).set 13 (.string D)).drew).set 7 (.int .i64 (a + 60 + s))).set 7 (.int .i64 (a + 60 + s + 1))⟩

theorem sl_data (b : ByteArray) (a s : Int) (ha : 0 ≤ a) (hs : 0 ≤ s) (h : a + s ≤ b.size) : ∀ w, (Instr.slice 9 (.string b) (some (.int .i64 a)) (some (.int .i64 (a + s))) none).run Tryz.prog w = .ok (.string (b.extract a.toNat (a + s).toNat)) w := by
  intro w
  obtain ⟨n, rfl⟩ := Int.eq_ofNat_of_zero_le ha
  rw [run_slice_string w 9 b .i64 .i64 n ((n : Int) + s) Tryz.underlying9 (by omega) (by omega) (by omega), Int.toNat_natCast]
theorem idx_int (b : ByteArray) (a : Int) (ha : 0 ≤ a) (h : a < b.size) : ∃ c : UInt8, b.data.toList[a.toNat]? = some c ∧ ∀ w, (Instr.index 9 (.string b) (.int .i64 a)).run Tryz.prog w = .ok (.int .u8 (c.toNat : Int)) w := by
  obtain ⟨n, rfl⟩ := Int.eq_ofNat_of_zero_le ha
  have hn : n < b.size := by omega
  refine ⟨b[n], ?_, ?_⟩
  · rw [Int.toNat_natCast]; exact at_some b n hn
  · exact idx b n hn
theorem cutData_c (B : Nat) (b : ByteArray) (x : Pt) (he : x.e = 0) (w : World) (hB : w.heap[B]? = some (.cells (rowP x) 86 (0, 0))) (hm : b.size ≤ maxLen) (ha : 0 ≤ x.pos) (hab : x.pos + 60 ≤ b.size) (hs0 : 0 ≤ x.h.size) (hs1 : x.h.size ≤ 99999999999) :
    Calls Tryz.prog 76 #[.pointer (some ⟨B, 0, none⟩), .string b] w fun e w' => e = .returned (.int .i64 (dataW b x).e) ∧ w'.heap[B]? = some (.cells (rowP (dataW b x)) 86 (0, 0)) ∧ Kq B w w' := by
  obtain ⟨⟨d, u, g, m, n, s⟩, a, z, k, ⟨so, nu, fn⟩, nm, da, e⟩ := x
  dsimp only at he ha hab hs0 hs1
  subst he
  unfold dataW
  dsimp only
  by_cases hk : k = 1 ∧ ordS so
  · rw [if_pos hk]; exact cut_thin B b d u g m s a z k so nu n fn nm da w hB hm ha hab hs0 hs1 hk
  rw [if_neg hk]
  by_cases hl : (b.size : Int) - (a + 60) < s
  · rw [if_pos hl]; exact cut_few B b d u g m s a z k so nu n fn nm da w hB hm ha hab hs0 hs1 hk hl
  rw [if_neg hl]
  have hD := sl_data b (a + 60) s (by omega) hs0 (by omega)
  generalize b.extract (a + 60).toNat (a + 60 + s).toNat = D at hD ⊢
  by_cases h2 : s % 2 = 0
  · rw [if_pos h2]; exact cut_even B b d u g m s a z k so nu n fn nm da w hB hm ha hab hs0 hs1 D hk hl hD h2
  rw [if_neg h2]
  by_cases h3 : a + 60 + s = b.size
  · have hno : ¬ b.data.toList[(a + 60 + s).toNat]? = some 10 := by
      have hlen : b.data.toList.length = b.size := by simp
      rw [List.getElem?_eq_none (by omega)]; simp
    rw [if_neg hno]
    exact cut_end B b d u g m s a z k so nu n fn nm da w hB hm ha hab hs0 hs1 D hk hl hD h2 h3
  obtain ⟨c, hc, hi⟩ := idx_int b (a + 60 + s) (by omega) (by omega)
  rw [hc]
  by_cases h4 : c = 10
  · rw [if_pos (by rw [h4])]
    exact cut_pad B b d u g m s a z k so nu n fn nm da w hB hm ha hab hs0 hs1 D hk hl hD (c.toNat : Int) hi h2 (by omega) (by rw [h4]; rfl)
  · rw [if_neg (fun q => h4 (by injection q))]
    exact cut_wrong B b d u g m s a z k so nu n fn nm da w hB hm ha hab hs0 hs1 D hk hl hD (c.toNat : Int) hi h2 h3 (fun q => h4 (UInt8.toNat_inj.1 (by show c.toNat = 10; omega)))

end Go.Proofs.YtnfplepaejjmfaaGreatDoor
