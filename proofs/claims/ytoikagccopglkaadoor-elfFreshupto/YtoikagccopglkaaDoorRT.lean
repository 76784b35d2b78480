
-- The document's Sections: its short ways.
import Derived.Test.YtoikagccopglkaaDoorR4
namespace Go.Proofs.YtoikagccopglkaaDoor
open Go.ChangeShapes Go.WideShapes Go.ChangeAt Go.RowKit
set_option linter.unusedVariables false
set_option maxRecDepth 100000
theorem wi_ok (L p n : Nat) (w : World) (hp : p ≤ L) (hn : n ≤ L - p) (hm : L ≤ maxLen) :
    Calls Tryd.prog 16 #[.int .i64 L, .int .u64 p, .int .u64 n] w fun r w' => r = .returned (.bool true) ∧ w' = w := by
  unfold maxLen at hm
  have h1 : (p : Int) ≤ L := by omega
  have h2 : (n : Int) ≤ L - p := by omega
  go_enter Tryd.func16, Tryd.ntmps16
  go_wp2
  go_ret
  exact ⟨by simp, rfl⟩
theorem wi_no (L p n : Nat) (w : World) (hp : p < 18446744073709551616) (hn : n < 18446744073709551616) (h : ¬ (p ≤ L ∧ n ≤ L - p)) (hm : L ≤ maxLen) :
    Calls Tryd.prog 16 #[.int .i64 L, .int .u64 p, .int .u64 n] w fun r w' => r = .returned (.bool false) ∧ w' = w := by
  unfold maxLen at hm
  by_cases h1 : p ≤ L
  · have h2 : L - p < n := by omega
    have h3 : ¬ (n : Int) ≤ L - p := by omega
    have h1' : (p : Int) ≤ L := by omega
    go_enter Tryd.func16, Tryd.ntmps16
    go_wp2
    go_ret
    exact ⟨by simp, rfl⟩
  · have h1' : ¬ (p : Int) ≤ L := by omega
    go_enter Tryd.func16, Tryd.ntmps16
    go_wp2
    go_ret
    exact ⟨by simp, rfl⟩
theorem rSecs_no (b : ByteArray) (e : Int) (x0 x1 x2 x3 x4 x5 x6 x7 : Int) (w : World) (he : (e != 0) = true)
    (hH : ∀ w : World, Calls Tryd.prog 14 #[.string b] w fun r w' => r = .returned (.tuple #[.agg #[.int .i64 x0, .int .i64 x1, .int .i64 x2, .int .i64 x3, .int .u64 x4, .int .i64 x5, .int .i64 x6, .int .i64 x7], .int .i64 e]) ∧ Below w.heap.size w w') :
    Calls Tryd.prog 5 #[.string b] w fun r w' => r = .returned (.tuple #[.slice none 0 0, .int .i64 e]) ∧ Below w.heap.size w w' := by
  have HH := Hid.mk' hH
  clear hH
  go_enter Tryd.func5, Tryd.ntmps5
  go_wp2_with (first
    | (go_at_call 14; refine (HH.out _).mono ?_; rintro r w1 ⟨rfl, hb1⟩))
  go_ret2
  exact ⟨rfl, Below.alloc hb1 hb1.size _⟩
theorem rSecs_zero (b : ByteArray) (x0 x1 x2 x3 x5 x6 x7 : Int) (w : World)
    (hH : ∀ w : World, Calls Tryd.prog 14 #[.string b] w fun r w' => r = .returned (.tuple #[.agg #[.int .i64 x0, .int .i64 x1, .int .i64 x2, .int .i64 x3, .int .u64 0, .int .i64 x5, .int .i64 x6, .int .i64 x7], .int .i64 0]) ∧ Below w.heap.size w w') :
    Calls Tryd.prog 5 #[.string b] w fun r w' => r = .returned (.tuple #[.slice none 0 0, .int .i64 0]) ∧ Below w.heap.size w w' := by
  have HH := Hid.mk' hH
  clear hH
  go_enter Tryd.func5, Tryd.ntmps5
  go_wp2_with (first
    | (go_at_call 14; refine (HH.out _).mono ?_; rintro r w1 ⟨rfl, hb1⟩))
  go_ret2
  exact ⟨rfl, Below.alloc hb1 hb1.size _⟩
theorem rSecs_55 (b : ByteArray) (cc o h2 h3 h7 : Int) (so L q h6 : Nat) (w : World) (hso : so ≠ 0) (hne : q ≠ L)
    (hH : ∀ w : World, Calls Tryd.prog 14 #[.string b] w fun r w' => r = .returned (.tuple #[.agg #[.int .i64 cc, .int .i64 o, .int .i64 h2, .int .i64 h3, .int .u64 (so : Int), .int .i64 (q : Int), .int .i64 (h6 : Int), .int .i64 h7], .int .i64 0]) ∧ Below w.heap.size w w')
    (hP : ∀ w : World, Calls Tryd.prog 15 #[.int .i64 cc, .int .i64 40, .int .i64 64] w fun r w' => r = .returned (.int .i64 (L : Int)) ∧ w' = w) :
    Calls Tryd.prog 5 #[.string b] w fun r w' => r = .returned (.tuple #[.slice none 0 0, .int .i64 55]) ∧ Below w.heap.size w w' := by
  have HH := Hid.mk' hH
  have HP := Hid.mk' hP
  have hs0 : ((so : Int) == 0) = false := beq_eq_false_iff_ne.2 (by omega)
  have hqL : ((q : Int) != (L : Int)) = true := bne_iff_ne.2 (by omega)
  clear hH hP
  go_enter Tryd.func5, Tryd.ntmps5
  go_wp2_with (first
    | (go_at_call 14; refine (HH.out _).mono ?_; rintro r w1 ⟨rfl, hb1⟩)
    | (go_at_call 15; refine (HP.out _).mono ?_; rintro r w2 ⟨rfl, hw2⟩; subst w2))
  go_ret2
  exact ⟨rfl, Below.alloc hb1 hb1.size _⟩
theorem rSecs_54a (b : ByteArray) (cc o h2 h3 h7 : Int) (so L : Nat) (w : World) (hso : so ≠ 0) (hL : 0 < L ∧ L ≤ 64)
    (hH : ∀ w : World, Calls Tryd.prog 14 #[.string b] w fun r w' => r = .returned (.tuple #[.agg #[.int .i64 cc, .int .i64 o, .int .i64 h2, .int .i64 h3, .int .u64 (so : Int), .int .i64 (L : Int), .int .i64 0, .int .i64 h7], .int .i64 0]) ∧ Below w.heap.size w w')
    (hP : ∀ w : World, Calls Tryd.prog 15 #[.int .i64 cc, .int .i64 40, .int .i64 64] w fun r w' => r = .returned (.int .i64 (L : Int)) ∧ w' = w)
    (hW : ∀ w : World, Calls Tryd.prog 16 #[.int .i64 b.size, .int .u64 (so : Int), .int .u64 (L : Int)] w fun r w' => r = .returned (.bool false) ∧ w' = w) :
    Calls Tryd.prog 5 #[.string b] w fun r w' => r = .returned (.tuple #[.slice none 0 0, .int .i64 54]) ∧ Below w.heap.size w w' := by
  have HH := Hid.mk' hH
  have HP := Hid.mk' hP
  have hs0 : ((so : Int) == 0) = false := beq_eq_false_iff_ne.2 (by omega)
  have HW := Hid.mk' hW
  have hLL : ((L : Int) != (L : Int)) = false := bne_self_eq_false _
  have hLne : ¬ (L : Int) = 0 := by omega
  have hwL : IntKind.u64.wrap (L : Int) = (L : Int) := by rw [IntKind.wrap_u64]; omega
  clear hH hP hW
  go_enter Tryd.func5, Tryd.ntmps5
  go_wp2_with (first
    | (go_at_call 14; refine (HH.out _).mono ?_; rintro r w1 ⟨rfl, hb1⟩)
    | (go_at_call 15; refine (HP.out _).mono ?_; rintro r w2 ⟨rfl, hw2⟩; subst w2)
    | (go_at_call 16; refine (HW.out _).mono ?_; rintro r w2 ⟨rfl, hw2⟩; subst w2))
  go_ret2
  exact ⟨rfl, Below.alloc hb1 hb1.size _⟩
set_option maxHeartbeats 1000000 in
theorem rSecs_e0 (b : ByteArray) (cc o h2 h3 h7 y0 y1 y2 y3 y4 y5 y7 : Int) (so L : Nat) (w : World) (hm : b.size ≤ maxLen) (hin : so + L ≤ b.size) (hso : so ≠ 0) (hL : 0 < L ∧ L ≤ 64)
    (hH : ∀ w : World, Calls Tryd.prog 14 #[.string b] w fun r w' => r = .returned (.tuple #[.agg #[.int .i64 cc, .int .i64 o, .int .i64 h2, .int .i64 h3, .int .u64 (so : Int), .int .i64 (L : Int), .int .i64 0, .int .i64 h7], .int .i64 0]) ∧ Below w.heap.size w w')
    (hP : ∀ w : World, Calls Tryd.prog 15 #[.int .i64 cc, .int .i64 40, .int .i64 64] w fun r w' => r = .returned (.int .i64 (L : Int)) ∧ w' = w)
    (hW : ∀ w : World, Calls Tryd.prog 16 #[.int .i64 b.size, .int .u64 (so : Int), .int .u64 (L : Int)] w fun r w' => r = .returned (.bool true) ∧ w' = w)
    (hE : ∀ w : World, Calls Tryd.prog 17 #[.string b, .int .i64 (so : Int), .agg #[.int .i64 cc, .int .i64 o, .int .i64 h2, .int .i64 h3, .int .u64 (so : Int), .int .i64 (L : Int), .int .i64 0, .int .i64 h7]] w fun r w' => r = .returned (.agg #[.int .i64 y0, .int .i64 y1, .int .u64 y2, .int .i64 y3, .int .i64 y4, .int .u64 y5, .int .u64 0, .int .u64 y7]) ∧ Below w.heap.size w w') :
    Calls Tryd.prog 5 #[.string b] w fun r w' => r = .returned (.tuple #[.slice none 0 0, .int .i64 0]) ∧ Below w.heap.size w w' := by
  have HH := Hid.mk' hH
  have HP := Hid.mk' hP
  have hs0 : ((so : Int) == 0) = false := beq_eq_false_iff_ne.2 (by omega)
  have HW := Hid.mk' hW
  have HE := Hid.mk' hE
  have hLL : ((L : Int) != (L : Int)) = false := bne_self_eq_false _
  have hLne : ¬ (L : Int) = 0 := by omega
  have hwL : IntKind.u64.wrap (L : Int) = (L : Int) := by rw [IntKind.wrap_u64]; omega
  have hm2 : (b.size : Int) ≤ 9223372036854775807 := by unfold maxLen at hm; omega
  have hws : IntKind.i64.wrap (so : Int) = (so : Int) := by rw [IntKind.wrap_i64]; omega
  have hws2 : wrap64 (so : Int) = (so : Int) := by have h := hws; rw [IntKind.wrap_i64] at h; unfold wrap64; exact h
  clear hH hP hW hE
  go_enter Tryd.func5, Tryd.ntmps5
  go_wp2_with (first
    | (go_at_call 14; refine (HH.out _).mono ?_; rintro r w1 ⟨rfl, hb1⟩)
    | (go_at_call 15; refine (HP.out _).mono ?_; rintro r w2 ⟨rfl, hw2⟩; subst w2)
    | (go_at_call 16; refine (HW.out _).mono ?_; rintro r w2 ⟨rfl, hw2⟩; subst w2)
    | (refine wpList_load_row rfl _ _ rfl w1.heap.size rfl _ _ _ _ (heap_alloc_new w1 _) Tryd.underlying42 rfl (by kernel_rfl) ?_)
    | (go_at_call 17; refine (HE.out _).mono ?_; rintro r w3 ⟨rfl, hb3⟩; have hq4 : w3.cell? ⟨w1.heap.size, 4, none⟩ = some (.int .u64 (so : Int)) := (hb3.cell (by rw [size_alloc]; exact Nat.lt_succ_self _)).trans (cell_of_row _ _ 4 _ _ _ (heap_alloc_new w1 _)); have hlt3 : w1.heap.size < w3.heap.size := Nat.lt_of_lt_of_le (by rw [size_alloc]; exact Nat.lt_succ_self _) hb3.size; have hq5 : (w3.alloc (.cells #[.int .i64 y0, .int .i64 y1, .int .u64 y2, .int .i64 y3, .int .i64 y4, .int .u64 y5, .int .u64 0, .int .u64 y7] 48)).cell? ⟨w1.heap.size, 4, none⟩ = some (.int .u64 (so : Int)) := (World.cell?_alloc_past _ _ _ hlt3).trans hq4))
  go_ret2
  exact ⟨rfl, (Below.alloc hb1 hb1.size _).trans ((Below.alloc hb3 hb3.size _).mono (by rw [size_alloc]; have := hb1.size; omega))⟩
set_option maxHeartbeats 1000000 in
theorem rSecs_54c (b : ByteArray) (cc o h2 h3 h7 y0 y1 y2 y3 y4 y5 y7 : Int) (so L n dq : Nat) (w : World) (hm : b.size ≤ maxLen) (hin : so + L ≤ b.size) (hso : so ≠ 0) (hL : 0 < L ∧ L ≤ 64) (hn0 : n ≠ 0) (hdq : (b.size - so) / L = dq) (hn : dq < n)
    (hH : ∀ w : World, Calls Tryd.prog 14 #[.string b] w fun r w' => r = .returned (.tuple #[.agg #[.int .i64 cc, .int .i64 o, .int .i64 h2, .int .i64 h3, .int .u64 (so : Int), .int .i64 (L : Int), .int .i64 0, .int .i64 h7], .int .i64 0]) ∧ Below w.heap.size w w')
    (hP : ∀ w : World, Calls Tryd.prog 15 #[.int .i64 cc, .int .i64 40, .int .i64 64] w fun r w' => r = .returned (.int .i64 (L : Int)) ∧ w' = w)
    (hW : ∀ w : World, Calls Tryd.prog 16 #[.int .i64 b.size, .int .u64 (so : Int), .int .u64 (L : Int)] w fun r w' => r = .returned (.bool true) ∧ w' = w)
    (hW0 : ∀ w : World, Calls Tryd.prog 16 #[.int .i64 b.size, .int .u64 (so : Int), .int .u64 0] w fun r w' => r = .returned (.bool true) ∧ w' = w)
    (hE : ∀ w : World, Calls Tryd.prog 17 #[.string b, .int .i64 (so : Int), .agg #[.int .i64 cc, .int .i64 o, .int .i64 h2, .int .i64 h3, .int .u64 (so : Int), .int .i64 (L : Int), .int .i64 0, .int .i64 h7]] w fun r w' => r = .returned (.agg #[.int .i64 y0, .int .i64 y1, .int .u64 y2, .int .i64 y3, .int .i64 y4, .int .u64 y5, .int .u64 (n : Int), .int .u64 y7]) ∧ Below w.heap.size w w') :
    Calls Tryd.prog 5 #[.string b] w fun r w' => r = .returned (.tuple #[.slice none 0 0, .int .i64 54]) ∧ Below w.heap.size w w' := by
  have HH := Hid.mk' hH
  have HP := Hid.mk' hP
  have hs0 : ((so : Int) == 0) = false := beq_eq_false_iff_ne.2 (by omega)
  have HW := Hid.mk' hW
  have HE := Hid.mk' hE
  have HW0 := Hid.mk' hW0
  have hLL : ((L : Int) != (L : Int)) = false := bne_self_eq_false _
  have hLne : ¬ (L : Int) = 0 := by omega
  have hwL : IntKind.u64.wrap (L : Int) = (L : Int) := by rw [IntKind.wrap_u64]; omega
  have hm2 : (b.size : Int) ≤ 9223372036854775807 := by unfold maxLen at hm; omega
  have hws : IntKind.i64.wrap (so : Int) = (so : Int) := by rw [IntKind.wrap_i64]; omega
  have hws2 : wrap64 (so : Int) = (so : Int) := by have h := hws; rw [IntKind.wrap_i64] at h; unfold wrap64; exact h
  have hn0' : ((n : Int) == 0) = false := beq_eq_false_iff_ne.2 (by omega)
  have hq : IntKind.u64.wrap ((b.size : Int) - (so : Int)) = (((b.size - so : Nat)) : Int) := by rw [IntKind.wrap_u64]; omega
  have hdl : dq ≤ b.size := by rw [← hdq]; exact Nat.le_trans (Nat.div_le_self _ _) (Nat.sub_le _ _)
  have hq2 : IntKind.u64.wrap ((((b.size - so : Nat)) : Int) / (L : Int)) = (dq : Int) := by
    rw [← Int.natCast_ediv, hdq, IntKind.wrap_u64]
    clear hq hin
    omega
  have hgt : (dq : Int) < (n : Int) := Int.ofNat_lt.2 hn
  clear hdq hdl
  clear hH hP hW hE hW0
  go_enter Tryd.func5, Tryd.ntmps5
  go_wp2_with (first
    | (go_at_call 14; refine (HH.out _).mono ?_; rintro r w1 ⟨rfl, hb1⟩)
    | (go_at_call 15; refine (HP.out _).mono ?_; rintro r w2 ⟨rfl, hw2⟩; subst w2)
    | (go_at_call 16; refine (HW.out _).mono ?_; rintro r w2 ⟨rfl, hw2⟩; subst w2)
    | (refine wpList_load_row rfl _ _ rfl w1.heap.size rfl _ _ _ _ (heap_alloc_new w1 _) Tryd.underlying42 rfl (by kernel_rfl) ?_))
  go_at_call 17
  refine (HE.out _).mono ?_
  rintro r w3 ⟨rfl, hb3⟩
  have hq4 : w3.cell? ⟨w1.heap.size, 4, none⟩ = some (.int .u64 (so : Int)) := (hb3.cell (by rw [size_alloc]; exact Nat.lt_succ_self _)).trans (cell_of_row _ _ 4 _ _ _ (heap_alloc_new w1 _))
  have hlt3 : w1.heap.size < w3.heap.size := Nat.lt_of_lt_of_le (by rw [size_alloc]; exact Nat.lt_succ_self _) hb3.size
  have hq5 : (w3.alloc (.cells #[.int .i64 y0, .int .i64 y1, .int .u64 y2, .int .i64 y3, .int .i64 y4, .int .u64 y5, .int .u64 (n : Int), .int .u64 y7] 48)).cell? ⟨w1.heap.size, 4, none⟩ = some (.int .u64 (so : Int)) := (World.cell?_alloc_past _ _ _ hlt3).trans hq4
  clear hq4 HW HE HH HP
  go_wp2_with (first | (go_at_call 16; refine (HW0.out _).mono ?_; rintro r w2 ⟨rfl, hw2⟩; subst w2))
  go_ret2
  exact ⟨rfl, (Below.alloc hb1 hb1.size _).trans ((Below.alloc hb3 hb3.size _).mono (by rw [size_alloc]; have := hb1.size; omega))⟩
set_option maxHeartbeats 1000000 in
theorem rSecs_54b (b : ByteArray) (cc o h2 h3 h7 : Int) (so L h6 : Nat) (w : World) (hm : b.size ≤ maxLen) (hso : so ≠ 0) (h60 : h6 ≠ 0) (h6b : h6 < 65536) (hL : 0 < L ∧ L ≤ 64)
    (hH : ∀ w : World, Calls Tryd.prog 14 #[.string b] w fun r w' => r = .returned (.tuple #[.agg #[.int .i64 cc, .int .i64 o, .int .i64 h2, .int .i64 h3, .int .u64 (so : Int), .int .i64 (L : Int), .int .i64 (h6 : Int), .int .i64 h7], .int .i64 0]) ∧ Below w.heap.size w w')
    (hP : ∀ w : World, Calls Tryd.prog 15 #[.int .i64 cc, .int .i64 40, .int .i64 64] w fun r w' => r = .returned (.int .i64 (L : Int)) ∧ w' = w)
    (hW : ∀ w : World, Calls Tryd.prog 16 #[.int .i64 b.size, .int .u64 (so : Int), .int .u64 0] w fun r w' => r = .returned (.bool false) ∧ w' = w) :
    Calls Tryd.prog 5 #[.string b] w fun r w' => r = .returned (.tuple #[.slice none 0 0, .int .i64 54]) ∧ Below w.heap.size w w' := by
  have HH := Hid.mk' hH
  have HP := Hid.mk' hP
  have hs0 : ((so : Int) == 0) = false := beq_eq_false_iff_ne.2 (by omega)
  have HW := Hid.mk' hW
  have hLL : ((L : Int) != (L : Int)) = false := bne_self_eq_false _
  have hLne : ¬ (L : Int) = 0 := by omega
  have hwL : IntKind.u64.wrap (L : Int) = (L : Int) := by rw [IntKind.wrap_u64]; omega
  have hn0 : ((h6 : Int) == 0) = false := beq_eq_false_iff_ne.2 (by omega)
  have hw6 : IntKind.u64.wrap (h6 : Int) = (h6 : Int) := by rw [IntKind.wrap_u64]; omega
  clear hH hP hW
  go_enter Tryd.func5, Tryd.ntmps5
  go_wp2_with (first
    | (go_at_call 14; refine (HH.out _).mono ?_; rintro r w1 ⟨rfl, hb1⟩)
    | (go_at_call 15; refine (HP.out _).mono ?_; rintro r w2 ⟨rfl, hw2⟩; subst w2)
    | (go_at_call 16; refine (HW.out _).mono ?_; rintro r w2 ⟨rfl, hw2⟩; subst w2))
  go_ret2
  exact ⟨rfl, Below.alloc hb1 hb1.size _⟩
set_option maxHeartbeats 1000000 in
theorem rSecs_54d (b : ByteArray) (cc o h2 h3 h7 : Int) (so L h6 dq : Nat) (w : World) (hm : b.size ≤ maxLen) (hso : so ≠ 0) (h60 : h6 ≠ 0) (h6b : h6 < 65536) (hL : 0 < L ∧ L ≤ 64) (hin : so ≤ b.size) (hdq : (b.size - so) / L = dq) (hn : dq < h6)
    (hH : ∀ w : World, Calls Tryd.prog 14 #[.string b] w fun r w' => r = .returned (.tuple #[.agg #[.int .i64 cc, .int .i64 o, .int .i64 h2, .int .i64 h3, .int .u64 (so : Int), .int .i64 (L : Int), .int .i64 (h6 : Int), .int .i64 h7], .int .i64 0]) ∧ Below w.heap.size w w')
    (hP : ∀ w : World, Calls Tryd.prog 15 #[.int .i64 cc, .int .i64 40, .int .i64 64] w fun r w' => r = .returned (.int .i64 (L : Int)) ∧ w' = w)
    (hW : ∀ w : World, Calls Tryd.prog 16 #[.int .i64 b.size, .int .u64 (so : Int), .int .u64 0] w fun r w' => r = .returned (.bool true) ∧ w' = w) :
    Calls Tryd.prog 5 #[.string b] w fun r w' => r = .returned (.tuple #[.slice none 0 0, .int .i64 54]) ∧ Below w.heap.size w w' := by
  have HH := Hid.mk' hH
  have HP := Hid.mk' hP
  have hs0 : ((so : Int) == 0) = false := beq_eq_false_iff_ne.2 (by omega)
  have HW := Hid.mk' hW
  have hLL : ((L : Int) != (L : Int)) = false := bne_self_eq_false _
  have hLne : ¬ (L : Int) = 0 := by omega
  have hwL : IntKind.u64.wrap (L : Int) = (L : Int) := by rw [IntKind.wrap_u64]; omega
  have hn0 : ((h6 : Int) == 0) = false := beq_eq_false_iff_ne.2 (by omega)
  have hw6 : IntKind.u64.wrap (h6 : Int) = (h6 : Int) := by rw [IntKind.wrap_u64]; omega
  have hm2 : (b.size : Int) ≤ 9223372036854775807 := by unfold maxLen at hm; omega
  have hq : IntKind.u64.wrap ((b.size : Int) - (so : Int)) = (((b.size - so : Nat)) : Int) := by rw [IntKind.wrap_u64]; omega
  have hdl : dq ≤ b.size := by rw [← hdq]; exact Nat.le_trans (Nat.div_le_self _ _) (Nat.sub_le _ _)
  have hq2 : IntKind.u64.wrap ((((b.size - so : Nat)) : Int) / (L : Int)) = (dq : Int) := by
    rw [← Int.natCast_ediv, hdq, IntKind.wrap_u64]
    clear hq hin
    omega
  have hgt : (dq : Int) < (h6 : Int) := Int.ofNat_lt.2 hn
  clear hdq hdl hH hP hW
  go_enter Tryd.func5, Tryd.ntmps5
  go_wp2_with (first
    | (go_at_call 14; refine (HH.out _).mono ?_; rintro r w1 ⟨rfl, hb1⟩)
    | (go_at_call 15; refine (HP.out _).mono ?_; rintro r w2 ⟨rfl, hw2⟩; subst w2)
    | (go_at_call 16; refine (HW.out _).mono ?_; rintro r w2 ⟨rfl, hw2⟩; subst w2))
  go_ret2
  exact ⟨rfl, Below.alloc hb1 hb1.size _⟩
end Go.Proofs.YtoikagccopglkaaDoor
