
-- shelfref7.Format: a contract.
import Derived.Test.YtbkfkanknfdelaaDoorX7
import Derived.Test.YtbkfkanknfdelaaDoorO2
import Derived.Test.YtbkfkanknfdelaaDoorRPut
namespace Go.Proofs.YtbkfkanknfdelaaDoor
open Go.ChangeShapes Go.WideShapes Go.ChangeAt Go.RowKit
set_option linter.unusedVariables false
set_option maxRecDepth 100000

theorem rformat_long (d u g m s : Int) (n : ByteArray) (w : World) (hm : n.size ≤ maxLen) (hl : 16 < n.size) :
    Calls Tryd.prog 18 #[.agg #[.int .i64 d, .int .i64 u, .int .i64 g, .int .i64 m, .string n, .int .i64 s]] w fun e w' => e = .returned (.tuple #[.string ⟨#[]⟩, .int .i64 80]) ∧ Below w.heap.size w w' := by
  unfold maxLen at hm
  have b1 : decide ((16 : Int) < (n.size : Int)) = true := by simp; omega
  go_enter Tryd.func18, Tryd.ntmps18
  go_wp2
  go_ret2
  exact ⟨rfl, bup (Below.refl _ _) _⟩
theorem rformat_blank (d u g m s : Int) (n : ByteArray) (w : World) (hm : n.size ≤ maxLen) (hl : n.size ≤ 16) (c : Int) (e0 : (n.toList == []) = false) (h0 : 0 < n.size)
    (hidx : ∀ w, (Instr.index 9 (.string n) (.int .i64 ((n.size : Int) - 1))).run Tryd.prog w = .ok (.int .u8 c) w) (hc : (c == 32) = true) :
    Calls Tryd.prog 18 #[.agg #[.int .i64 d, .int .i64 u, .int .i64 g, .int .i64 m, .string n, .int .i64 s]] w fun e w' => e = .returned (.tuple #[.string ⟨#[]⟩, .int .i64 80]) ∧ Below w.heap.size w w' := by
  unfold maxLen at hm
  have b1 : decide ((16 : Int) < (n.size : Int)) = false := by simp; omega
  have e1 : (n.toList != []) = true := by simp only [bne, e0, Bool.not_false]
  go_enter Tryd.func18, Tryd.ntmps18
  go_wp2
  go_ret2
  exact ⟨rfl, bup (Below.refl _ _) _⟩
structure RowB (R : Nat) (d u g m s : Int) (n : ByteArray) (w : World) : Prop where
  row : w.heap[R]? = some (.cells #[.int .i64 d, .int .i64 u, .int .i64 g, .int .i64 m, .string n, .int .i64 s] 25 (0, 0))
theorem RowB.cells {R : Nat} {d u g m s : Int} {n : ByteArray} {w : World} (h : RowB R d u g m s n w) : w.cell? ⟨R, 0, none⟩ = some (.int .i64 d) ∧ w.cell? ⟨R, 1, none⟩ = some (.int .i64 u) ∧ w.cell? ⟨R, 2, none⟩ = some (.int .i64 g) ∧ w.cell? ⟨R, 3, none⟩ = some (.int .i64 m) ∧ w.cell? ⟨R, 4, none⟩ = some (.string n) ∧ w.cell? ⟨R, 5, none⟩ = some (.int .i64 s) :=
  ⟨cell_of_row _ _ 0 _ _ _ h.row, cell_of_row _ _ 1 _ _ _ h.row, cell_of_row _ _ 2 _ _ _ h.row, cell_of_row _ _ 3 _ _ _ h.row, cell_of_row _ _ 4 _ _ _ h.row, cell_of_row _ _ 5 _ _ _ h.row⟩
set_option maxHeartbeats 2000000 in
theorem rformat_bad (d u g m s : Int) (n : ByteArray) (w : World) (hm : n.size ≤ maxLen) (hl : n.size ≤ 16) (hname : n.toList = [] ∨ ((n.toList == []) = false ∧ 0 < n.size ∧ ∃ c : Int, (c == 32) = false ∧ ∀ w, (Instr.index 9 (.string n) (.int .i64 ((n.size : Int) - 1))).run Tryd.prog w = .ok (.int .u8 c) w)) (pt : Int → Int → ByteArray) (pe : Int → Int → Int) (ot : Int → Int → ByteArray) (oe : Int → Int → Int)
    (HD : Hid (∀ (v k : Int) (wx : World), v ≤ 9223372036854775807 → Below w.heap.size w wx → RowB w.heap.size d u g m s n wx → Calls Tryd.prog 31 #[.int .i64 v, .int .i64 k] wx fun e w' => e = .returned (.tuple #[.string (pt v k), .int .i64 (pe v k)]) ∧ Below w.heap.size w w' ∧ RowB w.heap.size d u g m s n w'))
    (i1 : d ≤ 9223372036854775807) (i2 : u ≤ 9223372036854775807) (i3 : g ≤ 9223372036854775807) (i4 : m ≤ 9223372036854775807) (i5 : s ≤ 9223372036854775807)
    (HO : Hid (∀ (v k : Int) (wx : World), v ≤ 9223372036854775807 → Below w.heap.size w wx → RowB w.heap.size d u g m s n wx → Calls Tryd.prog 32 #[.int .i64 v, .int .i64 k] wx fun e w' => e = .returned (.tuple #[.string (ot v k), .int .i64 (oe v k)]) ∧ Below w.heap.size w w' ∧ RowB w.heap.size d u g m s n w')) (hb : ¬ (pe d 12 = 0 ∧ pe u 6 = 0 ∧ pe g 6 = 0 ∧ oe m 8 = 0 ∧ pe s 10 = 0)) :
    Calls Tryd.prog 18 #[.agg #[.int .i64 d, .int .i64 u, .int .i64 g, .int .i64 m, .string n, .int .i64 s]] w fun e w' => e = .returned (.tuple #[.string ⟨#[]⟩, .int .i64 11]) ∧ Below w.heap.size w w' := by
  unfold maxLen at hm
  have b1 : decide ((16 : Int) < (n.size : Int)) = false := by simp; omega
  have hB : Below w.heap.size w (w.alloc (.cells #[.int .i64 d, .int .i64 u, .int .i64 g, .int .i64 m, .string n, .int .i64 s] 25)) := bup (Below.refl _ _) _
  have hR : RowB w.heap.size d u g m s n (w.alloc (.cells #[.int .i64 d, .int .i64 u, .int .i64 g, .int .i64 m, .string n, .int .i64 s] 25)) := ⟨heap_alloc_new w _⟩
  obtain ⟨x0, x1, x2, x3, x4, x5⟩ := hR.cells
  rcases hname with hE | ⟨e0, h0, c, hc, hidx⟩
  · have hE2 : n.toList.isEmpty = true := by rw [hE]; rfl
    by_cases q0 : pe d 12 = 0
    rotate_left
    · have y0 : (pe d 12 != 0) = true := by simp [q0]
      clear hb q0
      go_enter Tryd.func18, Tryd.ntmps18
      go_wp2_with (first | (go_at_call 31; refine (HD.out _ _ _ (by assumption) hB hR).mono ?_; clear hB hR x0 x1 x2 x3 x4 x5; rintro e w1 ⟨rfl, hB, hR⟩; obtain ⟨x0, x1, x2, x3, x4, x5⟩ := hR.cells) | (go_at_call 32; refine (HO.out _ _ _ (by assumption) hB hR).mono ?_; clear hB hR x0 x1 x2 x3 x4 x5; rintro e w1 ⟨rfl, hB, hR⟩; obtain ⟨x0, x1, x2, x3, x4, x5⟩ := hR.cells))
      go_ret2
      exact ⟨rfl, hB⟩
    have y0 : (pe d 12 != 0) = false := by simp [q0]
    by_cases q1 : pe u 6 = 0
    rotate_left
    · have y1 : (pe u 6 != 0) = true := by simp [q1]
      clear hb q0 q1
      go_enter Tryd.func18, Tryd.ntmps18
      go_wp2_with (first | (go_at_call 31; refine (HD.out _ _ _ (by assumption) hB hR).mono ?_; clear hB hR x0 x1 x2 x3 x4 x5; rintro e w1 ⟨rfl, hB, hR⟩; obtain ⟨x0, x1, x2, x3, x4, x5⟩ := hR.cells) | (go_at_call 32; refine (HO.out _ _ _ (by assumption) hB hR).mono ?_; clear hB hR x0 x1 x2 x3 x4 x5; rintro e w1 ⟨rfl, hB, hR⟩; obtain ⟨x0, x1, x2, x3, x4, x5⟩ := hR.cells))
      go_ret2
      exact ⟨rfl, hB⟩
    have y1 : (pe u 6 != 0) = false := by simp [q1]
    by_cases q2 : pe g 6 = 0
    rotate_left
    · have y2 : (pe g 6 != 0) = true := by simp [q2]
      clear hb q0 q1 q2
      go_enter Tryd.func18, Tryd.ntmps18
      go_wp2_with (first | (go_at_call 31; refine (HD.out _ _ _ (by assumption) hB hR).mono ?_; clear hB hR x0 x1 x2 x3 x4 x5; rintro e w1 ⟨rfl, hB, hR⟩; obtain ⟨x0, x1, x2, x3, x4, x5⟩ := hR.cells) | (go_at_call 32; refine (HO.out _ _ _ (by assumption) hB hR).mono ?_; clear hB hR x0 x1 x2 x3 x4 x5; rintro e w1 ⟨rfl, hB, hR⟩; obtain ⟨x0, x1, x2, x3, x4, x5⟩ := hR.cells))
      go_ret2
      exact ⟨rfl, hB⟩
    have y2 : (pe g 6 != 0) = false := by simp [q2]
    by_cases q3 : oe m 8 = 0
    rotate_left
    · have y3 : (oe m 8 != 0) = true := by simp [q3]
      clear hb q0 q1 q2 q3
      go_enter Tryd.func18, Tryd.ntmps18
      go_wp2_with (first | (go_at_call 31; refine (HD.out _ _ _ (by assumption) hB hR).mono ?_; clear hB hR x0 x1 x2 x3 x4 x5; rintro e w1 ⟨rfl, hB, hR⟩; obtain ⟨x0, x1, x2, x3, x4, x5⟩ := hR.cells) | (go_at_call 32; refine (HO.out _ _ _ (by assumption) hB hR).mono ?_; clear hB hR x0 x1 x2 x3 x4 x5; rintro e w1 ⟨rfl, hB, hR⟩; obtain ⟨x0, x1, x2, x3, x4, x5⟩ := hR.cells))
      go_ret2
      exact ⟨rfl, hB⟩
    have y3 : (oe m 8 != 0) = false := by simp [q3]
    by_cases q4 : pe s 10 = 0
    rotate_left
    · have y4 : (pe s 10 != 0) = true := by simp [q4]
      clear hb q0 q1 q2 q3 q4
      go_enter Tryd.func18, Tryd.ntmps18
      go_wp2_with (first | (go_at_call 31; refine (HD.out _ _ _ (by assumption) hB hR).mono ?_; clear hB hR x0 x1 x2 x3 x4 x5; rintro e w1 ⟨rfl, hB, hR⟩; obtain ⟨x0, x1, x2, x3, x4, x5⟩ := hR.cells) | (go_at_call 32; refine (HO.out _ _ _ (by assumption) hB hR).mono ?_; clear hB hR x0 x1 x2 x3 x4 x5; rintro e w1 ⟨rfl, hB, hR⟩; obtain ⟨x0, x1, x2, x3, x4, x5⟩ := hR.cells))
      go_ret2
      exact ⟨rfl, hB⟩
    have y4 : (pe s 10 != 0) = false := by simp [q4]
    exact absurd ⟨q0, q1, q2, q3, q4⟩ hb
  · have e1 : (n.toList != []) = true := by simp only [bne, e0, Bool.not_false]
    by_cases q0 : pe d 12 = 0
    rotate_left
    · have y0 : (pe d 12 != 0) = true := by simp [q0]
      clear hb q0
      go_enter Tryd.func18, Tryd.ntmps18
      go_wp2_with (first | (go_at_call 31; refine (HD.out _ _ _ (by assumption) hB hR).mono ?_; clear hB hR x0 x1 x2 x3 x4 x5; rintro e w1 ⟨rfl, hB, hR⟩; obtain ⟨x0, x1, x2, x3, x4, x5⟩ := hR.cells) | (go_at_call 32; refine (HO.out _ _ _ (by assumption) hB hR).mono ?_; clear hB hR x0 x1 x2 x3 x4 x5; rintro e w1 ⟨rfl, hB, hR⟩; obtain ⟨x0, x1, x2, x3, x4, x5⟩ := hR.cells))
      go_ret2
      exact ⟨rfl, hB⟩
    have y0 : (pe d 12 != 0) = false := by simp [q0]
    by_cases q1 : pe u 6 = 0
    rotate_left
    · have y1 : (pe u 6 != 0) = true := by simp [q1]
      clear hb q0 q1
      go_enter Tryd.func18, Tryd.ntmps18
      go_wp2_with (first | (go_at_call 31; refine (HD.out _ _ _ (by assumption) hB hR).mono ?_; clear hB hR x0 x1 x2 x3 x4 x5; rintro e w1 ⟨rfl, hB, hR⟩; obtain ⟨x0, x1, x2, x3, x4, x5⟩ := hR.cells) | (go_at_call 32; refine (HO.out _ _ _ (by assumption) hB hR).mono ?_; clear hB hR x0 x1 x2 x3 x4 x5; rintro e w1 ⟨rfl, hB, hR⟩; obtain ⟨x0, x1, x2, x3, x4, x5⟩ := hR.cells))
      go_ret2
      exact ⟨rfl, hB⟩
    have y1 : (pe u 6 != 0) = false := by simp [q1]
    by_cases q2 : pe g 6 = 0
    rotate_left
    · have y2 : (pe g 6 != 0) = true := by simp [q2]
      clear hb q0 q1 q2
      go_enter Tryd.func18, Tryd.ntmps18
      go_wp2_with (first | (go_at_call 31; refine (HD.out _ _ _ (by assumption) hB hR).mono ?_; clear hB hR x0 x1 x2 x3 x4 x5; rintro e w1 ⟨rfl, hB, hR⟩; obtain ⟨x0, x1, x2, x3, x4, x5⟩ := hR.cells) | (go_at_call 32; refine (HO.out _ _ _ (by assumption) hB hR).mono ?_; clear hB hR x0 x1 x2 x3 x4 x5; rintro e w1 ⟨rfl, hB, hR⟩; obtain ⟨x0, x1, x2, x3, x4, x5⟩ := hR.cells))
      go_ret2
      exact ⟨rfl, hB⟩
    have y2 : (pe g 6 != 0) = false := by simp [q2]
    by_cases q3 : oe m 8 = 0
    rotate_left
    · have y3 : (oe m 8 != 0) = true := by simp [q3]
      clear hb q0 q1 q2 q3
      go_enter Tryd.func18, Tryd.ntmps18
      go_wp2_with (first | (go_at_call 31; refine (HD.out _ _ _ (by assumption) hB hR).mono ?_; clear hB hR x0 x1 x2 x3 x4 x5; rintro e w1 ⟨rfl, hB, hR⟩; obtain ⟨x0, x1, x2, x3, x4, x5⟩ := hR.cells) | (go_at_call 32; refine (HO.out _ _ _ (by assumption) hB hR).mono ?_; clear hB hR x0 x1 x2 x3 x4 x5; rintro e w1 ⟨rfl, hB, hR⟩; obtain ⟨x0, x1, x2, x3, x4, x5⟩ := hR.cells))
      go_ret2
      exact ⟨rfl, hB⟩
    have y3 : (oe m 8 != 0) = false := by simp [q3]
    by_cases q4 : pe s 10 = 0
    rotate_left
    · have y4 : (pe s 10 != 0) = true := by simp [q4]
      clear hb q0 q1 q2 q3 q4
      go_enter Tryd.func18, Tryd.ntmps18
      go_wp2_with (first | (go_at_call 31; refine (HD.out _ _ _ (by assumption) hB hR).mono ?_; clear hB hR x0 x1 x2 x3 x4 x5; rintro e w1 ⟨rfl, hB, hR⟩; obtain ⟨x0, x1, x2, x3, x4, x5⟩ := hR.cells) | (go_at_call 32; refine (HO.out _ _ _ (by assumption) hB hR).mono ?_; clear hB hR x0 x1 x2 x3 x4 x5; rintro e w1 ⟨rfl, hB, hR⟩; obtain ⟨x0, x1, x2, x3, x4, x5⟩ := hR.cells))
      go_ret2
      exact ⟨rfl, hB⟩
    have y4 : (pe s 10 != 0) = false := by simp [q4]
    exact absurd ⟨q0, q1, q2, q3, q4⟩ hb
set_option maxHeartbeats 2000000 in
theorem rformat_ok (d u g m s : Int) (n : ByteArray) (w : World) (hm : n.size ≤ maxLen) (hl : n.size ≤ 16) (hname : n.toList = [] ∨ ((n.toList == []) = false ∧ 0 < n.size ∧ ∃ c : Int, (c == 32) = false ∧ ∀ w, (Instr.index 9 (.string n) (.int .i64 ((n.size : Int) - 1))).run Tryd.prog w = .ok (.int .u8 c) w)) (pt : Int → Int → ByteArray) (pe : Int → Int → Int) (ot : Int → Int → ByteArray) (oe : Int → Int → Int)
    (HD : Hid (∀ (v k : Int) (wx : World), v ≤ 9223372036854775807 → Below w.heap.size w wx → RowB w.heap.size d u g m s n wx → Calls Tryd.prog 31 #[.int .i64 v, .int .i64 k] wx fun e w' => e = .returned (.tuple #[.string (pt v k), .int .i64 (pe v k)]) ∧ Below w.heap.size w w' ∧ RowB w.heap.size d u g m s n w'))
    (i1 : d ≤ 9223372036854775807) (i2 : u ≤ 9223372036854775807) (i3 : g ≤ 9223372036854775807) (i4 : m ≤ 9223372036854775807) (i5 : s ≤ 9223372036854775807)
    (HO : Hid (∀ (v k : Int) (wx : World), v ≤ 9223372036854775807 → Below w.heap.size w wx → RowB w.heap.size d u g m s n wx → Calls Tryd.prog 32 #[.int .i64 v, .int .i64 k] wx fun e w' => e = .returned (.tuple #[.string (ot v k), .int .i64 (oe v k)]) ∧ Below w.heap.size w w' ∧ RowB w.heap.size d u g m s n w')) (y0 : (pe d 12 != 0) = false) (y1 : (pe u 6 != 0) = false) (y2 : (pe g 6 != 0) = false) (y3 : (oe m 8 != 0) = false) (y4 : (pe s 10 != 0) = false) (z0 : (pt d 12).size = 12) (z1 : (pt u 6).size = 6) (z2 : (pt g 6).size = 6) (z3 : (ot m 8).size = 8) (z4 : (pt s 10).size = 10) :
    Calls Tryd.prog 18 #[.agg #[.int .i64 d, .int .i64 u, .int .i64 g, .int .i64 m, .string n, .int .i64 s]] w fun e w' => e = .returned (.tuple #[.string (strL (nameF n.data.toList) ++ pt d 12 ++ pt u 6 ++ pt g 6 ++ ot m 8 ++ pt s 10 ++ ⟨#[96, 10]⟩), .int .i64 0]) ∧ Below w.heap.size w w' := by
  unfold maxLen at hm
  have b1 : decide ((16 : Int) < (n.size : Int)) = false := by simp; omega
  have hB : Below w.heap.size w (w.alloc (.cells #[.int .i64 d, .int .i64 u, .int .i64 g, .int .i64 m, .string n, .int .i64 s] 25)) := bup (Below.refl _ _) _
  have hR : RowB w.heap.size d u g m s n (w.alloc (.cells #[.int .i64 d, .int .i64 u, .int .i64 g, .int .i64 m, .string n, .int .i64 s] 25)) := ⟨heap_alloc_new w _⟩
  obtain ⟨x0, x1, x2, x3, x4, x5⟩ := hR.cells
  have hn16 : (strL (nameF n.data.toList)).size = 16 := by rw [strL_size]; exact nameF_len _ (by simpa using hl)
  have HF : Hid (∀ k, n.size + k = 16 → strL (n.data.toList ++ List.replicate k 32) = strL (nameF n.data.toList)) := fun k hk => by
    have hl2 : n.data.toList.length = n.size := by simp
    unfold nameF; rw [hl2, show 16 - n.size = k from by omega]
  rcases hname with hE | ⟨e0, h0, c, hc, hidx⟩
  · have hE2 : n.toList.isEmpty = true := by rw [hE]; rfl
    go_enter Tryd.func18, Tryd.ntmps18
    go_wp2_with (first | (go_at_call 31; refine (HD.out _ _ _ (by assumption) hB hR).mono ?_; clear hB hR x0 x1 x2 x3 x4 x5; rintro e w1 ⟨rfl, hB, hR⟩; obtain ⟨x0, x1, x2, x3, x4, x5⟩ := hR.cells) | (go_at_call 32; refine (HO.out _ _ _ (by assumption) hB hR).mono ?_; clear hB hR x0 x1 x2 x3 x4 x5; rintro e w1 ⟨rfl, hB, hR⟩; obtain ⟨x0, x1, x2, x3, x4, x5⟩ := hR.cells))
    clear x0 x1 x2 x3 x4 x5 hR
    go_loopw [14] (fun t wx => ∃ k : Nat, n.size + k ≤ 16 ∧ t = .string (strL (n.data.toList ++ List.replicate k 32)) ∧ wx = w1) (fun t _ => 17 - (strOfV t).size)
    case atStart => exact ⟨0, by omega, by rw [List.replicate_zero, List.append_nil, strL_of], rfl⟩
    case round =>
      obtain ⟨k, hk, rfl, rfl⟩ := hrel
      have hs2 : (strL (n.data.toList ++ List.replicate k 32)).size = n.size + k := by rw [strL_size, List.length_append, List.length_replicate]; simp
      by_cases hlt : n.size + k < 16
      · go_wp2
        go_roundw
        case rel => exact ⟨k + 1, by omega, str_eq_of (blank_next _ k), by first | rfl | trivial⟩
        case measure =>
          have e := congrArg ByteArray.size (blank_next n.data.toList k)
          rw [strL_size, List.length_append, List.length_replicate] at e
          show 17 - (strL (n.data.toList ++ List.replicate k 32) ++ ({ data := #[32] } : ByteArray)).size < 17 - (strL (n.data.toList ++ List.replicate k 32)).size
          rw [e, hs2]
          have hl2 : n.data.toList.length = n.size := by simp
          rw [hl2]; omega
      · have hk16 : n.size + k = 16 := by omega
        have hF := HF.out k hk16
        obtain ⟨A, hA⟩ : ∃ A, A = strL (nameF n.data.toList) := ⟨_, rfl⟩
        rw [hF, ← hA]
        rw [← hA] at hn16
        have HA : Hid (A = strL (nameF n.data.toList)) := hA
        clear hF hs2 HF hA
        have c1 : (A ++ pt d 12).size = 28 := by rw [ByteArray.size_append, hn16, z0]
        have c2 : (A ++ pt d 12 ++ pt u 6).size = 34 := by rw [ByteArray.size_append, c1, z1]
        have c3 : (A ++ pt d 12 ++ pt u 6 ++ pt g 6).size = 40 := by rw [ByteArray.size_append, c2, z2]
        have c4 : (A ++ pt d 12 ++ pt u 6 ++ pt g 6 ++ ot m 8).size = 48 := by rw [ByteArray.size_append, c3, z3]
        have c5 : (A ++ pt d 12 ++ pt u 6 ++ pt g 6 ++ ot m 8 ++ pt s 10).size = 58 := by rw [ByteArray.size_append, c4, z4]
        go_wp2
        go_ret2
        exact ⟨by rw [← HA.out]; rfl, hB⟩
  · have e1 : (n.toList != []) = true := by simp only [bne, e0, Bool.not_false]
    go_enter Tryd.func18, Tryd.ntmps18
    go_wp2_with (first | (go_at_call 31; refine (HD.out _ _ _ (by assumption) hB hR).mono ?_; clear hB hR x0 x1 x2 x3 x4 x5; rintro e w1 ⟨rfl, hB, hR⟩; obtain ⟨x0, x1, x2, x3, x4, x5⟩ := hR.cells) | (go_at_call 32; refine (HO.out _ _ _ (by assumption) hB hR).mono ?_; clear hB hR x0 x1 x2 x3 x4 x5; rintro e w1 ⟨rfl, hB, hR⟩; obtain ⟨x0, x1, x2, x3, x4, x5⟩ := hR.cells))
    clear x0 x1 x2 x3 x4 x5 hR
    go_loopw [14] (fun t wx => ∃ k : Nat, n.size + k ≤ 16 ∧ t = .string (strL (n.data.toList ++ List.replicate k 32)) ∧ wx = w1) (fun t _ => 17 - (strOfV t).size)
    case atStart => exact ⟨0, by omega, by rw [List.replicate_zero, List.append_nil, strL_of], rfl⟩
    case round =>
      obtain ⟨k, hk, rfl, rfl⟩ := hrel
      have hs2 : (strL (n.data.toList ++ List.replicate k 32)).size = n.size + k := by rw [strL_size, List.length_append, List.length_replicate]; simp
      by_cases hlt : n.size + k < 16
      · go_wp2
        go_roundw
        case rel => exact ⟨k + 1, by omega, str_eq_of (blank_next _ k), by first | rfl | trivial⟩
        case measure =>
          have e := congrArg ByteArray.size (blank_next n.data.toList k)
          rw [strL_size, List.length_append, List.length_replicate] at e
          show 17 - (strL (n.data.toList ++ List.replicate k 32) ++ ({ data := #[32] } : ByteArray)).size < 17 - (strL (n.data.toList ++ List.replicate k 32)).size
          rw [e, hs2]
          have hl2 : n.data.toList.length = n.size := by simp
          rw [hl2]; omega
      · have hk16 : n.size + k = 16 := by omega
        have hF := HF.out k hk16
        obtain ⟨A, hA⟩ : ∃ A, A = strL (nameF n.data.toList) := ⟨_, rfl⟩
        rw [hF, ← hA]
        rw [← hA] at hn16
        have HA : Hid (A = strL (nameF n.data.toList)) := hA
        clear hF hs2 HF hA
        have c1 : (A ++ pt d 12).size = 28 := by rw [ByteArray.size_append, hn16, z0]
        have c2 : (A ++ pt d 12 ++ pt u 6).size = 34 := by rw [ByteArray.size_append, c1, z1]
        have c3 : (A ++ pt d 12 ++ pt u 6 ++ pt g 6).size = 40 := by rw [ByteArray.size_append, c2, z2]
        have c4 : (A ++ pt d 12 ++ pt u 6 ++ pt g 6 ++ ot m 8).size = 48 := by rw [ByteArray.size_append, c3, z3]
        have c5 : (A ++ pt d 12 ++ pt u 6 ++ pt g 6 ++ ot m 8 ++ pt s 10).size = 58 := by rw [ByteArray.size_append, c4, z4]
        go_wp2
        go_ret2
        exact ⟨by rw [← HA.out]; rfl, hB⟩
end Go.Proofs.YtbkfkanknfdelaaDoor
