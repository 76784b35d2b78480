
-- shelfref8.Read: a contract.
import Derived.Test.YtmppfpkcnhcfbaaB2
import Derived.Test.YtmppfpkcnhcfbaaB3
import Derived.Test.YtmppfpkcnhcfbaaFV
namespace Go.Proofs.Ytmppfpkcnhcfbaa
open Go.ChangeShapes Go.WideShapes Go.ChangeAt Go.RowKit
set_option linter.unusedVariables false
set_option maxRecDepth 100000

def rdOut (n1 a2 a3 b2 k1 n3 c2 k3 v : Bool) (P s : ByteArray) (v1 v3 : Int) : Fl × Int :=
  if n1 && (a2 && a3) then (⟨4, 0, P⟩, 0) else if n1 && (b2 && k1) then (⟨5, v1, ⟨#[]⟩⟩, 0) else if n3 && (c2 && k3) then (⟨7, v3, ⟨#[]⟩⟩, 0) else if v then (⟨6, 0, s⟩, 0) else (⟨0, 0, ⟨#[]⟩⟩, 80)
set_option maxHeartbeats 1000000 in
theorem read_long (s : ByteArray) (w : World) (hm : s.size ≤ maxLen) (h : 16 < s.size) : Calls Try.prog 15 #[.string s] w fun e w' => e = .returned (.tuple #[flV fl0, .int .i64 80]) ∧ Below w.heap.size w w' := by
  unfold maxLen at hm
  have c16 : decide ((16 : Int) < (s.size : Int)) = true := by simp; omega
  go_enter Try.func15, Try.ntmps15
  go_wp2
  exact bodyPost_ret (results_cell_tmp_row rfl _ _ w.heap.size _ _ _ _ _ rfl rfl (heap_alloc_new _ _) Try.underlying34 rfl (by kernel_rfl)) rfl ⟨by first | rfl | (simp only [*]; rfl), bup (Below.refl _ _) _⟩
set_option maxHeartbeats 1000000 in
theorem read_47 (w : World) : Calls Try.prog 15 #[.string ⟨#[47]⟩] w fun e w' => e = .returned (.tuple #[flV ⟨1, 0, ⟨#[]⟩⟩, .int .i64 0]) ∧ Below w.heap.size w w' := by
  go_enter Try.func15, Try.ntmps15
  go_wp2
  exact bodyPost_ret (results_cell_tmp_row rfl _ _ w.heap.size _ _ _ _ _ rfl rfl (heap_alloc_new _ _) Try.underlying34 rfl (by kernel_rfl)) rfl ⟨by first | rfl | (simp only [*]; rfl), bup (Below.refl _ _) _⟩
set_option maxHeartbeats 1000000 in
theorem read_SYM64 (w : World) : Calls Try.prog 15 #[.string ⟨#[47, 83, 89, 77, 54, 52, 47]⟩] w fun e w' => e = .returned (.tuple #[flV ⟨2, 0, ⟨#[]⟩⟩, .int .i64 0]) ∧ Below w.heap.size w w' := by
  go_enter Try.func15, Try.ntmps15
  go_wp2
  exact bodyPost_ret (results_cell_tmp_row rfl _ _ w.heap.size _ _ _ _ _ rfl rfl (heap_alloc_new _ _) Try.underlying34 rfl (by kernel_rfl)) rfl ⟨by first | rfl | (simp only [*]; rfl), bup (Below.refl _ _) _⟩
set_option maxHeartbeats 1000000 in
theorem read_slashes (w : World) : Calls Try.prog 15 #[.string ⟨#[47, 47]⟩] w fun e w' => e = .returned (.tuple #[flV ⟨3, 0, ⟨#[]⟩⟩, .int .i64 0]) ∧ Below w.heap.size w w' := by
  go_enter Try.func15, Try.ntmps15
  go_wp2
  exact bodyPost_ret (results_cell_tmp_row rfl _ _ w.heap.size _ _ _ _ _ rfl rfl (heap_alloc_new _ _) Try.underlying34 rfl (by kernel_rfl)) rfl ⟨by first | rfl | (simp only [*]; rfl), bup (Below.refl _ _) _⟩
set_option maxHeartbeats 1000000 in
theorem read_SYMDEF (w : World) : Calls Try.prog 15 #[.string ⟨#[95, 95, 46, 83, 89, 77, 68, 69, 70]⟩] w fun e w' => e = .returned (.tuple #[flV ⟨8, 0, ⟨#[]⟩⟩, .int .i64 0]) ∧ Below w.heap.size w w' := by
  go_enter Try.func15, Try.ntmps15
  go_wp2
  exact bodyPost_ret (results_cell_tmp_row rfl _ _ w.heap.size _ _ _ _ _ rfl rfl (heap_alloc_new _ _) Try.underlying34 rfl (by kernel_rfl)) rfl ⟨by first | rfl | (simp only [*]; rfl), bup (Below.refl _ _) _⟩
set_option maxHeartbeats 1000000 in
theorem read_few (s : ByteArray) (w : World) (hm : s.size ≤ maxLen) (c16 : decide ((16 : Int) < (s.size : Int)) = false) (e1 : (s.toList == [47]) = false) (e2 : (s.toList == [47, 83, 89, 77, 54, 52, 47]) = false) (e3 : (s.toList == [47, 47]) = false) (e4 : (s.toList == [95, 95, 46, 83, 89, 77, 68, 69, 70]) = false)
    (vf : ByteArray → Bool) (HV : Hid (∀ (g : ByteArray) (w : World), g.size ≤ 16 → Calls Try.prog 10 #[.string g] w fun e w' => e = .returned (.bool (vf g)) ∧ w' = w)) (zs : s.size ≤ 16) (n1 : decide ((1 : Int) < (s.size : Int)) = false) (n3 : decide ((3 : Int) < (s.size : Int)) = false) : Calls Try.prog 15 #[.string s] w fun e w' => e = .returned (.tuple #[flV (rdOut false false false false false false false false (vf s) s s 0 0).1, .int .i64 (rdOut false false false false false false false false (vf s) s s 0 0).2]) ∧ Below w.heap.size w w' := by
  unfold maxLen at hm
  have g1 : ¬ s.toList = [47] := by simpa using e1
  have g2 : ¬ s.toList = [47, 83, 89, 77, 54, 52, 47] := by simpa using e2
  have g3 : ¬ s.toList = [47, 47] := by simpa using e3
  have g4 : ¬ s.toList = [95, 95, 46, 83, 89, 77, 68, 69, 70] := by simpa using e4
  cases ev : vf s
  ·
    go_enter Try.func15, Try.ntmps15
    go_wp2_with (first | (go_at_call 10; refine (HV.out _ _ (by assumption)).mono ?_; rintro e w1 ⟨rfl, hw1⟩; subst w1))
    exact bodyPost_ret (results_cell_tmp_row rfl _ _ w.heap.size _ _ _ _ _ rfl rfl (heap_alloc_new _ _) Try.underlying34 rfl (by kernel_rfl)) rfl ⟨by first | rfl | (simp only [*]; rfl), bup (Below.refl _ _) _⟩
  ·
    go_enter Try.func15, Try.ntmps15
    go_wp2_with (first | (go_at_call 10; refine (HV.out _ _ (by assumption)).mono ?_; rintro e w1 ⟨rfl, hw1⟩; subst w1))
    exact bodyPost_ret (results_cell_tmp_row rfl _ _ w.heap.size _ _ _ _ _ rfl rfl (heap_alloc_new _ _) Try.underlying34 rfl (by kernel_rfl)) rfl ⟨by first | rfl | (simp only [*]; rfl), bup (Below.refl _ _) _⟩
set_option maxHeartbeats 4000000 in
theorem read_two (s : ByteArray) (w : World) (hm : s.size ≤ maxLen) (c16 : decide ((16 : Int) < (s.size : Int)) = false) (e1 : (s.toList == [47]) = false) (e2 : (s.toList == [47, 83, 89, 77, 54, 52, 47]) = false) (e3 : (s.toList == [47, 47]) = false) (e4 : (s.toList == [95, 95, 46, 83, 89, 77, 68, 69, 70]) = false)
    (vf : ByteArray → Bool) (HV : Hid (∀ (g : ByteArray) (w : World), g.size ≤ 16 → Calls Try.prog 10 #[.string g] w fun e w' => e = .returned (.bool (vf g)) ∧ w' = w)) (zs : s.size ≤ 16)
    (P : ByteArray) (zP : P.size ≤ 16) (a2 : Bool) (x y : Int) (hx : ∀ w, (Instr.index 9 (.string s) (.int .i64 ((s.size : Int) - 1))).run Try.prog w = .ok (.int .u8 x) w) (hxa : (x == 47) = a2)
    (sP : ∀ w, (Instr.slice 9 (.string s) none (some (.int .i64 ((s.size : Int) - 1))) none).run Try.prog w = .ok (.string P) w)
    (b2 : Bool) (dn : ByteArray → Int → Int) (dk : ByteArray → Int → Bool) (D1 : ByteArray) (z1 : D1.size ≤ 16) (hy : ∀ w, (Instr.index 9 (.string s) (.int .i64 0)).run Try.prog w = .ok (.int .u8 y) w) (hyb : (y == 47) = b2)
    (sD : ∀ w, (Instr.slice 9 (.string s) (some (.int .i64 1)) none none).run Try.prog w = .ok (.string D1) w) (HD1 : Hid (∀ (g : ByteArray) (k : Int) (w : World), g.size ≤ 16 → k = 15 ∨ k = 13 → Calls Try.prog 20 #[.string g, .int .i64 k] w fun e w' => e = .returned (.tuple #[.int .i64 (dn g k), .bool (dk g k)]) ∧ w' = w)) (n1 : decide ((1 : Int) < (s.size : Int)) = true) (n3 : decide ((3 : Int) < (s.size : Int)) = false) : Calls Try.prog 15 #[.string s] w fun e w' => e = .returned (.tuple #[flV (rdOut true a2 (vf P) b2 (dk D1 15) false false false (vf s) P s (dn D1 15) 0).1, .int .i64 (rdOut true a2 (vf P) b2 (dk D1 15) false false false (vf s) P s (dn D1 15) 0).2]) ∧ Below w.heap.size w w' := by
  unfold maxLen at hm
  have h1 : (1 : Int) < (s.size : Int) := of_decide_eq_true n1
  have g1 : ¬ s.toList = [47] := by simpa using e1
  have g2 : ¬ s.toList = [47, 83, 89, 77, 54, 52, 47] := by simpa using e2
  have g3 : ¬ s.toList = [47, 47] := by simpa using e3
  have g4 : ¬ s.toList = [95, 95, 46, 83, 89, 77, 68, 69, 70] := by simpa using e4
  cases a2
  ·
    cases b2
    ·
      cases ev : vf s
      ·
        go_enter Try.func15, Try.ntmps15
        go_wp2_with (first | (go_at_call 10; refine (HV.out _ _ (by assumption)).mono ?_; rintro e w1 ⟨rfl, hw1⟩; subst w1) | (go_at_call 20; refine (HD1.out _ _ _ (by assumption) (by decide)).mono ?_; rintro e w1 ⟨rfl, hw1⟩; subst w1))
        exact bodyPost_ret (results_cell_tmp_row rfl _ _ w.heap.size _ _ _ _ _ rfl rfl (heap_alloc_new _ _) Try.underlying34 rfl (by kernel_rfl)) rfl ⟨by first | rfl | (simp only [*]; rfl), bup (Below.refl _ _) _⟩
      ·
        go_enter Try.func15, Try.ntmps15
        go_wp2_with (first | (go_at_call 10; refine (HV.out _ _ (by assumption)).mono ?_; rintro e w1 ⟨rfl, hw1⟩; subst w1) | (go_at_call 20; refine (HD1.out _ _ _ (by assumption) (by decide)).mono ?_; rintro e w1 ⟨rfl, hw1⟩; subst w1))
        exact bodyPost_ret (results_cell_tmp_row rfl _ _ w.heap.size _ _ _ _ _ rfl rfl (heap_alloc_new _ _) Try.underlying34 rfl (by kernel_rfl)) rfl ⟨by first | rfl | (simp only [*]; rfl), bup (Below.refl _ _) _⟩
    ·
      cases ek : dk D1 15
      ·
        cases ev : vf s
        ·
          go_enter Try.func15, Try.ntmps15
          go_wp2_with (first | (go_at_call 10; refine (HV.out _ _ (by assumption)).mono ?_; rintro e w1 ⟨rfl, hw1⟩; subst w1) | (go_at_call 20; refine (HD1.out _ _ _ (by assumption) (by decide)).mono ?_; rintro e w1 ⟨rfl, hw1⟩; subst w1))
          exact bodyPost_ret (results_cell_tmp_row rfl _ _ w.heap.size _ _ _ _ _ rfl rfl (heap_alloc_new _ _) Try.underlying34 rfl (by kernel_rfl)) rfl ⟨by first | rfl | (simp only [*]; rfl), bup (Below.refl _ _) _⟩
        ·
          go_enter Try.func15, Try.ntmps15
          go_wp2_with (first | (go_at_call 10; refine (HV.out _ _ (by assumption)).mono ?_; rintro e w1 ⟨rfl, hw1⟩; subst w1) | (go_at_call 20; refine (HD1.out _ _ _ (by assumption) (by decide)).mono ?_; rintro e w1 ⟨rfl, hw1⟩; subst w1))
          exact bodyPost_ret (results_cell_tmp_row rfl _ _ w.heap.size _ _ _ _ _ rfl rfl (heap_alloc_new _ _) Try.underlying34 rfl (by kernel_rfl)) rfl ⟨by first | rfl | (simp only [*]; rfl), bup (Below.refl _ _) _⟩
      ·
        go_enter Try.func15, Try.ntmps15
        go_wp2_with (first | (go_at_call 10; refine (HV.out _ _ (by assumption)).mono ?_; rintro e w1 ⟨rfl, hw1⟩; subst w1) | (go_at_call 20; refine (HD1.out _ _ _ (by assumption) (by decide)).mono ?_; rintro e w1 ⟨rfl, hw1⟩; subst w1))
        exact bodyPost_ret (results_cell_tmp_row rfl _ _ w.heap.size _ _ _ _ _ rfl rfl (heap_alloc_new _ _) Try.underlying34 rfl (by kernel_rfl)) rfl ⟨by first | rfl | (simp only [*]; rfl), bup (Below.refl _ _) _⟩
  ·
    cases ea : vf P
    ·
      cases b2
      ·
        cases ev : vf s
        ·
          go_enter Try.func15, Try.ntmps15
          go_wp2_with (first | (go_at_call 10; refine (HV.out _ _ (by assumption)).mono ?_; rintro e w1 ⟨rfl, hw1⟩; subst w1) | (go_at_call 20; refine (HD1.out _ _ _ (by assumption) (by decide)).mono ?_; rintro e w1 ⟨rfl, hw1⟩; subst w1))
          exact bodyPost_ret (results_cell_tmp_row rfl _ _ w.heap.size _ _ _ _ _ rfl rfl (heap_alloc_new _ _) Try.underlying34 rfl (by kernel_rfl)) rfl ⟨by first | rfl | (simp only [*]; rfl), bup (Below.refl _ _) _⟩
        ·
          go_enter Try.func15, Try.ntmps15
          go_wp2_with (first | (go_at_call 10; refine (HV.out _ _ (by assumption)).mono ?_; rintro e w1 ⟨rfl, hw1⟩; subst w1) | (go_at_call 20; refine (HD1.out _ _ _ (by assumption) (by decide)).mono ?_; rintro e w1 ⟨rfl, hw1⟩; subst w1))
          exact bodyPost_ret (results_cell_tmp_row rfl _ _ w.heap.size _ _ _ _ _ rfl rfl (heap_alloc_new _ _) Try.underlying34 rfl (by kernel_rfl)) rfl ⟨by first | rfl | (simp only [*]; rfl), bup (Below.refl _ _) _⟩
      ·
        cases ek : dk D1 15
        ·
          cases ev : vf s
          ·
            go_enter Try.func15, Try.ntmps15
            go_wp2_with (first | (go_at_call 10; refine (HV.out _ _ (by assumption)).mono ?_; rintro e w1 ⟨rfl, hw1⟩; subst w1) | (go_at_call 20; refine (HD1.out _ _ _ (by assumption) (by decide)).mono ?_; rintro e w1 ⟨rfl, hw1⟩; subst w1))
            exact bodyPost_ret (results_cell_tmp_row rfl _ _ w.heap.size _ _ _ _ _ rfl rfl (heap_alloc_new _ _) Try.underlying34 rfl (by kernel_rfl)) rfl ⟨by first | rfl | (simp only [*]; rfl), bup (Below.refl _ _) _⟩
          ·
            go_enter Try.func15, Try.ntmps15
            go_wp2_with (first | (go_at_call 10; refine (HV.out _ _ (by assumption)).mono ?_; rintro e w1 ⟨rfl, hw1⟩; subst w1) | (go_at_call 20; refine (HD1.out _ _ _ (by assumption) (by decide)).mono ?_; rintro e w1 ⟨rfl, hw1⟩; subst w1))
            exact bodyPost_ret (results_cell_tmp_row rfl _ _ w.heap.size _ _ _ _ _ rfl rfl (heap_alloc_new _ _) Try.underlying34 rfl (by kernel_rfl)) rfl ⟨by first | rfl | (simp only [*]; rfl), bup (Below.refl _ _) _⟩
        ·
          go_enter Try.func15, Try.ntmps15
          go_wp2_with (first | (go_at_call 10; refine (HV.out _ _ (by assumption)).mono ?_; rintro e w1 ⟨rfl, hw1⟩; subst w1) | (go_at_call 20; refine (HD1.out _ _ _ (by assumption) (by decide)).mono ?_; rintro e w1 ⟨rfl, hw1⟩; subst w1))
          exact bodyPost_ret (results_cell_tmp_row rfl _ _ w.heap.size _ _ _ _ _ rfl rfl (heap_alloc_new _ _) Try.underlying34 rfl (by kernel_rfl)) rfl ⟨by first | rfl | (simp only [*]; rfl), bup (Below.refl _ _) _⟩
    ·
      go_enter Try.func15, Try.ntmps15
      go_wp2_with (first | (go_at_call 10; refine (HV.out _ _ (by assumption)).mono ?_; rintro e w1 ⟨rfl, hw1⟩; subst w1) | (go_at_call 20; refine (HD1.out _ _ _ (by assumption) (by decide)).mono ?_; rintro e w1 ⟨rfl, hw1⟩; subst w1))
      exact bodyPost_ret (results_cell_tmp_row rfl _ _ w.heap.size _ _ _ _ _ rfl rfl (heap_alloc_new _ _) Try.underlying34 rfl (by kernel_rfl)) rfl ⟨by first | rfl | (simp only [*]; rfl), bup (Below.refl _ _) _⟩
set_option maxHeartbeats 8000000 in
theorem read_three (s : ByteArray) (w : World) (hm : s.size ≤ maxLen) (c16 : decide ((16 : Int) < (s.size : Int)) = false) (e1 : (s.toList == [47]) = false) (e2 : (s.toList == [47, 83, 89, 77, 54, 52, 47]) = false) (e3 : (s.toList == [47, 47]) = false) (e4 : (s.toList == [95, 95, 46, 83, 89, 77, 68, 69, 70]) = false)
    (vf : ByteArray → Bool) (HV : Hid (∀ (g : ByteArray) (w : World), g.size ≤ 16 → Calls Try.prog 10 #[.string g] w fun e w' => e = .returned (.bool (vf g)) ∧ w' = w)) (zs : s.size ≤ 16)
    (P : ByteArray) (zP : P.size ≤ 16) (a2 : Bool) (x y : Int) (hx : ∀ w, (Instr.index 9 (.string s) (.int .i64 ((s.size : Int) - 1))).run Try.prog w = .ok (.int .u8 x) w) (hxa : (x == 47) = a2)
    (sP : ∀ w, (Instr.slice 9 (.string s) none (some (.int .i64 ((s.size : Int) - 1))) none).run Try.prog w = .ok (.string P) w)
    (b2 : Bool) (dn : ByteArray → Int → Int) (dk : ByteArray → Int → Bool) (D1 : ByteArray) (z1 : D1.size ≤ 16) (hy : ∀ w, (Instr.index 9 (.string s) (.int .i64 0)).run Try.prog w = .ok (.int .u8 y) w) (hyb : (y == 47) = b2)
    (sD : ∀ w, (Instr.slice 9 (.string s) (some (.int .i64 1)) none none).run Try.prog w = .ok (.string D1) w) (HD1 : Hid (∀ (g : ByteArray) (k : Int) (w : World), g.size ≤ 16 → k = 15 ∨ k = 13 → Calls Try.prog 20 #[.string g, .int .i64 k] w fun e w' => e = .returned (.tuple #[.int .i64 (dn g k), .bool (dk g k)]) ∧ w' = w))
    (c2 : Bool) (T3 D3 : ByteArray) (z3 : D3.size ≤ 16) (sT : ∀ w, (Instr.slice 9 (.string s) none (some (.int .i64 3)) none).run Try.prog w = .ok (.string T3) w) (hT : (T3.toList == [35, 49, 47]) = c2)
    (sE : ∀ w, (Instr.slice 9 (.string s) (some (.int .i64 3)) none none).run Try.prog w = .ok (.string D3) w) (n1 : decide ((1 : Int) < (s.size : Int)) = true) (n3 : decide ((3 : Int) < (s.size : Int)) = true) : Calls Try.prog 15 #[.string s] w fun e w' => e = .returned (.tuple #[flV (rdOut true a2 (vf P) b2 (dk D1 15) true c2 (dk D3 13) (vf s) P s (dn D1 15) (dn D3 13)).1, .int .i64 (rdOut true a2 (vf P) b2 (dk D1 15) true c2 (dk D3 13) (vf s) P s (dn D1 15) (dn D3 13)).2]) ∧ Below w.heap.size w w' := by
  unfold maxLen at hm
  have h3 : (3 : Int) < (s.size : Int) := of_decide_eq_true n3
  have g1 : ¬ s.toList = [47] := by simpa using e1
  have g2 : ¬ s.toList = [47, 83, 89, 77, 54, 52, 47] := by simpa using e2
  have g3 : ¬ s.toList = [47, 47] := by simpa using e3
  have g4 : ¬ s.toList = [95, 95, 46, 83, 89, 77, 68, 69, 70] := by simpa using e4
  cases a2
  ·
    cases b2
    ·
      cases c2
      ·
        cases ev : vf s
        ·
          go_enter Try.func15, Try.ntmps15
          go_wp2_with (first | (go_at_call 10; refine (HV.out _ _ (by assumption)).mono ?_; rintro e w1 ⟨rfl, hw1⟩; subst w1) | (go_at_call 20; refine (HD1.out _ _ _ (by assumption) (by decide)).mono ?_; rintro e w1 ⟨rfl, hw1⟩; subst w1))
          exact bodyPost_ret (results_cell_tmp_row rfl _ _ w.heap.size _ _ _ _ _ rfl rfl (heap_alloc_new _ _) Try.underlying34 rfl (by kernel_rfl)) rfl ⟨by first | rfl | (simp only [*]; rfl), bup (Below.refl _ _) _⟩
        ·
          go_enter Try.func15, Try.ntmps15
          go_wp2_with (first | (go_at_call 10; refine (HV.out _ _ (by assumption)).mono ?_; rintro e w1 ⟨rfl, hw1⟩; subst w1) | (go_at_call 20; refine (HD1.out _ _ _ (by assumption) (by decide)).mono ?_; rintro e w1 ⟨rfl, hw1⟩; subst w1))
          exact bodyPost_ret (results_cell_tmp_row rfl _ _ w.heap.size _ _ _ _ _ rfl rfl (heap_alloc_new _ _) Try.underlying34 rfl (by kernel_rfl)) rfl ⟨by first | rfl | (simp only [*]; rfl), bup (Below.refl _ _) _⟩
      ·
        cases el : dk D3 13
        ·
          cases ev : vf s
          ·
            go_enter Try.func15, Try.ntmps15
            go_wp2_with (first | (go_at_call 10; refine (HV.out _ _ (by assumption)).mono ?_; rintro e w1 ⟨rfl, hw1⟩; subst w1) | (go_at_call 20; refine (HD1.out _ _ _ (by assumption) (by decide)).mono ?_; rintro e w1 ⟨rfl, hw1⟩; subst w1))
            exact bodyPost_ret (results_cell_tmp_row rfl _ _ w.heap.size _ _ _ _ _ rfl rfl (heap_alloc_new _ _) Try.underlying34 rfl (by kernel_rfl)) rfl ⟨by first | rfl | (simp only [*]; rfl), bup (Below.refl _ _) _⟩
          ·
            go_enter Try.func15, Try.ntmps15
            go_wp2_with (first | (go_at_call 10; refine (HV.out _ _ (by assumption)).mono ?_; rintro e w1 ⟨rfl, hw1⟩; subst w1) | (go_at_call 20; refine (HD1.out _ _ _ (by assumption) (by decide)).mono ?_; rintro e w1 ⟨rfl, hw1⟩; subst w1))
            exact bodyPost_ret (results_cell_tmp_row rfl _ _ w.heap.size _ _ _ _ _ rfl rfl (heap_alloc_new _ _) Try.underlying34 rfl (by kernel_rfl)) rfl ⟨by first | rfl | (simp only [*]; rfl), bup (Below.refl _ _) _⟩
        ·
          go_enter Try.func15, Try.ntmps15
          go_wp2_with (first | (go_at_call 10; refine (HV.out _ _ (by assumption)).mono ?_; rintro e w1 ⟨rfl, hw1⟩; subst w1) | (go_at_call 20; refine (HD1.out _ _ _ (by assumption) (by decide)).mono ?_; rintro e w1 ⟨rfl, hw1⟩; subst w1))
          exact bodyPost_ret (results_cell_tmp_row rfl _ _ w.heap.size _ _ _ _ _ rfl rfl (heap_alloc_new _ _) Try.underlying34 rfl (by kernel_rfl)) rfl ⟨by first | rfl | (simp only [*]; rfl), bup (Below.refl _ _) _⟩
    ·
      cases ek : dk D1 15
      ·
        cases c2
        ·
          cases ev : vf s
          ·
            go_enter Try.func15, Try.ntmps15
            go_wp2_with (first | (go_at_call 10; refine (HV.out _ _ (by assumption)).mono ?_; rintro e w1 ⟨rfl, hw1⟩; subst w1) | (go_at_call 20; refine (HD1.out _ _ _ (by assumption) (by decide)).mono ?_; rintro e w1 ⟨rfl, hw1⟩; subst w1))
            exact bodyPost_ret (results_cell_tmp_row rfl _ _ w.heap.size _ _ _ _ _ rfl rfl (heap_alloc_new _ _) Try.underlying34 rfl (by kernel_rfl)) rfl ⟨by first | rfl | (simp only [*]; rfl), bup (Below.refl _ _) _⟩
          ·
            go_enter Try.func15, Try.ntmps15
            go_wp2_with (first | (go_at_call 10; refine (HV.out _ _ (by assumption)).mono ?_; rintro e w1 ⟨rfl, hw1⟩; subst w1) | (go_at_call 20; refine (HD1.out _ _ _ (by assumption) (by decide)).mono ?_; rintro e w1 ⟨rfl, hw1⟩; subst w1))
            exact bodyPost_ret (results_cell_tmp_row rfl _ _ w.heap.size _ _ _ _ _ rfl rfl (heap_alloc_new _ _) Try.underlying34 rfl (by kernel_rfl)) rfl ⟨by first | rfl | (simp only [*]; rfl), bup (Below.refl _ _) _⟩
        ·
          cases el : dk D3 13
          ·
            cases ev : vf s
            ·
              go_enter Try.func15, Try.ntmps15
              go_wp2_with (first | (go_at_call 10; refine (HV.out _ _ (by assumption)).mono ?_; rintro e w1 ⟨rfl, hw1⟩; subst w1) | (go_at_call 20; refine (HD1.out _ _ _ (by assumption) (by decide)).mono ?_; rintro e w1 ⟨rfl, hw1⟩; subst w1))
              exact bodyPost_ret (results_cell_tmp_row rfl _ _ w.heap.size _ _ _ _ _ rfl rfl (heap_alloc_new _ _) Try.underlying34 rfl (by kernel_rfl)) rfl ⟨by first | rfl | (simp only [*]; rfl), bup (Below.refl _ _) _⟩
            ·
              go_enter Try.func15, Try.ntmps15
              go_wp2_with (first | (go_at_call 10; refine (HV.out _ _ (by assumption)).mono ?_; rintro e w1 ⟨rfl, hw1⟩; subst w1) | (go_at_call 20; refine (HD1.out _ _ _ (by assumption) (by decide)).mono ?_; rintro e w1 ⟨rfl, hw1⟩; subst w1))
              exact bodyPost_ret (results_cell_tmp_row rfl _ _ w.heap.size _ _ _ _ _ rfl rfl (heap_alloc_new _ _) Try.underlying34 rfl (by kernel_rfl)) rfl ⟨by first | rfl | (simp only [*]; rfl), bup (Below.refl _ _) _⟩
          ·
            go_enter Try.func15, Try.ntmps15
            go_wp2_with (first | (go_at_call 10; refine (HV.out _ _ (by assumption)).mono ?_; rintro e w1 ⟨rfl, hw1⟩; subst w1) | (go_at_call 20; refine (HD1.out _ _ _ (by assumption) (by decide)).mono ?_; rintro e w1 ⟨rfl, hw1⟩; subst w1))
            exact bodyPost_ret (results_cell_tmp_row rfl _ _ w.heap.size _ _ _ _ _ rfl rfl (heap_alloc_new _ _) Try.underlying34 rfl (by kernel_rfl)) rfl ⟨by first | rfl | (simp only [*]; rfl), bup (Below.refl _ _) _⟩
      ·
        go_enter Try.func15, Try.ntmps15
        go_wp2_with (first | (go_at_call 10; refine (HV.out _ _ (by assumption)).mono ?_; rintro e w1 ⟨rfl, hw1⟩; subst w1) | (go_at_call 20; refine (HD1.out _ _ _ (by assumption) (by decide)).mono ?_; rintro e w1 ⟨rfl, hw1⟩; subst w1))
        exact bodyPost_ret (results_cell_tmp_row rfl _ _ w.heap.size _ _ _ _ _ rfl rfl (heap_alloc_new _ _) Try.underlying34 rfl (by kernel_rfl)) rfl ⟨by first | rfl | (simp only [*]; rfl), bup (Below.refl _ _) _⟩
  ·
    cases ea : vf P
    ·
      cases b2
      ·
        cases c2
        ·
          cases ev : vf s
          ·
            go_enter Try.func15, Try.ntmps15
            go_wp2_with (first | (go_at_call 10; refine (HV.out _ _ (by assumption)).mono ?_; rintro e w1 ⟨rfl, hw1⟩; subst w1) | (go_at_call 20; refine (HD1.out _ _ _ (by assumption) (by decide)).mono ?_; rintro e w1 ⟨rfl, hw1⟩; subst w1))
            exact bodyPost_ret (results_cell_tmp_row rfl _ _ w.heap.size _ _ _ _ _ rfl rfl (heap_alloc_new _ _) Try.underlying34 rfl (by kernel_rfl)) rfl ⟨by first | rfl | (simp only [*]; rfl), bup (Below.refl _ _) _⟩
          ·
            go_enter Try.func15, Try.ntmps15
            go_wp2_with (first | (go_at_call 10; refine (HV.out _ _ (by assumption)).mono ?_; rintro e w1 ⟨rfl, hw1⟩; subst w1) | (go_at_call 20; refine (HD1.out _ _ _ (by assumption) (by decide)).mono ?_; rintro e w1 ⟨rfl, hw1⟩; subst w1))
            exact bodyPost_ret (results_cell_tmp_row rfl _ _ w.heap.size _ _ _ _ _ rfl rfl (heap_alloc_new _ _) Try.underlying34 rfl (by kernel_rfl)) rfl ⟨by first | rfl | (simp only [*]; rfl), bup (Below.refl _ _) _⟩
        ·
          cases el : dk D3 13
          ·
            cases ev : vf s
            ·
              go_enter Try.func15, Try.ntmps15
              go_wp2_with (first | (go_at_call 10; refine (HV.out _ _ (by assumption)).mono ?_; rintro e w1 ⟨rfl, hw1⟩; subst w1) | (go_at_call 20; refine (HD1.out _ _ _ (by assumption) (by decide)).mono ?_; rintro e w1 ⟨rfl, hw1⟩; subst w1))
              exact bodyPost_ret (results_cell_tmp_row rfl _ _ w.heap.size _ _ _ _ _ rfl rfl (heap_alloc_new _ _) Try.underlying34 rfl (by kernel_rfl)) rfl ⟨by first | rfl | (simp only [*]; rfl), bup (Below.refl _ _) _⟩
            ·
              go_enter Try.func15, Try.ntmps15
              go_wp2_with (first | (go_at_call 10; refine (HV.out _ _ (by assumption)).mono ?_; rintro e w1 ⟨rfl, hw1⟩; subst w1) | (go_at_call 20; refine (HD1.out _ _ _ (by assumption) (by decide)).mono ?_; rintro e w1 ⟨rfl, hw1⟩; subst w1))
              exact bodyPost_ret (results_cell_tmp_row rfl _ _ w.heap.size _ _ _ _ _ rfl rfl (heap_alloc_new _ _) Try.underlying34 rfl (by kernel_rfl)) rfl ⟨by first | rfl | (simp only [*]; rfl), bup (Below.refl _ _) _⟩
          ·
            go_enter Try.func15, Try.ntmps15
            go_wp2_with (first | (go_at_call 10; refine (HV.out _ _ (by assumption)).mono ?_; rintro e w1 ⟨rfl, hw1⟩; subst w1) | (go_at_call 20; refine (HD1.out _ _ _ (by assumption) (by decide)).mono ?_; rintro e w1 ⟨rfl, hw1⟩; subst w1))
            exact bodyPost_ret (results_cell_tmp_row rfl _ _ w.heap.size _ _ _ _ _ rfl rfl (heap_alloc_new _ _) Try.underlying34 rfl (by kernel_rfl)) rfl ⟨by first | rfl | (simp only [*]; rfl), bup (Below.refl _ _) _⟩
      ·
        cases ek : dk D1 15
        ·
          cases c2
          ·
            cases ev : vf s
            ·
              go_enter Try.func15, Try.ntmps15
              go_wp2_with (first | (go_at_call 10; refine (HV.out _ _ (by assumption)).mono ?_; rintro e w1 ⟨rfl, hw1⟩; subst w1) | (go_at_call 20; refine (HD1.out _ _ _ (by assumption) (by decide)).mono ?_; rintro e w1 ⟨rfl, hw1⟩; subst w1))
              exact bodyPost_ret (results_cell_tmp_row rfl _ _ w.heap.size _ _ _ _ _ rfl rfl (heap_alloc_new _ _) Try.underlying34 rfl (by kernel_rfl)) rfl ⟨by first | rfl | (simp only [*]; rfl), bup (Below.refl _ _) _⟩
            ·
              go_enter Try.func15, Try.ntmps15
              go_wp2_with (first | (go_at_call 10; refine (HV.out _ _ (by assumption)).mono ?_; rintro e w1 ⟨rfl, hw1⟩; subst w1) | (go_at_call 20; refine (HD1.out _ _ _ (by assumption) (by decide)).mono ?_; rintro e w1 ⟨rfl, hw1⟩; subst w1))
              exact bodyPost_ret (results_cell_tmp_row rfl _ _ w.heap.size _ _ _ _ _ rfl rfl (heap_alloc_new _ _) Try.underlying34 rfl (by kernel_rfl)) rfl ⟨by first | rfl | (simp only [*]; rfl), bup (Below.refl _ _) _⟩
          ·
            cases el : dk D3 13
            ·
              cases ev : vf s
              ·
                go_enter Try.func15, Try.ntmps15
                go_wp2_with (first | (go_at_call 10; refine (HV.out _ _ (by assumption)).mono ?_; rintro e w1 ⟨rfl, hw1⟩; subst w1) | (go_at_call 20; refine (HD1.out _ _ _ (by assumption) (by decide)).mono ?_; rintro e w1 ⟨rfl, hw1⟩; subst w1))
                exact bodyPost_ret (results_cell_tmp_row rfl _ _ w.heap.size _ _ _ _ _ rfl rfl (heap_alloc_new _ _) Try.underlying34 rfl (by kernel_rfl)) rfl ⟨by first | rfl | (simp only [*]; rfl), bup (Below.refl _ _) _⟩
              ·
                go_enter Try.func15, Try.ntmps15
                go_wp2_with (first | (go_at_call 10; refine (HV.out _ _ (by assumption)).mono ?_; rintro e w1 ⟨rfl, hw1⟩; subst w1) | (go_at_call 20; refine (HD1.out _ _ _ (by assumption) (by decide)).mono ?_; rintro e w1 ⟨rfl, hw1⟩; subst w1))
                exact bodyPost_ret (results_cell_tmp_row rfl _ _ w.heap.size _ _ _ _ _ rfl rfl (heap_alloc_new _ _) Try.underlying34 rfl (by kernel_rfl)) rfl ⟨by first | rfl | (simp only [*]; rfl), bup (Below.refl _ _) _⟩
            ·
              go_enter Try.func15, Try.ntmps15
              go_wp2_with (first | (go_at_call 10; refine (HV.out _ _ (by assumption)).mono ?_; rintro e w1 ⟨rfl, hw1⟩; subst w1) | (go_at_call 20; refine (HD1.out _ _ _ (by assumption) (by decide)).mono ?_; rintro e w1 ⟨rfl, hw1⟩; subst w1))
              exact bodyPost_ret (results_cell_tmp_row rfl _ _ w.heap.size _ _ _ _ _ rfl rfl (heap_alloc_new _ _) Try.underlying34 rfl (by kernel_rfl)) rfl ⟨by first | rfl | (simp only [*]; rfl), bup (Below.refl _ _) _⟩
        ·
          go_enter Try.func15, Try.ntmps15
          go_wp2_with (first | (go_at_call 10; refine (HV.out _ _ (by assumption)).mono ?_; rintro e w1 ⟨rfl, hw1⟩; subst w1) | (go_at_call 20; refine (HD1.out _ _ _ (by assumption) (by decide)).mono ?_; rintro e w1 ⟨rfl, hw1⟩; subst w1))
          exact bodyPost_ret (results_cell_tmp_row rfl _ _ w.heap.size _ _ _ _ _ rfl rfl (heap_alloc_new _ _) Try.underlying34 rfl (by kernel_rfl)) rfl ⟨by first | rfl | (simp only [*]; rfl), bup (Below.refl _ _) _⟩
    ·
      go_enter Try.func15, Try.ntmps15
      go_wp2_with (first | (go_at_call 10; refine (HV.out _ _ (by assumption)).mono ?_; rintro e w1 ⟨rfl, hw1⟩; subst w1) | (go_at_call 20; refine (HD1.out _ _ _ (by assumption) (by decide)).mono ?_; rintro e w1 ⟨rfl, hw1⟩; subst w1))
      exact bodyPost_ret (results_cell_tmp_row rfl _ _ w.heap.size _ _ _ _ _ rfl rfl (heap_alloc_new _ _) Try.underlying34 rfl (by kernel_rfl)) rfl ⟨by first | rfl | (simp only [*]; rfl), bup (Below.refl _ _) _⟩
end Go.Proofs.Ytmppfpkcnhcfbaa
