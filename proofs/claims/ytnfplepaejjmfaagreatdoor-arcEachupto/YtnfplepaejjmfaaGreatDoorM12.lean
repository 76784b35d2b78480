import Derived.Test.YtnfplepaejjmfaaGreatDoorB2
import Derived.Test.YtnfplepaejjmfaaGreatDoorB3
import Derived.Test.YtnfplepaejjmfaaGreatDoorFV

-- shelfref8.Read: a contract.
namespace Go.Proofs.YtnfplepaejjmfaaGreatDoor
open Go.ChangeShapes Go.WideShapes Go.ChangeAt Go.RowKit
set_option linter.unusedVariables false
set_option maxRecDepth 100000

def rdOut (n1 a2 a3 b2 k1 n3 c2 k3 v : Bool) (P s : ByteArray) (v1 v3 : Int) : Fl × Int :=
  if n1 && (a2 && a3) then (⟨4, 0, P⟩, 0) else if n1 && (b2 && k1) then (⟨5, v1, ⟨#[]⟩⟩, 0) else if n3 && (c2 && k3) then (⟨7, v3, ⟨#[]⟩⟩, 0) else if v then (⟨6, 0, s⟩, 0) else (⟨0, 0, ⟨#[]⟩⟩, 80)
set_option maxHeartbeats 1000000 in
theorem read_long (s : ByteArray) (w : World) (hm : s.size ≤ maxLen) (h : 16 < s.size) : Calls Tryz.prog 90 #[.string s] w fun e w' => e = .returned (.tuple #[flV fl0, .int .i64 80]) ∧ Below w.heap.size w w' := by
  unfold maxLen at hm
  have c16 : decide ((16 : Int) < (s.size : Int)) = true := by simp; omega
  go_enter Tryz.func90, Tryz.ntmps90
  go_wp2
  exact bodyPost_ret (results_cell_tmp_row rfl _ _ w.heap.size _ _ _ _ _ rfl rfl (heap_alloc_new _ _) Tryz.underlying84 rfl (by kernel_rfl)) rfl ⟨by first | rfl | (simp only [*]; rfl), bup (Below.refl _ _) _⟩
set_option maxHeartbeats 1000000 in
theorem read_47 (w : World) : Calls Tryz.prog 90 #[.string ⟨#[47]⟩] w fun e w' => e = .returned (.tuple #[flV ⟨1, 0, ⟨#[]⟩⟩, .int .i64 0]) ∧ Below w.heap.size w w' := by
  go_enter Tryz.func90, Tryz.ntmps90
  go_wp2
  exact bodyPost_ret (results_cell_tmp_row rfl _ _ w.heap.size _ _ _ _ _ rfl rfl (heap_alloc_new _ _) Tryz.underlying84 rfl (by kernel_rfl)) rfl ⟨by first | rfl | (simp only [*]; rfl), bup (Below.refl _ _) _⟩
set_option maxHeartbeats 1000000 in
theorem read_SYM64 (w : World) : Calls Tryz.prog 90 #[.string ⟨#[47, 83, 89, 77, 54, 52, 47]⟩] w fun e w' => e = .returned (.tuple #[flV ⟨2, 0, ⟨#[]⟩⟩, .int .i64 0]) ∧ Below w.heap.size w w' := by
  go_enter Tryz.func90, Tryz.ntmps90
  go_wp2
  exact bodyPost_ret (results_cell_tmp_row rfl _ _ w.heap.size _ _ _ _ _ rfl rfl (heap_alloc_new _ _) Tryz.underlying84 rfl (by kernel_rfl)) rfl ⟨by first | rfl | (simp only [*]; rfl), bup (Below.refl _ _) _⟩
set_option maxHeartbeats 1000000 in
theorem read_slashes (w : World) : Calls Tryz.prog 90 #[.string ⟨#[47, 47]⟩] w fun e w' => e = .returned (.tuple #[flV ⟨3, 0, ⟨#[]⟩⟩, .int .i64 0]) ∧ Below w.heap.size w w' := by
  go_enter Tryz.func90, Tryz.ntmps90
  go_wp2
  exact bodyPost_ret (results_cell_tmp_row rfl _ _ w.heap.size _ _ _ _ _ rfl rfl (heap_alloc_new _ _) Tryz.underlying84 rfl (by kernel_rfl)) rfl ⟨by first | rfl | (simp only [*]; rfl), bup (Below.refl _ _) _⟩
set_option maxHeartbeats 1000000 in
theorem read_SYMDEF (w : World) : Calls Tryz.prog 90 #[.string ⟨#[95, 95, 46, 83, 89, 77, 68, 69, 70]⟩] w fun e w' => e = .returned (.tuple #[flV ⟨8, 0, ⟨#[]⟩⟩, .int .i64 0]) ∧ Below w.heap.size w w' := by
  go_enter Tryz.func90, Tryz.ntmps90
  go_wp2
  exact bodyPost_ret (results_cell_tmp_row rfl _ _ w.heap.size _ _ _ _ _ rfl rfl (heap_alloc_new _ _) Tryz.underlying84 rfl (by kernel_rfl)) rfl ⟨by first | rfl | (simp only [*]; rfl), bup (Below.refl _ _) _⟩
set_option maxHeartbeats 1000000 in
theorem read_few (s : ByteArray) (w : World) (hm : s.size ≤ maxLen) (c16 : decide ((16 : Int) < (s.size : Int)) = false) (e1 : (s.toList == [47]) = false) (e2 : (s.toList == [47, 83, 89, 77, 54, 52, 47]) = false) (e3 : (s.toList == [47, 47]) = false) (e4 : (s.toList == [95, 95, 46, 83, 89, 77, 68, 69, 70]) = false)
    (vf : ByteArray → Bool) (HV : Hid (∀ (g : ByteArray) (w : World), g.size ≤ 16 → Calls Tryz.prog 113 #[.string g] w fun e w' => e = .returned (.bool (vf g)) ∧ w' = w)) (zs : s.size ≤ 16) (n1 : decide ((1 : Int) < (s.size : Int)) = false) (n3 : decide ((3 : Int) < (s.size : Int)) = false) : Calls Tryz.prog 90 #[.string s] w fun e w' => e = .returned (.tuple #[flV (rdOut false false false false false false false false (vf s) s s 0 0).1, .int .i64 (rdOut false false false false false false false false (vf s) s s 0 0).2]) ∧ Below w.heap.size w w' := by
  unfold maxLen at hm
  have g1 : ¬ s.toList = [47] := by simpa using e1
  have g2 : ¬ s.toList = [47, 83, 89, 77, 54, 52, 47] := by simpa using e2
  have g3 : ¬ s.toList = [47, 47] := by simpa using e3
  have g4 : ¬ s.toList = [95, 95, 46, 83, 89, 77, 68, 69, 70] := by simpa using e4
  cases ev : vf s
  ·
    go_enter Tryz.func90, Tryz.ntmps90
    go_wp2_with (first | (go_at_call 113; refine (HV.out _ _ (by assumption)).mono ?_; rintro e w1 ⟨rfl, hw1⟩; subst w1))
    exact bodyPost_ret (results_cell_tmp_row rfl _ _ w.heap.size _ _ _ _ _ rfl rfl (heap_alloc_new _ _) Tryz.underlying84 rfl (by kernel_rfl)) rfl ⟨by first | rfl | (simp only [*]; rfl), bup (Below.refl _ _) _⟩
  ·
    go_enter Tryz.func90, Tryz.ntmps90
    go_wp2_with (first | (go_at_call 113; refine (HV.out _ _ (by assumption)).mono ?_; rintro e w1 ⟨rfl, hw1⟩; subst w1))
    exact bodyPost_ret (results_cell_tmp_row rfl _ _ w.heap.size _ _ _ _ _ rfl rfl (heap_alloc_new _ _) Tryz.underlying84 rfl (by kernel_rfl)) rfl ⟨by first | rfl | (simp only [*]; rfl), bup (Below.refl _ _) _⟩
set_option maxHeartbeats 4000000 in
theorem read_two (s : ByteArray) (w : World) (hm : s.size ≤ maxLen) (c16 : decide ((16 : Int) < (s.size : Int)) = false) (e1 : (s.toList == [47]) = false) (e2 : (s.toList == [47, 83, 89, 77, 54, 52, 47]) = false) (e3 : (s.toList == [47, 47]) = false) (e4 : (s.toList == [95, 95, 46, 83, 89, 77, 68, 69, 70]) = false)
    (vf : ByteArray → Bool) (HV : Hid (∀ (g : ByteArray) (w : World), g.size ≤ 16 → Calls Tryz.prog 113 #[.string g] w fun e w' => e = .returned (.bool (vf g)) ∧ w' = w)) (zs : s.size ≤ 16)
    (P : ByteArray) (zP : P.size ≤ 16) (a2 : Bool) (x y : Int) (hx : ∀ w, (Instr.index 9 (.string s) (.int .i64 ((s.size : Int) - 1))).run Tryz.prog w = .ok (.int .u8 x) w) (hxa : (x == 47) = a2)
    (sP : ∀ w, (Instr.slice 9 (.string s) none (some (.int .i64 ((s.size : Int) - 1))) none).run Tryz.prog w = .ok (.string P) w)
    (b2 : Bool) (dn : ByteArray → Int → Int) (dk : ByteArray → Int → Bool) (D1 : ByteArray) (z1 : D1.size ≤ 16) (hy : ∀ w, (Instr.index 9 (.string s) (.int .i64 0)).run Tryz.prog w = .ok (.int .u8 y) w) (hyb : (y == 47) = b2)
    (sD : ∀ w, (Instr.slice 9 (.string s) (some (.int .i64 1)) none none).run Tryz.prog w = .ok (.string D1) w) (HD1 : Hid (∀ (g : ByteArray) (k : Int) (w : World), g.size ≤ 16 → k = 15 ∨ k = 13 → Calls Tryz.prog 114 #[.string g, .int .i64 k] w fun e w' => e = .returned (.tuple #[.int .i64 (dn g k), .bool (dk g k)]) ∧ w' = w)) (n1 : decide ((1 : Int) < (s.size : Int)) = true) (n3 : decide ((3 : Int) < (s.size : Int)) = false) : Calls Tryz.prog 90 #[.string s] w fun e w' => e = .returned (.tuple #[flV (rdOut true a2 (vf P) b2 (dk D1 15) false false false (vf s) P s (dn D1 15) 0).1, .int .i64 (rdOut true a2 (vf P) b2 (dk D1 15) false false false (vf s) P s (dn D1 15) 0).2]) ∧ Below w.heap.size w w' := by
  unfold maxLen at hm
  have h1 : (1 : Int) < (s.size : Int) := of_decide_eq_true n1
  have g1 : ¬ s.toList = [47] := by simpa using e1
  have g2 : ¬ s.toList = [47, 83, 89, 77, 54, 52, 47] := by simpa using e2
  have g3 : ¬ s.toList = [47, 47] := by simpa using e3
  have g4 : ¬ s.toList = [95, 95, 46, 83, 89, 77, 68, 69, 70] := by simpa using e4
  cases a2
  ·
    cases b2
    ·
      cases ev : vf s
      ·
        go_enter Tryz.func90, Tryz.ntmps90
        go_wp2_with (first | (go_at_call 113; refine (HV.out _ _ (by assumption)).mono ?_; rintro e w1 ⟨rfl, hw1⟩; subst w1) | (go_at_call 114; refine (HD1.out _ _ _ (by assumption) (by decide)).mono ?_; rintro e w1 ⟨rfl, hw1⟩; subst w1))
        exact bodyPost_ret (results_cell_tmp_row rfl _ _ w.heap.size _ _ _ _ _ rfl rfl (heap_alloc_new _ _) Tryz.underlying84 rfl (by kernel_rfl)) rfl ⟨by first | rfl | (simp only [*]; rfl), bup (Below.refl _ _) _⟩
      ·
        go_enter Tryz.func90, Tryz.ntmps90
        go_wp2_with (first | (go_at_call 113; refine (HV.out _ _ (by assumption)).mono ?_; rintro e w1 ⟨rfl, hw1⟩; subst w1) | (go_at_call 114; refine (HD1.out _ _ _ (by assumption) (by decide)).mono ?_; rintro e w1 ⟨rfl, hw1⟩; subst w1))
        exact bodyPost_ret (results_cell_tmp_row rfl _ _ w.heap.size _ _ _ _ _ rfl rfl (heap_alloc_new _ _) Tryz.underlying84 rfl (by kernel_rfl)) rfl ⟨by first | rfl | (simp only [*]; rfl), bup (Below.refl _ _) _⟩
    ·
      cases ek : dk D1 15
      ·
        cases ev : vf s
        ·
          go_enter Tryz.func90, Tryz.ntmps90
          go_wp2_with (first | (go_at_call 113; refine (HV.out _ _ (by assumption)).mono ?_; rintro e w1 ⟨rfl, hw1⟩; subst w1) | (go_at_call 114; refine (HD1.out _ _ _ (by assumption) (by decide)).mono ?_; rintro e w1 ⟨rfl, hw1⟩; subst w1))
          exact bodyPost_ret (results_cell_tmp_row rfl _ _ w.heap.size _ _ _ _ _ rfl rfl (heap_alloc_new _ _) Tryz.underlying84 rfl (by kernel_rfl)) rfl ⟨by first | rfl | (simp only [*]; rfl), bup (Below.refl _ _) _⟩
        ·
          go_enter Tryz.func90, Tryz.ntmps90
          go_wp2_with (first | (go_at_call 113; refine (HV.out _ _ (by assumption)).mono ?_; rintro e w1 ⟨rfl, hw1⟩; subst w1) | (go_at_call 114; refine (HD1.out _ _ _ (by assumption) (by decide)).mono ?_; rintro e w1 ⟨rfl, hw1⟩; subst w1))
          exact bodyPost_ret (results_cell_tmp_row rfl _ _ w.heap.size _ _ _ _ _ rfl rfl (heap_alloc_new _ _) Tryz.underlying84 rfl (by kernel_rfl)) rfl ⟨by first | rfl | (simp only [*]; rfl), bup (Below.refl _ _) _⟩
      ·
        go_enter Tryz.func90, Tryz.ntmps90
        go_wp2_with (first | (go_at_call 113; refine (HV.out _ _ (by assumption)).mono ?_; rintro e w1 ⟨rfl, hw1⟩; subst w1) | (go_at_call 114; refine (HD1.out _ _ _ (by assumption) (by decide)).mono ?_; rintro e w1 ⟨rfl, hw1⟩; subst w1))
        exact bodyPost_ret (results_cell_tmp_row rfl _ _ w.heap.size _ _ _ _ _ rfl rfl (heap_alloc_new _ _) Tryz.underlying84 rfl (by kernel_rfl)) rfl ⟨by first | rfl | (simp only [*]; rfl), bup (Below.refl _ _) _⟩
  ·
    cases ea : vf P
    ·
      cases b2
      ·
        cases ev : vf s
        ·
          go_enter Tryz.func90, Tryz.ntmps90
          go_wp2_with (first | (go_at_call 113; refine (HV.out _ _ (by assumption)).mono ?_; rintro e w1 ⟨rfl, hw1⟩; subst w1) | (go_at_call 114; refine (HD1.out _ _ _ (by assumption) (by decide)).mono ?_; rintro e w1 ⟨rfl, hw1⟩; subst w1))
          exact bodyPost_ret (results_cell_tmp_row rfl _ _ w.heap.size _ _ _ _ _ rfl rfl (heap_alloc_new _ _) Tryz.underlying84 rfl (by kernel_rfl)) rfl ⟨by first | rfl | (simp only [*]; rfl), bup (Below.refl _ _) _⟩
        ·
          go_enter Tryz.func90, Tryz.ntmps90
          go_wp2_with (first | (go_at_call 113; refine (HV.out _ _ (by assumption)).mono ?_; rintro e w1 ⟨rfl, hw1⟩; subst w1) | (go_at_call 114; refine (HD1.out _ _ _ (by assumption) (by decide)).mono ?_; rintro e w1 ⟨rfl, hw1⟩; subst w1))
          exact bodyPost_ret (results_cell_tmp_row rfl _ _ w.heap.size _ _ _ _ _ rfl rfl (heap_alloc_new _ _) Tryz.underlying84 rfl (by kernel_rfl)) rfl ⟨by first | rfl | (simp only [*]; rfl), bup (Below.refl _ _) _⟩
      ·
        cases ek : dk D1 15
        ·
          cases ev : vf s
          ·
            go_enter Tryz.func90, Tryz.ntmps90
            go_wp2_with (first | (go_at_call 113; refine (HV.out _ _ (by assumption)).mono ?_; rintro e w1 ⟨rfl, hw1⟩; subst w1) | (go_at_call 114; refine (HD1.out _ _ _ (by assumption) (by decide)).mono ?_; rintro e w1 ⟨rfl, hw1⟩; subst w1))
            exact bodyPost_ret (results_cell_tmp_row rfl _ _ w.heap.size _ _ _ _ _ rfl rfl (heap_alloc_new _ _) Tryz.underlying84 rfl (by kernel_rfl)) rfl ⟨by first | rfl | (simp only [*]; rfl), bup (Below.refl _ _) _⟩
          ·
            go_enter Tryz.func90, Tryz.ntmps90
            go_wp2_with (first | (go_at_call 113; refine (HV.out _ _ (by assumption)).mono ?_; rintro e w1 ⟨rfl, hw1⟩; subst w1) | (go_at_call 114; refine (HD1.out _ _ _ (by assumption) (by decide)).mono ?_; rintro e w1 ⟨rfl, hw1⟩; subst w1))
            exact bodyPost_ret (results_cell_tmp_row rfl _ _ w.heap.size _ _ _ _ _ rfl rfl (heap_alloc_new _ _) Tryz.underlying84 rfl (by kernel_rfl)) rfl ⟨by first | rfl | (simp only [*]; rfl), bup (Below.refl _ _) _⟩
        ·
          go_enter Tryz.func90, Tryz.ntmps90
          go_wp2_with (first | (go_at_call 113; refine (HV.out _ _ (by assumption)).mono ?_; rintro e w1 ⟨rfl, hw1⟩; subst w1) | (go_at_call 114; refine (HD1.out _ _ _ (by assumption) (by decide)).mono ?_; rintro e w1 ⟨rfl, hw1⟩; subst w1))
          exact bodyPost_ret (results_cell_tmp_row rfl _ _ w.heap.size _ _ _ _ _ rfl rfl (heap_alloc_new _ _) Tryz.underlying84 rfl (by kernel_rfl)) rfl ⟨by first | rfl | (simp only [*]; rfl), bup (Below.refl _ _) _⟩
    ·
      go_enter Tryz.func90, Tryz.ntmps90
      go_wp2_with (first | (go_at_call 113; refine (HV.out _ _ (by assumption)).mono ?_; rintro e w1 ⟨rfl, hw1⟩; subst w1) | (go_at_call 114; refine (HD1.out _ _ _ (by assumption) (by decide)).mono ?_; rintro e w1 ⟨rfl, hw1⟩; subst w1))
      exact bodyPost_ret (results_cell_tmp_row rfl _ _ w.heap.size _ _ _ _ _ rfl rfl (heap_alloc_new _ _) Tryz.underlying84 rfl (by kernel_rfl)) rfl ⟨by first | rfl | (simp only [*]; rfl), bup (Below.refl _ _) _⟩
set_option maxHeartbeats 8000000 in
theorem read_three (s : ByteArray) (w : World) (hm : s.size ≤ maxLen) (c16 : decide ((16 : Int) < (s.size : Int)) = false) (e1 : (s.toList == [47]) = false) (e2 : (s.toList == [47, 83, 89, 77, 54, 52, 47]) = false) (e3 : (s.toList == [47, 47]) = false) (e4 : (s.toList == [95, 95, 46, 83, 89, 77, 68, 69, 70]) = false)
    (vf : ByteArray → Bool) (HV : Hid (∀ (g : ByteArray) (w : World), g.size ≤ 16 → Calls Tryz.prog 113 #[.string g] w fun e w' => e = .returned (.bool (vf g)) ∧ w' = w)) (zs : s.size ≤ 16)
    (P : ByteArray) (zP : P.size ≤ 16) (a2 : Bool) (x y : Int) (hx : ∀ w, (Instr.index 9 (.string s) (.int .i64 ((s.size : Int) - 1))).run Tryz.prog w = .ok (.int .u8 x) w) (hxa : (x == 47) = a2)
    (sP : ∀ w, (Instr.slice 9 (.string s) none (some (.int .i64 ((s.size : Int) - 1))) none).run Tryz.prog w = .ok (.string P) w)
    (b2 : Bool) (dn : ByteArray → Int → Int) (dk : ByteArray → Int → Bool) (D1 : ByteArray) (z1 : D1.size ≤ 16) (hy : ∀ w, (Instr.index 9 (.string s) (.int .i64 0)).run Tryz.prog w = .ok (.int .u8 y) w) (hyb : (y == 47) = b2)
    (sD : ∀ w, (Instr.slice 9 (.string s) (some (.int .i64 1)) none none).run Tryz.prog w = .ok (.string D1) w) (HD1 : Hid (∀ (g : ByteArray) (k : Int) (w : World), g.size ≤ 16 → k = 15 ∨ k = 13 → Calls Tryz.prog 114 #[.string g, .int .i64 k] w fun e w' => e = .returned (.tuple #[.int .i64 (dn g k), .bool (dk g k)]) ∧ w' = w))
    (c2 : Bool) (T3 D3 : ByteArray) (z3 : D3.size ≤ 16) (sT : ∀ w, (Instr.slice 9 (.string s) none (some (.int .i64 3)) none).run Tryz.prog w = .ok (.string T3) w) (hT : (T3.toList == [35, 49, 47]) = c2)
    (sE : ∀ w, (Instr.slice 9 (.string s) (some (.int .i64 3)) none none).run Tryz.prog w = .ok (.string D3) w) (n1 : decide ((1 : Int) < (s.size : Int)) = true) (n3 : decide ((3 : Int) < (s.size : Int)) = true) : Calls Tryz.prog 90 #[.string s] w fun e w' => e = .returned (.tuple #[flV (rdOut true a2 (vf P) b2 (dk D1 15) true c2 (dk D3 13) (vf s) P s (dn D1 15) (dn D3 13)).1, .int .i64 (rdOut true a2 (vf P) b2 (dk D1 15) true c2 (dk D3 13) (vf s) P s (dn D1 15) (dn D3 13)).2]) ∧ Below w.heap.size w w' := by
  unfold maxLen at hm
  have h3 : (3 : Int) < (s.size : Int) := of_decide_eq_true n3
  have g1 : ¬ s.toList = [47] := by simpa using e1
  have g2 : ¬ s.toList = [47, 83, 89, 77, 54, 52, 47] := by simpa using e2
  have g3 : ¬ s.toList = [47, 47] := by simpa using e3
  have g4 : ¬ s.toList = [95, 95, 46, 83, 89, 77, 68, 69, 70] := by simpa using e4
  cases a2
  ·
    cases b2
    ·
      cases c2
      ·
        cases ev : vf s
        ·
          go_enter Tryz.func90, Tryz.ntmps90
          go_wp2_with (first | (go_at_call 113; refine (HV.out _ _ (by assumption)).mono ?_; rintro e w1 ⟨rfl, hw1⟩; subst w1) | (go_at_call 114; refine (HD1.out _ _ _ (by assumption) (by decide)).mono ?_; rintro e w1 ⟨rfl, hw1⟩; subst w1))
          exact bodyPost_ret (results_cell_tmp_row rfl _ _ w.heap.size _ _ _ _ _ rfl rfl (heap_alloc_new _ _) Tryz.underlying84 rfl (by kernel_rfl)) rfl ⟨by first | rfl | (simp only [*]; rfl), bup (Below.refl _ _) _⟩
        ·
          go_enter Tryz.func90, Tryz.ntmps90
          go_wp2_with (first | (go_at_call 113; refine (HV.out _ _ (by assumption)).mono ?_; rintro e w1 ⟨rfl, hw1⟩; subst w1) | (go_at_call 114; refine (HD1.out _ _ _ (by assumption) (by decide)).mono ?_; rintro e w1 ⟨rfl, hw1⟩; subst w1))
          exact bodyPost_ret (results_cell_tmp_row rfl _ _ w.heap.size _ _ _ _ _ rfl rfl (heap_alloc_new _ _) Tryz.underlying84 rfl (by kernel_rfl)) rfl ⟨by first | rfl | (simp only [*]; rfl), bup (Below.refl _ _) _⟩
      ·
        cases el : dk D3 13
        ·
          cases ev : vf s
          ·
            go_enter Tryz.func90, Tryz.ntmps90
            go_wp2_with (first | (go_at_call 113; refine (HV.out _ _ (by assumption)).mono ?_; rintro e w1 ⟨rfl, hw1⟩; subst w1) | (go_at_call 114; refine (HD1.out _ _ _ (by assumption) (by decide)).mono ?_; rintro e w1 ⟨rfl, hw1⟩; subst w1))
            exact bodyPost_ret (results_cell_tmp_row rfl _ _ w.heap.size _ _ _ _ _ rfl rfl (heap_alloc_new _ _) Tryz.underlying84 rfl (by kernel_rfl)) rfl ⟨by first | rfl | (simp only [*]; rfl), bup (Below.refl _ _) _⟩
          ·
            go_enter Tryz.func90, Tryz.ntmps90
            go_wp2_with (first | (go_at_call 113; refine (HV.out _ _ (by assumption)).mono ?_; rintro e w1 ⟨rfl, hw1⟩; subst w1) | (go_at_call 114; refine (HD1.out _ _ _ (by assumption) (by decide)).mono ?_; rintro e w1 ⟨rfl, hw1⟩; subst w1))
            exact bodyPost_ret (results_cell_tmp_row rfl _ _ w.heap.size _ _ _ _ _ rfl rfl (heap_alloc_new _ _) Tryz.underlying84 rfl (by kernel_rfl)) rfl ⟨by first | rfl | (simp only [*]; rfl), bup (Below.refl _ _) _⟩
        ·
          go_enter Tryz.func90, Tryz.ntmps90
          go_wp2_with (first | (go_at_call 113; refine (HV.out _ _ (by assumption)).mono ?_; rintro e w1 ⟨rfl, hw1⟩; subst w1) | (go_at_call 114; refine (HD1.out _ _ _ (by assumption) (by decide)).mono ?_; rintro e w1 ⟨rfl, hw1⟩; subst w1))
          exact bodyPost_ret (results_cell_tmp_row rfl _ _ w.heap.size _ _ _ _ _ rfl rfl (heap_alloc_new _ _) Tryz.underlying84 rfl (by kernel_rfl)) rfl ⟨by first | rfl | (simp only [*]; rfl), bup (Below.refl _ _) _⟩
    ·
      cases ek : dk D1 15
      ·
        cases c2
        ·
          cases ev : vf s
          ·
            go_enter Tryz.func90, Tryz.ntmps90
            go_wp2_with (first | (go_at_call 113; refine (HV.out _ _ (by assumption)).mono ?_; rintro e w1 ⟨rfl, hw1⟩; subst w1) | (go_at_call 114; refine (HD1.out _ _ _ (by assumption) (by decide)).mono ?_; rintro e w1 ⟨rfl, hw1⟩; subst w1))
            exact bodyPost_ret (results_cell_tmp_row rfl _ _ w.heap.size _ _ _ _ _ rfl rfl (heap_alloc_new _ _) Tryz.underlying84 rfl (by kernel_rfl)) rfl ⟨by first | rfl | (simp only [*]; rfl), bup (Below.refl _ _) _⟩
          ·
            go_enter Tryz.func90, Tryz.ntmps90
            go_wp2_with (first | (go_at_call 113; refine (HV.out _ _ (by assumption)).mono ?_; rintro e w1 ⟨rfl, hw1⟩; subst w1) | (go_at_call 114; refine (HD1.out _ _ _ (by assumption) (by decide)).mono ?_; rintro e w1 ⟨rfl, hw1⟩; subst w1))
            exact bodyPost_ret (results_cell_tmp_row rfl _ _ w.heap.size _ _ _ _ _ rfl rfl (heap_alloc_new _ _) Tryz.underlying84 rfl (by kernel_rfl)) rfl ⟨by first | rfl | (simp only [*]; rfl), bup (Below.refl _ _) _⟩
        ·
          cases el : dk D3 13
          ·
            cases ev : vf s
            ·
              go_enter Tryz.func90, Tryz.ntmps90
              go_wp2_with (first | (go_at_call 113; refine (HV.out _ _ (by assumption)).mono ?_; rintro e w1 ⟨rfl, hw1⟩; subst w1) | (go_at_call 114; refine (HD1.out _ _ _ (by assumption) (by decide)).mono ?_; rintro e w1 ⟨rfl, hw1⟩; subst w1))
              exact bodyPost_ret (results_cell_tmp_row rfl _ _ w.heap.size _ _ _ _ _ rfl rfl (heap_alloc_new _ _) Tryz.underlying84 rfl (by kernel_rfl)) rfl ⟨by first | rfl | (simp only [*]; rfl), bup (Below.refl _ _) _⟩
            ·
              go_enter Tryz.func90, Tryz.ntmps90
              go_wp2_with (first | (go_at_call 113; refine (HV.out _ _ (by assumption)).mono ?_; rintro e w1 ⟨rfl, hw1⟩; subst w1) | (go_at_call 114; refine (HD1.out _ _ _ (by assumption) (by decide)).mono ?_; rintro e w1 ⟨rfl, hw1⟩; subst w1))
              exact bodyPost_ret (results_cell_tmp_row rfl _ _ w.heap.size _ _ _ _ _ rfl rfl (heap_alloc_new _ _) Tryz.underlying84 rfl (by kernel_rfl)) rfl ⟨by first | rfl | (simp only [*]; rfl), bup (Below.refl _ _) _⟩
          ·
            go_enter Tryz.func90, Tryz.ntmps90
            go_wp2_with (first | (go_at_call 113; refine (HV.out _ _ (by assumption)).mono ?_; rintro e w1 ⟨rfl, hw1⟩; subst w1) | (go_at_call 114; refine (HD1.out _ _ _ (by assumption) (by decide)).mono ?_; rintro e w1 ⟨rfl, hw1⟩; subst w1))
            exact bodyPost_ret (results_cell_tmp_row rfl _ _ w.heap.size _ _ _ _ _ rfl rfl (heap_alloc_new _ _) Tryz.underlying84 rfl (by kernel_rfl)) rfl ⟨by first | rfl | (simp only [*]; rfl), bup (Below.refl _ _) _⟩
      ·
        go_enter Tryz.func90, Tryz.ntmps90
        go_wp2_with (first | (go_at_call 113; refine (HV.out _ _ (by assumption)).mono ?_; rintro e w1 ⟨rfl, hw1⟩; subst w1) | (go_at_call 114; refine (HD1.out _ _ _ (by assumption) (by decide)).mono ?_; rintro e w1 ⟨rfl, hw1⟩; subst w1))
        exact bodyPost_ret (results_cell_tmp_row rfl _ _ w.heap.size _ _ _ _ _ rfl rfl (heap_alloc_new _ _) Tryz.underlying84 rfl (by kernel_rfl)) rfl ⟨by first | rfl | (simp only [*]; rfl), bup (Below.refl _ _) _⟩
  ·
    cases ea : vf P
    ·
      cases b2
      ·
        cases c2
        ·
          cases ev : vf s
          ·
            go_enter Tryz.func90, Tryz.ntmps90
            go_wp2_with (first | (go_at_call 113; refine (HV.out _ _ (by assumption)).mono ?_; rintro e w1 ⟨rfl, hw1⟩; subst w1) | (go_at_call 114; refine (HD1.out _ _ _ (by assumption) (by decide)).mono ?_; rintro e w1 ⟨rfl, hw1⟩; subst w1))
            exact bodyPost_ret (results_cell_tmp_row rfl _ _ w.heap.size _ _ _ _ _ rfl rfl (heap_alloc_new _ _) Tryz.underlying84 rfl (by kernel_rfl)) rfl ⟨by first | rfl | (simp only [*]; rfl), bup (Below.refl _ _) _⟩
          ·
            go_enter Tryz.func90, Tryz.ntmps90
            go_wp2_with (first | (go_at_call 113; refine (HV.out _ _ (by assumption)).mono ?_; rintro e w1 ⟨rfl, hw1⟩; subst w1) | (go_at_call 114; refine (HD1.out _ _ _ (by assumption) (by decide)).mono ?_; rintro e w1 ⟨rfl, hw1⟩; subst w1))
            exact bodyPost_ret (results_cell_tmp_row rfl _ _ w.heap.size _ _ _ _ _ rfl rfl (heap_alloc_new _ _) Tryz.underlying84 rfl (by kernel_rfl)) rfl ⟨by first | rfl | (simp only [*]; rfl), bup (Below.refl _ _) _⟩
        ·
          cases el : dk D3 13
          ·
            cases ev : vf s
            ·
              go_enter Tryz.func90, Tryz.ntmps90
              go_wp2_with (first | (go_at_call 113; refine (HV.out _ _ (by assumption)).mono ?_; rintro e w1 ⟨rfl, hw1⟩; subst w1) | (go_at_call 114; refine (HD1.out _ _ _ (by assumption) (by decide)).mono ?_; rintro e w1 ⟨rfl, hw1⟩; subst w1))
              exact bodyPost_ret (results_cell_tmp_row rfl _ _ w.heap.size _ _ _ _ _ rfl rfl (heap_alloc_new _ _) Tryz.underlying84 rfl (by kernel_rfl)) rfl ⟨by first | rfl | (simp only [*]; rfl), bup (Below.refl _ _) _⟩
            ·
              go_enter Tryz.func90, Tryz.ntmps90
              go_wp2_with (first | (go_at_call 113; refine (HV.out _ _ (by assumption)).mono ?_; rintro e w1 ⟨rfl, hw1⟩; subst w1) | (go_at_call 114; refine (HD1.out _ _ _ (by assumption) (by decide)).mono ?_; rintro e w1 ⟨rfl, hw1⟩; subst w1))
              exact bodyPost_ret (results_cell_tmp_row rfl _ _ w.heap.size _ _ _ _ _ rfl rfl (heap_alloc_new _ _) Tryz.underlying84 rfl (by kernel_rfl)) rfl ⟨by first | rfl | (simp only [*]; rfl), bup (Below.refl _ _) _⟩
          ·
            go_enter Tryz.func90, Tryz.ntmps90
            go_wp2_with (first | (go_at_call 113; refine (HV.out _ _ (by assumption)).mono ?_; rintro e w1 ⟨rfl, hw1⟩; subst w1) | (go_at_call 114; refine (HD1.out _ _ _ (by assumption) (by decide)).mono ?_; rintro e w1 ⟨rfl, hw1⟩; subst w1))
            exact bodyPost_ret (results_cell_tmp_row rfl _ _ w.heap.size _ _ _ _ _ rfl rfl (heap_alloc_new _ _) Tryz.underlying84 rfl (by kernel_rfl)) rfl ⟨by first | rfl | (simp only [*]; rfl), bup (Below.refl _ _) _⟩
      ·
        cases ek : dk D1 15
        ·
          cases c2
          ·
            cases ev : vf s
            ·
              go_enter Tryz.func90, Tryz.ntmps90
              go_wp2_with (first | (go_at_call 113; refine (HV.out _ _ (by assumption)).mono ?_; rintro e w1 ⟨rfl, hw1⟩; subst w1) | (go_at_call 114; refine (HD1.out _ _ _ (by assumption) (by decide)).mono ?_; rintro e w1 ⟨rfl, hw1⟩; subst w1))
              exact bodyPost_ret (results_cell_tmp_row rfl _ _ w.heap.size _ _ _ _ _ rfl rfl (heap_alloc_new _ _) Tryz.underlying84 rfl (by kernel_rfl)) rfl ⟨by first | rfl | (simp only [*]; rfl), bup (Below.refl _ _) _⟩
            ·
              go_enter Tryz.func90, Tryz.ntmps90
              go_wp2_with (first | (go_at_call 113; refine (HV.out _ _ (by assumption)).mono ?_; rintro e w1 ⟨rfl, hw1⟩; subst w1) | (go_at_call 114; refine (HD1.out _ _ _ (by assumption) (by decide)).mono ?_; rintro e w1 ⟨rfl, hw1⟩; subst w1))
              exact bodyPost_ret (results_cell_tmp_row rfl _ _ w.heap.size _ _ _ _ _ rfl rfl (heap_alloc_new _ _) Tryz.underlying84 rfl (by kernel_rfl)) rfl ⟨by first | rfl | (simp only [*]; rfl), bup (Below.refl _ _) _⟩
          ·
            cases el : dk D3 13
            ·
              cases ev : vf s
              ·
                go_enter Tryz.func90, Tryz.ntmps90
                go_wp2_with (first | (go_at_call 113; refine (HV.out _ _ (by assumption)).mono ?_; rintro e w1 ⟨rfl, hw1⟩; subst w1) | (go_at_call 114; refine (HD1.out _ _ _ (by assumption) (by decide)).mono ?_; rintro e w1 ⟨rfl, hw1⟩; subst w1))
                exact bodyPost_ret (results_cell_tmp_row rfl _ _ w.heap.size _ _ _ _ _ rfl rfl (heap_alloc_new _ _) Tryz.underlying84 rfl (by kernel_rfl)) rfl ⟨by first | rfl | (simp only [*]; rfl), bup (Below.refl _ _) _⟩
              ·
                go_enter Tryz.func90, Tryz.ntmps90
                go_wp2_with (first | (go_at_call 113; refine (HV.out _ _ (by assumption)).mono ?_; rintro e w1 ⟨rfl, hw1⟩; subst w1) | (go_at_call 114; refine (HD1.out _ _ _ (by assumption) (by decide)).mono ?_; rintro e w1 ⟨rfl, hw1⟩; subst w1))
                exact bodyPost_ret (results_cell_tmp_row rfl _ _ w.heap.size _ _ _ _ _ rfl rfl (heap_alloc_new _ _) Tryz.underlying84 rfl (by kernel_rfl)) rfl ⟨by first | rfl | (simp only [*]; rfl), bup (Below.refl _ _) _⟩
            ·
              go_enter Tryz.func90, Tryz.ntmps90
              go_wp2_with (first | (go_at_call 113; refine (HV.out _ _ (by assumption)).mono ?_; rintro e w1 ⟨rfl, hw1⟩; subst w1) | (go_at_call 114; refine (HD1.out _ _ _ (by assumption) (by decide)).mono ?_; rintro e w1 ⟨rfl, hw1⟩; subst w1))
              exact bodyPost_ret (results_cell_tmp_row rfl _ _ w.heap.size _ _ _ _ _ rfl rfl (heap_alloc_new _ _) Tryz.underlying84 rfl (by kernel_rfl)) rfl ⟨by first | rfl | (simp only [*]; rfl), bup (Below.refl _ _) _⟩
        ·
          go_enter Tryz.func90, Tryz.ntmps90
          go_wp2_with (first | (go_at_call 113; refine (HV.out _ _ (by assumption)).mono ?_; rintro e w1 ⟨rfl, hw1⟩; subst w1) | (go_at_call 114; refine (HD1.out _ _ _ (by assumption) (by decide)).mono ?_; rintro e w1 ⟨rfl, hw1⟩; subst w1))
          exact bodyPost_ret (results_cell_tmp_row rfl _ _ w.heap.size _ _ _ _ _ rfl rfl (heap_alloc_new _ _) Tryz.underlying84 rfl (by kernel_rfl)) rfl ⟨by first | rfl | (simp only [*]; rfl), bup (Below.refl _ _) _⟩
    ·
      go_enter Tryz.func90, Tryz.ntmps90
      go_wp2_with (first | (go_at_call 113; refine (HV.out _ _ (by assumption)).mono ?_; rintro e w1 ⟨rfl, hw1⟩; subst w1) | (go_at_call 114; refine (HD1.out _ _ _ (by assumption) (by decide)).mono ?_; rintro e w1 ⟨rfl, hw1⟩; subst w1))
      exact bodyPost_ret (results_cell_tmp_row rfl _ _ w.heap.size _ _ _ _ _ rfl rfl (heap_alloc_new _ _) Tryz.underlying84 rfl (by kernel_rfl)) rfl ⟨by first | rfl | (simp only [*]; rfl), bup (Below.refl _ _) _⟩
end Go.Proofs.YtnfplepaejjmfaaGreatDoor

-- shelfref8.Read: the whole contract.
namespace Go.Proofs.YtnfplepaejjmfaaGreatDoor
open Go.ChangeShapes Go.WideShapes Go.ChangeAt Go.RowKit
set_option linter.unusedVariables false
set_option maxRecDepth 100000

theorem ne_lit (s : ByteArray) (l : List UInt8) (h : ¬ s.data.toList = l) : (s.toList == l) = false := by
  rw [Lib.toList_data]; simpa using h
theorem is_lit (s : ByteArray) (l : List UInt8) (h : s.data.toList = l) : s = strL l := by rw [← h, strL_of]
theorem rest_is (l : List UInt8) (n1 a2 a3 b2 k1 n3 c2 k3 v : Bool) (P s : ByteArray) (v1 v3 : Int)
    (h1 : n1 = decide (1 < l.length)) (ha2 : n1 = true → a2 = decide (l[l.length - 1]? = some 47)) (ha3 : n1 = true → a3 = validL (l.take (l.length - 1))) (hP : n1 = true → P = strL (l.take (l.length - 1)))
    (hb2 : n1 = true → b2 = decide (l[0]? = some 47)) (hk1 : n1 = true → k1 = (digL (l.drop 1) 15).isSome) (hv1 : n1 = true → v1 = ((digL (l.drop 1) 15).getD 0 : Nat))
    (h3 : n3 = decide (3 < l.length)) (hc2 : n3 = true → c2 = decide (l.take 3 = [35, 49, 47])) (hk3 : n3 = true → k3 = (digL (l.drop 3) 13).isSome) (hv3 : n3 = true → v3 = ((digL (l.drop 3) 13).getD 0 : Nat))
    (hv : v = validL l) (hs : s = strL l) : rdOut n1 a2 a3 b2 k1 n3 c2 k3 v P s v1 v3 = readRest l := by
  unfold rdOut readRest
  have eA : (n1 && (a2 && a3)) = decide (1 < l.length ∧ l[l.length - 1]? = some 47 ∧ validL (l.take (l.length - 1)) = true) := by
    cases n1
    · have : ¬ 1 < l.length := by simpa using h1
      rw [decide_eq_false (fun h => this h.1)]; rfl
    · have : 1 < l.length := by simpa using h1
      rw [ha2 rfl, ha3 rfl, Bool.true_and]
      by_cases q : l[l.length - 1]? = some 47
      · rw [decide_eq_true q, Bool.true_and]
        cases e : validL (l.take (l.length - 1))
        · rw [decide_eq_false]; rintro ⟨_, _, h⟩; cases h
        · rw [decide_eq_true]; exact ⟨this, q, rfl⟩
      · rw [decide_eq_false q, Bool.false_and, decide_eq_false (fun h => q h.2.1)]
  have eB : (n1 && (b2 && k1)) = decide (1 < l.length ∧ l[0]? = some 47 ∧ (digL (l.drop 1) 15).isSome = true) := by
    cases n1
    · have : ¬ 1 < l.length := by simpa using h1
      rw [decide_eq_false (fun h => this h.1)]; rfl
    · have : 1 < l.length := by simpa using h1
      rw [hb2 rfl, hk1 rfl, Bool.true_and]
      by_cases q : l[0]? = some 47
      · rw [decide_eq_true q, Bool.true_and]
        cases e : (digL (l.drop 1) 15).isSome
        · rw [decide_eq_false]; rintro ⟨_, _, h⟩; cases h
        · rw [decide_eq_true]; exact ⟨this, q, rfl⟩
      · rw [decide_eq_false q, Bool.false_and, decide_eq_false (fun h => q h.2.1)]
  have eC : (n3 && (c2 && k3)) = decide (3 < l.length ∧ l.take 3 = [35, 49, 47] ∧ (digL (l.drop 3) 13).isSome = true) := by
    cases n3
    · have : ¬ 3 < l.length := by simpa using h3
      rw [decide_eq_false (fun h => this h.1)]; rfl
    · have : 3 < l.length := by simpa using h3
      rw [hc2 rfl, hk3 rfl, Bool.true_and]
      by_cases q : l.take 3 = [35, 49, 47]
      · rw [decide_eq_true q, Bool.true_and]
        cases e : (digL (l.drop 3) 13).isSome
        · rw [decide_eq_false]; rintro ⟨_, _, h⟩; cases h
        · rw [decide_eq_true]; exact ⟨this, q, rfl⟩
      · rw [decide_eq_false q, Bool.false_and, decide_eq_false (fun h => q h.2.1)]
  rw [eA, eB, eC, hv, hs]
  by_cases A : 1 < l.length ∧ l[l.length - 1]? = some 47 ∧ validL (l.take (l.length - 1)) = true
  · rw [if_pos (decide_eq_true A), if_pos A, hP (by rw [h1]; exact decide_eq_true A.1)]
  · rw [if_neg (by rw [decide_eq_false A]; decide), if_neg A]
    by_cases Bq : 1 < l.length ∧ l[0]? = some 47 ∧ (digL (l.drop 1) 15).isSome = true
    · rw [if_pos (decide_eq_true Bq), if_pos Bq, hv1 (by rw [h1]; exact decide_eq_true Bq.1)]; rfl
    · rw [if_neg (by rw [decide_eq_false Bq]; decide), if_neg Bq]
      by_cases Cq : 3 < l.length ∧ l.take 3 = [35, 49, 47] ∧ (digL (l.drop 3) 13).isSome = true
      · rw [if_pos (decide_eq_true Cq), if_pos Cq, hv3 (by rw [h3]; exact decide_eq_true Cq.1)]; rfl
      · rw [if_neg (by rw [decide_eq_false Cq]; decide), if_neg Cq]; rfl
theorem beq47 (c : UInt8) (l : List UInt8) (j : Nat) (h : l[j]? = some c) : (((c.toNat : Nat) : Int) == 47) = decide (l[j]? = some 47) := by
  rw [h]
  by_cases e : c = 47
  · rw [e]; rfl
  · have : ¬ c.toNat = 47 := fun hc => e (UInt8.toNat_inj.1 hc)
    rw [decide_eq_false (fun hh => e (Option.some.inj hh))]
    simp; omega
theorem rread_c (s : ByteArray) (w : World) (hm : s.size ≤ maxLen) :
    Calls Tryz.prog 90 #[.string s] w fun e w' => e = .returned (.tuple #[flV (readL s.data.toList).1, .int .i64 (readL s.data.toList).2]) ∧ Below w.heap.size w w' := by
  have hl : s.data.toList.length = s.size := by simp
  unfold readL
  by_cases h16 : 16 < s.data.toList.length
  · rw [if_pos h16]; exact read_long s w hm (by omega)
  rw [if_neg h16]
  by_cases q1 : s.data.toList = [47]
  · rw [if_pos q1, is_lit s _ q1]; exact read_47 w
  rw [if_neg q1]
  by_cases q2 : s.data.toList = fSYM64
  · rw [if_pos q2, is_lit s _ q2]; exact read_SYM64 w
  rw [if_neg q2]
  by_cases q3 : s.data.toList = [47, 47]
  · rw [if_pos q3, is_lit s _ q3]; exact read_slashes w
  rw [if_neg q3]
  by_cases q4 : s.data.toList = fSYMDEF
  · rw [if_pos q4, is_lit s _ q4]; exact read_SYMDEF w
  rw [if_neg q4]
  have c16 : decide ((16 : Int) < (s.size : Int)) = false := by simp; omega
  have HV : Hid (∀ (g : ByteArray) (w : World), g.size ≤ 16 → Calls Tryz.prog 113 #[.string g] w fun e w' => e = .returned (.bool ((fun g : ByteArray => validL g.data.toList) g)) ∧ w' = w) := fun g w hg => rvalid_c g w (by unfold maxLen; omega)
  have HD1 : Hid (∀ (g : ByteArray) (k : Int) (w : World), g.size ≤ 16 → k = 15 ∨ k = 13 → Calls Tryz.prog 114 #[.string g, .int .i64 k] w fun e w' => e = .returned (.tuple #[.int .i64 ((fun (g : ByteArray) (k : Int) => (((digL g.data.toList k.toNat).getD 0 : Nat) : Int)) g k), .bool ((fun (g : ByteArray) (k : Int) => (digL g.data.toList k.toNat).isSome) g k)]) ∧ w' = w) := fun g k w hg hk => by
    rcases hk with rfl | rfl
    · exact rdigits_c g 15 w (by unfold maxLen; omega) (by omega)
    · exact rdigits_c g 13 w (by unfold maxLen; omega) (by omega)
  have e1 := ne_lit s _ q1
  have e2 := ne_lit s _ q2
  have e3 := ne_lit s _ q3
  have e4 := ne_lit s _ q4
  by_cases h1 : 1 < s.size
  rotate_left
  · have hx := read_few s w hm c16 e1 e2 e3 e4 _ HV (by omega) (by simp; omega) (by simp; omega)
    rw [rest_is s.data.toList false false false false false false false false _ s s 0 0 (decide_eq_false (by omega)).symm (fun h => by cases h) (fun h => by cases h) (fun h => by cases h) (fun h => by cases h) (fun h => by cases h) (fun h => by cases h) (decide_eq_false (by omega)).symm (fun h => by cases h) (fun h => by cases h) (fun h => by cases h) rfl (strL_of s).symm] at hx
    exact hx
  have hix := idx s (s.size - 1) (by omega)
  have hxa := beq47 _ _ _ (at_some s (s.size - 1) (by omega))
  rw [show ((s.size - 1 : Nat) : Int) = (s.size : Int) - 1 from by omega] at hix
  have hiy := idx s 0 (by omega)
  have hyb := beq47 _ _ _ (at_some s 0 (by omega))
  have sP := slice_to s (s.size - 1) (by omega)
  rw [show ((s.size - 1 : Nat) : Int) = (s.size : Int) - 1 from by omega] at sP
  have sD := slice_at s 1 (by omega)
  by_cases h3 : 3 < s.size
  · have sT := slice_to s 3 (by omega)
    have sE := slice_at s 3 (by omega)
    have hT : ((strL (s.data.toList.take 3)).toList == [35, 49, 47]) = decide (s.data.toList.take 3 = [35, 49, 47]) := by
      rw [Lib.toList_data, strL_data]
      by_cases h : s.data.toList.take 3 = [35, 49, 47]
      · rw [h]; rfl
      · rw [decide_eq_false h]; simpa using h
    have hx := read_three s w hm c16 e1 e2 e3 e4 _ HV (by omega) _ (by rw [strL_size, List.length_take]; omega) _ _ _ hix hxa sP _ _ _ _ (by rw [strL_size, List.length_drop]; omega) hiy hyb sD HD1 _ _ _ (by rw [strL_size, List.length_drop]; omega) sT hT sE (by simp; omega) (by simp; omega)
    rw [rest_is s.data.toList true _ _ _ _ true _ _ _ _ s _ _ (decide_eq_true (by omega)).symm (fun _ => by rw [hl]) (fun _ => by rw [strL_data, hl]) (fun _ => by rw [hl]) (fun _ => rfl) (fun _ => by rw [strL_data]; rfl) (fun _ => by rw [strL_data]; rfl) (decide_eq_true (by omega)).symm (fun _ => rfl) (fun _ => by rw [strL_data]; rfl) (fun _ => by rw [strL_data]; rfl) rfl (strL_of s).symm] at hx
    exact hx
  · have hx := read_two s w hm c16 e1 e2 e3 e4 _ HV (by omega) _ (by rw [strL_size, List.length_take]; omega) _ _ _ hix hxa sP _ _ _ _ (by rw [strL_size, List.length_drop]; omega) hiy hyb sD HD1 (by simp; omega) (by simp; omega)
    rw [rest_is s.data.toList true _ _ _ _ false false false _ _ s _ 0 (decide_eq_true (by omega)).symm (fun _ => by rw [hl]) (fun _ => by rw [strL_data, hl]) (fun _ => by rw [hl]) (fun _ => rfl) (fun _ => by rw [strL_data]; rfl) (fun _ => by rw [strL_data]; rfl) (decide_eq_false (by omega)).symm (fun h => by cases h) (fun h => by cases h) (fun h => by cases h) rfl (strL_of s).symm] at hx
    exact hx
end Go.Proofs.YtnfplepaejjmfaaGreatDoor
