
-- head.readNumbers: a contract.
import Derived.Test.YtnfplepaejjmfaaGreatDoorX1
import Derived.Laws.ResultCell
namespace Go.Proofs.YtnfplepaejjmfaaGreatDoor
open Go.ChangeShapes Go.WideShapes Go.ChangeAt Go.RowKit
set_option linter.unusedVariables false
set_option maxRecDepth 100000

theorem results_cell_tmp_rowX {P : Program} {fn : Func} {p u : Tmp} {ty : TypeId} (h : fn.results = #[.cell p ty, .tmp u]) (tmps : Array Value) (w : World) (g : Nat) (t : TypeId) (cs : Array Value) (fr : Nat × Nat) (d : TypeDesc) (x : Value)
    (hp : tmps.getD p undef = .pointer (some ⟨g, 0, none⟩)) (hx : tmps.getD u undef = x) (hg : w.heap[g]? = some (.cells cs t fr))
    (hu : P.underlying ty = some d) (hd : (match d with | .struct _ | .array _ _ => true | _ => false) = true) (hi : (P.info? ty).map (·.size) = some cs.size) :
    (results fn tmps).run P w = .ok (.tuple #[.agg cs, x]) w := by
  rw [results_cell_tmp h, hp, hx]
  simp [asAddr, Result.andThen, run_loadVar_row w g t ty cs fr d hg hu hd hi]
theorem heap_new2 (w : World) (o o' : Obj) : ((w.alloc o).alloc o').heap[w.heap.size + 1]? = some o' := by
  have h := heap_alloc_new (w.alloc o) o'
  rwa [World.size_alloc] at h
def zN : Array Value := #[.int .i64 0, .int .i64 0, .int .i64 0, .int .i64 0, .int .i64 0, .int .i64 0, .int .i64 0]
def rdW (f0 f1 f2 f3 f4 f5 f6 : ByteArray) (v1 v2 v3 v4 v5 : Int) (w : World) : Nat → World
  | 0 => (w.alloc (.cells #[.string f0, .string f1, .string f2, .string f3, .string f4, .string f5, .string f6] 117)).alloc (.cells #[.int .i64 0, .int .i64 0, .int .i64 0, .int .i64 0, .int .i64 0, .int .i64 0, .int .i64 0] 120)
  | 1 => ((w.alloc (.cells #[.string f0, .string f1, .string f2, .string f3, .string f4, .string f5, .string f6] 117)).alloc (.cells #[.int .i64 0, .int .i64 0, .int .i64 0, .int .i64 0, .int .i64 0, .int .i64 0, .int .i64 0] 120)).alloc (.cells #[.int .i64 0, .int .i64 16, .int .i64 0] 147)
  | 2 => (((w.alloc (.cells #[.string f0, .string f1, .string f2, .string f3, .string f4, .string f5, .string f6] 117)).alloc (.cells #[.int .i64 0, .int .i64 v1, .int .i64 0, .int .i64 0, .int .i64 0, .int .i64 0, .int .i64 0] 120)).alloc (.cells #[.int .i64 0, .int .i64 16, .int .i64 0] 147)).alloc (.cells #[.int .i64 16, .int .i64 12, .int .i64 10] 147)
  | 3 => ((((w.alloc (.cells #[.string f0, .string f1, .string f2, .string f3, .string f4, .string f5, .string f6] 117)).alloc (.cells #[.int .i64 0, .int .i64 v1, .int .i64 v2, .int .i64 0, .int .i64 0, .int .i64 0, .int .i64 0] 120)).alloc (.cells #[.int .i64 0, .int .i64 16, .int .i64 0] 147)).alloc (.cells #[.int .i64 16, .int .i64 12, .int .i64 10] 147)).alloc (.cells #[.int .i64 28, .int .i64 6, .int .i64 10] 147)
  | 4 => (((((w.alloc (.cells #[.string f0, .string f1, .string f2, .string f3, .string f4, .string f5, .string f6] 117)).alloc (.cells #[.int .i64 0, .int .i64 v1, .int .i64 v2, .int .i64 v3, .int .i64 0, .int .i64 0, .int .i64 0] 120)).alloc (.cells #[.int .i64 0, .int .i64 16, .int .i64 0] 147)).alloc (.cells #[.int .i64 16, .int .i64 12, .int .i64 10] 147)).alloc (.cells #[.int .i64 28, .int .i64 6, .int .i64 10] 147)).alloc (.cells #[.int .i64 34, .int .i64 6, .int .i64 10] 147)
  | 5 => ((((((w.alloc (.cells #[.string f0, .string f1, .string f2, .string f3, .string f4, .string f5, .string f6] 117)).alloc (.cells #[.int .i64 0, .int .i64 v1, .int .i64 v2, .int .i64 v3, .int .i64 v4, .int .i64 0, .int .i64 0] 120)).alloc (.cells #[.int .i64 0, .int .i64 16, .int .i64 0] 147)).alloc (.cells #[.int .i64 16, .int .i64 12, .int .i64 10] 147)).alloc (.cells #[.int .i64 28, .int .i64 6, .int .i64 10] 147)).alloc (.cells #[.int .i64 34, .int .i64 6, .int .i64 10] 147)).alloc (.cells #[.int .i64 40, .int .i64 8, .int .i64 8] 147)
  | 6 => (((((((w.alloc (.cells #[.string f0, .string f1, .string f2, .string f3, .string f4, .string f5, .string f6] 117)).alloc (.cells #[.int .i64 0, .int .i64 v1, .int .i64 v2, .int .i64 v3, .int .i64 v4, .int .i64 v5, .int .i64 0] 120)).alloc (.cells #[.int .i64 0, .int .i64 16, .int .i64 0] 147)).alloc (.cells #[.int .i64 16, .int .i64 12, .int .i64 10] 147)).alloc (.cells #[.int .i64 28, .int .i64 6, .int .i64 10] 147)).alloc (.cells #[.int .i64 34, .int .i64 6, .int .i64 10] 147)).alloc (.cells #[.int .i64 40, .int .i64 8, .int .i64 8] 147)).alloc (.cells #[.int .i64 48, .int .i64 10, .int .i64 10] 147)
  | _ => ((((((((w.alloc (.cells #[.string f0, .string f1, .string f2, .string f3, .string f4, .string f5, .string f6] 117)).alloc (.cells #[.int .i64 0, .int .i64 v1, .int .i64 v2, .int .i64 v3, .int .i64 v4, .int .i64 v5, .int .i64 0] 120)).alloc (.cells #[.int .i64 0, .int .i64 16, .int .i64 0] 147)).alloc (.cells #[.int .i64 16, .int .i64 12, .int .i64 10] 147)).alloc (.cells #[.int .i64 28, .int .i64 6, .int .i64 10] 147)).alloc (.cells #[.int .i64 34, .int .i64 6, .int .i64 10] 147)).alloc (.cells #[.int .i64 40, .int .i64 8, .int .i64 8] 147)).alloc (.cells #[.int .i64 48, .int .i64 10, .int .i64 10] 147)).alloc (.cells #[.int .i64 58, .int .i64 2, .int .i64 0] 147)
set_option maxHeartbeats 2000000 in
theorem readNumbers_c (f0 f1 f2 f3 f4 f5 f6 : ByteArray) (v1 v2 v3 v4 v5 e1 e2 e3 e4 e5 : Int) (w : World) (hC : Cols w)
    (H1 : Hid (∀ w, Calls Tryz.prog 79 #[.string f1] w fun e w' => e = .returned (.tuple #[.int .i64 v1, .int .i64 e1]) ∧ w' = w))
    (H2 : Hid (∀ w, Calls Tryz.prog 79 #[.string f2] w fun e w' => e = .returned (.tuple #[.int .i64 v2, .int .i64 e2]) ∧ w' = w))
    (H3 : Hid (∀ w, Calls Tryz.prog 79 #[.string f3] w fun e w' => e = .returned (.tuple #[.int .i64 v3, .int .i64 e3]) ∧ w' = w))
    (H4 : Hid (∀ w, Calls Tryz.prog 78 #[.string f4] w fun e w' => e = .returned (.tuple #[.int .i64 v4, .int .i64 e4]) ∧ w' = w))
    (H5 : Hid (∀ w, Calls Tryz.prog 79 #[.string f5] w fun e w' => e = .returned (.tuple #[.int .i64 v5, .int .i64 e5]) ∧ w' = w)) :
    Calls Tryz.prog 58 #[.agg #[.string f0, .string f1, .string f2, .string f3, .string f4, .string f5, .string f6]] w fun e w' => (e1 = 0 ∧ e2 = 0 ∧ e3 = 0 ∧ e4 = 0 ∧ e5 = 0 ∧ e = .returned (.tuple #[.agg #[.int .i64 0, .int .i64 v1, .int .i64 v2, .int .i64 v3, .int .i64 v4, .int .i64 v5, .int .i64 0], .int .i64 0]) ∧ Below w.heap.size w w') ∨ (¬ (e1 = 0 ∧ e2 = 0 ∧ e3 = 0 ∧ e4 = 0 ∧ e5 = 0) ∧ (∃ x : Int, ¬ x = 0 ∧ e = .returned (.tuple #[.agg zN, .int .i64 x])) ∧ Below w.heap.size w w') := by
  have hl := ((hC.alloc (.cells #[.string f0, .string f1, .string f2, .string f3, .string f4, .string f5, .string f6] 117)).alloc (.cells zN 120)).range
  unfold zN at hl
  clear hC
  go_enter Tryz.func58, Tryz.ntmps58
  go_wp2_with (refine wpList_load_mid rfl _ _ rfl 0 0 rfl colL _ hl Tryz.underlying148 rfl (by kernel_rfl) ?_)
  clear hl
  go_loopw [3, 7] (fun c i wx => ∃ k : Nat, k ≤ 7 ∧ i = .int .i64 k ∧ c = .int .i64 0 ∧ wx = rdW f0 f1 f2 f3 f4 f5 f6 v1 v2 v3 v4 v5 w k ∧ (1 < k → e1 = 0) ∧ (2 < k → e2 = 0) ∧ (3 < k → e3 = 0) ∧ (4 < k → e4 = 0) ∧ (5 < k → e5 = 0)) (fun _ i _ => 7 - (intOf i).toNat)
  case atStart => exact ⟨0, by omega, rfl, rfl, rfl, by omega, by omega, by omega, by omega, by omega⟩
  case round =>
    obtain ⟨k, hk, rfl, rfl, rfl, q1, q2, q3, q4, q5⟩ := hrel
    have hc : k = 0 ∨ k = 1 ∨ k = 2 ∨ k = 3 ∨ k = 4 ∨ k = 5 ∨ k = 6 ∨ k = 7 := by omega
    clear hk
    rcases hc with rfl | rfl | rfl | rfl | rfl | rfl | rfl | rfl
    · have hi := col_0
      have HQ : Hid ((1 < 0 → e1 = 0) ∧ (2 < 0 → e2 = 0) ∧ (3 < 0 → e3 = 0) ∧ (4 < 0 → e4 = 0) ∧ (5 < 0 → e5 = 0)) := ⟨q1, q2, q3, q4, q5⟩
      clear q1 q2 q3 q4 q5
      simp only [rdW]
      go_wp2
      go_roundw
      case rel => exact ⟨1, by omega, rfl, rfl, rfl, fun h => HQ.out.1 (by omega), fun h => HQ.out.2.1 (by omega), fun h => HQ.out.2.2.1 (by omega), fun h => HQ.out.2.2.2.1 (by omega), fun h => HQ.out.2.2.2.2 (by omega)⟩
      case measure => simp [intOf]
    · have hi := col_1
      have HQ : Hid ((1 < 1 → e1 = 0) ∧ (2 < 1 → e2 = 0) ∧ (3 < 1 → e3 = 0) ∧ (4 < 1 → e4 = 0) ∧ (5 < 1 → e5 = 0)) := ⟨q1, q2, q3, q4, q5⟩
      clear q1 q2 q3 q4 q5
      simp only [rdW]
      by_cases he : e1 = 0
      · have HE : Hid (e1 = 0) := he
        have hb : (e1 != 0) = false := by simp [he]
        clear he
        go_wp2_with (go_at_call 79; refine (H1.out _).mono ?_; rintro e w1 ⟨rfl, hw1⟩; subst w1)
        go_roundw
        case rel => exact ⟨2, by omega, rfl, by rw [HE.out], rfl, fun h => HE.out, fun h => HQ.out.2.1 (by omega), fun h => HQ.out.2.2.1 (by omega), fun h => HQ.out.2.2.2.1 (by omega), fun h => HQ.out.2.2.2.2 (by omega)⟩
        case measure => simp [intOf]
      · have HE : Hid (¬ e1 = 0) := he
        have hb : (e1 != 0) = true := by simp [he]
        clear he
        go_wp2_with (go_at_call 79; refine (H1.out _).mono ?_; rintro e w1 ⟨rfl, hw1⟩; subst w1)
        refine bodyPost_ret (results_cell_tmp_rowX rfl _ _ (w.heap.size + 1) _ _ _ _ _ rfl rfl (hup (hup (heap_new2 _ _ _) _) _) Tryz.underlying120 rfl (by kernel_rfl)) rfl (Or.inr ⟨fun h => HE.out h.1, ⟨_, HE.out, rfl⟩, bup (bup (bup (bup (Below.refl _ _) _) _) _) _⟩)
    · have hi := col_2
      have HQ : Hid ((1 < 2 → e1 = 0) ∧ (2 < 2 → e2 = 0) ∧ (3 < 2 → e3 = 0) ∧ (4 < 2 → e4 = 0) ∧ (5 < 2 → e5 = 0)) := ⟨q1, q2, q3, q4, q5⟩
      clear q1 q2 q3 q4 q5
      simp only [rdW]
      by_cases he : e2 = 0
      · have HE : Hid (e2 = 0) := he
        have hb : (e2 != 0) = false := by simp [he]
        clear he
        go_wp2_with (go_at_call 79; refine (H2.out _).mono ?_; rintro e w1 ⟨rfl, hw1⟩; subst w1)
        go_roundw
        case rel => exact ⟨3, by omega, rfl, by rw [HE.out], rfl, fun h => HQ.out.1 (by omega), fun h => HE.out, fun h => HQ.out.2.2.1 (by omega), fun h => HQ.out.2.2.2.1 (by omega), fun h => HQ.out.2.2.2.2 (by omega)⟩
        case measure => simp [intOf]
      · have HE : Hid (¬ e2 = 0) := he
        have hb : (e2 != 0) = true := by simp [he]
        clear he
        go_wp2_with (go_at_call 79; refine (H2.out _).mono ?_; rintro e w1 ⟨rfl, hw1⟩; subst w1)
        refine bodyPost_ret (results_cell_tmp_rowX rfl _ _ (w.heap.size + 1) _ _ _ _ _ rfl rfl (hup (hup (hup (heap_new2 _ _ _) _) _) _) Tryz.underlying120 rfl (by kernel_rfl)) rfl (Or.inr ⟨fun h => HE.out h.2.1, ⟨_, HE.out, rfl⟩, bup (bup (bup (bup (bup (Below.refl _ _) _) _) _) _) _⟩)
    · have hi := col_3
      have HQ : Hid ((1 < 3 → e1 = 0) ∧ (2 < 3 → e2 = 0) ∧ (3 < 3 → e3 = 0) ∧ (4 < 3 → e4 = 0) ∧ (5 < 3 → e5 = 0)) := ⟨q1, q2, q3, q4, q5⟩
      clear q1 q2 q3 q4 q5
      simp only [rdW]
      by_cases he : e3 = 0
      · have HE : Hid (e3 = 0) := he
        have hb : (e3 != 0) = false := by simp [he]
        clear he
        go_wp2_with (go_at_call 79; refine (H3.out _).mono ?_; rintro e w1 ⟨rfl, hw1⟩; subst w1)
        go_roundw
        case rel => exact ⟨4, by omega, rfl, by rw [HE.out], rfl, fun h => HQ.out.1 (by omega), fun h => HQ.out.2.1 (by omega), fun h => HE.out, fun h => HQ.out.2.2.2.1 (by omega), fun h => HQ.out.2.2.2.2 (by omega)⟩
        case measure => simp [intOf]
      · have HE : Hid (¬ e3 = 0) := he
        have hb : (e3 != 0) = true := by simp [he]
        clear he
        go_wp2_with (go_at_call 79; refine (H3.out _).mono ?_; rintro e w1 ⟨rfl, hw1⟩; subst w1)
        refine bodyPost_ret (results_cell_tmp_rowX rfl _ _ (w.heap.size + 1) _ _ _ _ _ rfl rfl (hup (hup (hup (hup (heap_new2 _ _ _) _) _) _) _) Tryz.underlying120 rfl (by kernel_rfl)) rfl (Or.inr ⟨fun h => HE.out h.2.2.1, ⟨_, HE.out, rfl⟩, bup (bup (bup (bup (bup (bup (Below.refl _ _) _) _) _) _) _) _⟩)
    · have hi := col_4
      have HQ : Hid ((1 < 4 → e1 = 0) ∧ (2 < 4 → e2 = 0) ∧ (3 < 4 → e3 = 0) ∧ (4 < 4 → e4 = 0) ∧ (5 < 4 → e5 = 0)) := ⟨q1, q2, q3, q4, q5⟩
      clear q1 q2 q3 q4 q5
      simp only [rdW]
      by_cases he : e4 = 0
      · have HE : Hid (e4 = 0) := he
        have hb : (e4 != 0) = false := by simp [he]
        clear he
        go_wp2_with (go_at_call 78; refine (H4.out _).mono ?_; rintro e w1 ⟨rfl, hw1⟩; subst w1)
        go_roundw
        case rel => exact ⟨5, by omega, rfl, by rw [HE.out], rfl, fun h => HQ.out.1 (by omega), fun h => HQ.out.2.1 (by omega), fun h => HQ.out.2.2.1 (by omega), fun h => HE.out, fun h => HQ.out.2.2.2.2 (by omega)⟩
        case measure => simp [intOf]
      · have HE : Hid (¬ e4 = 0) := he
        have hb : (e4 != 0) = true := by simp [he]
        clear he
        go_wp2_with (go_at_call 78; refine (H4.out _).mono ?_; rintro e w1 ⟨rfl, hw1⟩; subst w1)
        refine bodyPost_ret (results_cell_tmp_rowX rfl _ _ (w.heap.size + 1) _ _ _ _ _ rfl rfl (hup (hup (hup (hup (hup (heap_new2 _ _ _) _) _) _) _) _) Tryz.underlying120 rfl (by kernel_rfl)) rfl (Or.inr ⟨fun h => HE.out h.2.2.2.1, ⟨_, HE.out, rfl⟩, bup (bup (bup (bup (bup (bup (bup (Below.refl _ _) _) _) _) _) _) _) _⟩)
    · have hi := col_5
      have HQ : Hid ((1 < 5 → e1 = 0) ∧ (2 < 5 → e2 = 0) ∧ (3 < 5 → e3 = 0) ∧ (4 < 5 → e4 = 0) ∧ (5 < 5 → e5 = 0)) := ⟨q1, q2, q3, q4, q5⟩
      clear q1 q2 q3 q4 q5
      simp only [rdW]
      by_cases he : e5 = 0
      · have HE : Hid (e5 = 0) := he
        have hb : (e5 != 0) = false := by simp [he]
        clear he
        go_wp2_with (go_at_call 79; refine (H5.out _).mono ?_; rintro e w1 ⟨rfl, hw1⟩; subst w1)
        go_roundw
        case rel => exact ⟨6, by omega, rfl, by rw [HE.out], rfl, fun h => HQ.out.1 (by omega), fun h => HQ.out.2.1 (by omega), fun h => HQ.out.2.2.1 (by omega), fun h => HQ.out.2.2.2.1 (by omega), fun h => HE.out⟩
        case measure => simp [intOf]
      · have HE : Hid (¬ e5 = 0) := he
        have hb : (e5 != 0) = true := by simp [he]
        clear he
        go_wp2_with (go_at_call 79; refine (H5.out _).mono ?_; rintro e w1 ⟨rfl, hw1⟩; subst w1)
        refine bodyPost_ret (results_cell_tmp_rowX rfl _ _ (w.heap.size + 1) _ _ _ _ _ rfl rfl (hup (hup (hup (hup (hup (hup (heap_new2 _ _ _) _) _) _) _) _) _) Tryz.underlying120 rfl (by kernel_rfl)) rfl (Or.inr ⟨fun h => HE.out h.2.2.2.2, ⟨_, HE.out, rfl⟩, bup (bup (bup (bup (bup (bup (bup (bup (Below.refl _ _) _) _) _) _) _) _) _) _⟩)
    · have hi := col_6
      have HQ : Hid ((1 < 6 → e1 = 0) ∧ (2 < 6 → e2 = 0) ∧ (3 < 6 → e3 = 0) ∧ (4 < 6 → e4 = 0) ∧ (5 < 6 → e5 = 0)) := ⟨q1, q2, q3, q4, q5⟩
      clear q1 q2 q3 q4 q5
      simp only [rdW]
      go_wp2
      go_roundw
      case rel => exact ⟨7, by omega, rfl, rfl, rfl, fun h => HQ.out.1 (by omega), fun h => HQ.out.2.1 (by omega), fun h => HQ.out.2.2.1 (by omega), fun h => HQ.out.2.2.2.1 (by omega), fun h => HQ.out.2.2.2.2 (by omega)⟩
      case measure => simp [intOf]
    · have HQ : Hid (e1 = 0 ∧ e2 = 0 ∧ e3 = 0 ∧ e4 = 0 ∧ e5 = 0) := ⟨q1 (by omega), q2 (by omega), q3 (by omega), q4 (by omega), q5 (by omega)⟩
      clear q1 q2 q3 q4 q5
      simp only [rdW]
      go_wp2
      exact bodyPost_ret (results_cell_tmp_rowX rfl _ _ (w.heap.size + 1) _ _ _ _ _ rfl rfl (hup (hup (hup (hup (hup (hup (hup (heap_new2 _ _ _) _) _) _) _) _) _) _) Tryz.underlying120 rfl (by kernel_rfl)) rfl (Or.inl ⟨HQ.out.1, HQ.out.2.1, HQ.out.2.2.1, HQ.out.2.2.2.1, HQ.out.2.2.2.2, rfl, bup (bup (bup (bup (bup (bup (bup (bup (bup (Below.refl _ _) _) _) _) _) _) _) _) _) _⟩)
end Go.Proofs.YtnfplepaejjmfaaGreatDoor
