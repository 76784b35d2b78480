
-- nm.Sort's closure, walked.
import Derived.Test.YtbmdclgndlddbaaSK
namespace Go.Proofs.Ytbmdclgndlddbaa
open Go.ChangeShapes Go.WideShapes Go.ChangeAt Go.RowKit Go.Sort
set_option linter.unusedVariables false
set_option maxRecDepth 100000
def rwV (x : Rw) : Value := .agg #[.string x.nm, .int .i64 x.bd, .int .i64 x.ty, .int .i64 x.ot, .int .i64 x.sc, .int .u64 x.va, .int .u64 x.sz, .int .u8 x.lt]
theorem rwV_eq (x : Rw) : Value.agg (rwL x).toArray = rwV x := rfl
def rwO (x : Rw) : Obj := .cells #[.string x.nm, .int .i64 x.bd, .int .i64 x.ty, .int .i64 x.ot, .int .i64 x.sc, .int .u64 x.va, .int .u64 x.sz, .int .u8 x.lt] 31
theorem rw_cells {w : World} {b : Nat} {x : Rw} (h : w.heap[b]? = some (rwO x)) : w.cell? ⟨b, 0, none⟩ = some (.string x.nm) ∧ w.cell? ⟨b, 1, none⟩ = some (.int .i64 x.bd) ∧ w.cell? ⟨b, 2, none⟩ = some (.int .i64 x.ty) ∧ w.cell? ⟨b, 3, none⟩ = some (.int .i64 x.ot) ∧ w.cell? ⟨b, 4, none⟩ = some (.int .i64 x.sc) ∧ w.cell? ⟨b, 5, none⟩ = some (.int .u64 x.va) ∧ w.cell? ⟨b, 6, none⟩ = some (.int .u64 x.sz) ∧ w.cell? ⟨b, 7, none⟩ = some (.int .u8 x.lt) :=
  ⟨cell_rowK h 0 _ rfl, cell_rowK h 1 _ rfl, cell_rowK h 2 _ rfl, cell_rowK h 3 _ rfl, cell_rowK h 4 _ rfl, cell_rowK h 5 _ rfl, cell_rowK h 6 _ rfl, cell_rowK h 7 _ rfl⟩
set_option maxHeartbeats 4000000 in
theorem undef_c (x y : Rw) (w : World) : Calls Try.prog 17 #[rwV x, rwV y] w fun e w' => e = .returned (.int .i64 (cU x y)) ∧ Gr w w' := by
  obtain ⟨X, hX⟩ : ∃ X, X = rwO x := ⟨_, rfl⟩
  obtain ⟨Y, hY⟩ : ∃ Y, Y = rwO y := ⟨_, rfl⟩
  obtain ⟨w1, hw1⟩ : ∃ w1, w1 = (w.alloc X).alloc Y := ⟨_, rfl⟩
  have x0 : w1.heap[w.heap.size]? = some (rwO x) := by rw [hw1]; exact hupK (by rw [heap_alloc_new, hX]) Y
  have y0 : w1.heap[w.heap.size + 1]? = some (rwO y) := by rw [hw1, heap_new2K, hY]
  obtain ⟨_, _, _, _, a4, _⟩ := rw_cells x0
  obtain ⟨_, _, _, _, b4, _⟩ := rw_cells y0
  have HG : Hid (Gr w w1) := by rw [hw1]; exact ((Gr.refl w).alloc X).alloc Y
  unfold rwO at hX hY
  obtain ⟨r, hr⟩ : ∃ r, r = cU x y := ⟨_, rfl⟩
  rw [← hr]
  have HR := hidK hr
  unfold rwV
  clear x0 y0 hr
  subst hX hY
  go_enter Try.func17, Try.ntmps17
  go_upto_region 1 with fail
  rw [← hw1]
  clear hw1
  by_cases h1 : x.sc = 0
  · by_cases h2 : y.sc = 0
    · have e : r = 0 := by rw [HR.out]; unfold cU; rw [if_neg (fun h => h.2 h2), if_neg (fun h => h.1 h1)]
      subst e
      go_wp2
      go_ret
      exact ⟨rfl, HG.out⟩
    · have e : r = -1 := by rw [HR.out]; unfold cU; rw [if_pos ⟨h1, h2⟩]
      subst e
      go_wp2
      go_ret
      exact ⟨rfl, HG.out⟩
  · by_cases h2 : y.sc = 0
    · have e : r = 1 := by rw [HR.out]; unfold cU; rw [if_neg (fun h => h1 h.1), if_pos ⟨h1, h2⟩]
      subst e
      go_wp2
      go_ret
      exact ⟨rfl, HG.out⟩
    · have e : r = 0 := by rw [HR.out]; unfold cU; rw [if_neg (fun h => h1 h.1), if_neg (fun h => h2 h.2)]
      subst e
      have h3 : (x.sc == 0) = false := by simp [h1]
      have h4 : (y.sc == 0) = false := by simp [h2]
      have h5 : (x.sc != 0 && y.sc == 0) = false := by simp [h2]
      go_wp2
      go_ret
      exact ⟨rfl, HG.out⟩
theorem or_two (a b : Int) : orL [a, b] = or2 a b := by
  unfold orL or2
  by_cases h : a = 0
  · by_cases h2 : b = 0 <;> simp [List.find?, h, h2]
  · simp [List.find?, h]
theorem or_three (a b c : Int) : orL [a, b, c] = or2 a (or2 b c) := by
  unfold orL or2
  by_cases h : a = 0
  · by_cases h2 : b = 0
    · by_cases h3 : c = 0 <;> simp [List.find?, h, h2, h3]
    · simp [List.find?, h, h2]
  · simp [List.find?, h]
set_option maxHeartbeats 8000000 in
theorem clos_c (num : Bool) (B : Nat) (x y : Rw) (w : World) (hB : w.cell? ⟨B, 2, none⟩ = some (.bool num)) :
    Calls Try.prog 13 #[rwV x, rwV y, .pointer (some ⟨B, 0, none⟩)] w fun e w' => e = .returned (.int .i64 (cfR num x y)) ∧ Gr w w' := by
  obtain ⟨X, hX⟩ : ∃ X, X = rwO x := ⟨_, rfl⟩
  obtain ⟨Y, hY⟩ : ∃ Y, Y = rwO y := ⟨_, rfl⟩
  obtain ⟨w1, hw1⟩ : ∃ w1, w1 = (w.alloc X).alloc Y := ⟨_, rfl⟩
  have x0 : w1.heap[w.heap.size]? = some (rwO x) := by rw [hw1]; exact hupK (by rw [heap_alloc_new, hX]) Y
  have y0 : w1.heap[w.heap.size + 1]? = some (rwO y) := by rw [hw1, heap_new2K, hY]
  have hg : Gr w w1 := by rw [hw1]; exact ((Gr.refl w).alloc X).alloc Y
  have hB1 := cell_onG hB hg.below
  obtain ⟨a0, a1, a2, a3, a4, a5, a6, a7⟩ := rw_cells x0
  obtain ⟨b0, b1, b2, b3, b4, b5, b6, b7⟩ := rw_cells y0
  have HS : Hid (∀ W, Calls Try.prog 14 #[.string x.nm, .string y.nm] W fun e w' => e = .returned (.int .i64 (cN x y)) ∧ w' = W) := fun W => cmpS_c x.nm y.nm W
  have HU : Hid (∀ W, Calls Try.prog 15 #[.int .u64 x.va, .int .u64 y.va] W fun e w' => e = .returned (.int .i64 (cV x y)) ∧ w' = W) := fun W => cmpU_c x.va y.va W
  have HG := hidK hg
  have HUN : Hid (∀ W, Calls Try.prog 17 #[rwV x, rwV y] W fun e w' => e = .returned (.int .i64 (cU x y)) ∧ Gr W w') := fun W => undef_c x y W
  unfold rwO at hX hY
  unfold rwV at HUN ⊢
  obtain ⟨r, hr⟩ : ∃ r, r = cfR num x y := ⟨_, rfl⟩
  obtain ⟨p, hp⟩ : ∃ p, p = cN x y := ⟨_, rfl⟩
  obtain ⟨q, hq⟩ : ∃ p, p = cV x y := ⟨_, rfl⟩
  obtain ⟨u, hu⟩ : ∃ p, p = cU x y := ⟨_, rfl⟩
  rw [← hr]
  have HR : Hid (r = if num = true then or2 u (or2 q p) else or2 p q) := by show _ = _; rw [hr, hp, hq, hu]; rfl
  rw [← hp] at HS
  rw [← hq] at HU
  rw [← hu] at HUN
  clear x0 y0 hg hB hr hp hq hu
  subst hX hY
  go_enter Try.func13, Try.ntmps13
  go_upto_region 1 with fail
  rw [← hw1]
  clear hw1
  go_quiet (first
    | (go_at_call 14; exact Calls.quiet_of_same (HS.out _))
    | (go_at_call 15; exact Calls.quiet_of_same (HU.out _)))
  have HG2 : Hid (Gr w (w1.drewN nq)) := HG.out.drewN nq
  cases num with
  | false =>
    have HOR : Hid (Calls Try.prog 16 #[.slice (some ⟨(w1.drewN nq).heap.size, 0, none⟩) 2 2] ((w1.drewN nq).alloc (.cells #[.int .i64 p, .int .i64 q] 3)) fun e w' => e = .returned (.int .i64 r) ∧ w' = (w1.drewN nq).alloc (.cells #[.int .i64 p, .int .i64 q] 3)) := by
      have hrow : RowI ((w1.drewN nq).alloc (.cells #[.int .i64 p, .int .i64 q] 3)) (.slice (some ⟨(w1.drewN nq).heap.size, 0, none⟩) 2 2) [p, q] := by
        refine ⟨_, 2, rfl, by simp, by decide, by simp, fun _ => ⟨_, 0, rfl, fun j v hv => ?_⟩⟩
        have := new_rowK (w1.drewN nq) #[.int .i64 p, .int .i64 q] 3 _ rfl j v hv
        rw [Addr.add_mid] at this
        exact this
      have := or_c _ [p, q] _ hrow (by simp)
      rw [or_two] at this
      rw [HR.out]
      exact this
    clear HUN HS HU
    go_wp2_with (go_at_call 16; refine HOR.out.mono ?_; rintro e w2 ⟨rfl, rfl⟩)
    go_ret
    exact ⟨rfl, HG2.out.alloc _⟩
  | true =>
    have HA := hidK (HUN.out (w1.drewN nq))
    have HOR : Hid (∀ W : World, Calls Try.prog 16 #[.slice (some ⟨W.heap.size, 0, none⟩) 3 3] (W.alloc (.cells #[.int .i64 u, .int .i64 q, .int .i64 p] 3)) fun e w' => e = .returned (.int .i64 r) ∧ w' = W.alloc (.cells #[.int .i64 u, .int .i64 q, .int .i64 p] 3)) := fun W => by
      have hrow : RowI (W.alloc (.cells #[.int .i64 u, .int .i64 q, .int .i64 p] 3)) (.slice (some ⟨W.heap.size, 0, none⟩) 3 3) [u, q, p] := by
        refine ⟨_, 3, rfl, by simp, by decide, by simp, fun _ => ⟨_, 0, rfl, fun j v hv => ?_⟩⟩
        have := new_rowK W #[.int .i64 u, .int .i64 q, .int .i64 p] 3 _ rfl j v hv
        rw [Addr.add_mid] at this
        exact this
      have := or_c _ [u, q, p] _ hrow (by simp)
      rw [or_three] at this
      rw [HR.out]
      exact this
    clear HS HU HUN
    go_wp2_with (first
      | (go_at_call 17; refine HA.out.mono ?_; rintro e w2 ⟨rfl, hg2⟩; have HG3 := hidK hg2; clear hg2)
      | (go_at_call 16; refine (HOR.out _).mono ?_; rintro e w3 ⟨rfl, rfl⟩))
    go_ret
    exact ⟨rfl, (HG2.out.trans HG3.out).alloc _⟩
end Go.Proofs.Ytbmdclgndlddbaa
