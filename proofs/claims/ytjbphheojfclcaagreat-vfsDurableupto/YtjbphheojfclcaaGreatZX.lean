
-- VfsShort's walk.
import Derived.Test.YtjbphheojfclcaaGreatZN
import Derived.Test.YtjbphheojfclcaaGreatZS
import Derived.Deep.CutRange
namespace Go.Proofs.YtjbphheojfclcaaGreat
open Go.ChangeShapes Go.WideShapes Go.ChangeAt Go.RowKit
set_option linter.unusedVariables false
set_option maxRecDepth 100000
variable {PS : (Nat → Prop) → Nat → St → World → Prop}
attribute [local go_sem ↓] Go.wp_at_zero Go.wp_at_succ
theorem short_no (C : PC PS) (c : Int) (hc : c < 0 ∨ 1073741824 < c) (nm od da : ByteArray) (hnm : nm.size ≤ 140737488355328) (n : Int) (w : World) :
    Calls Tryz.prog 4 #[.int .i64 c, .string nm, .string od, .string da, .int .i64 n] w fun e w' => e = .returned (.bool true) ∧ Below w.heap.size w w' := by
  have HFN : Hid (∀ W, Calls Tryz.prog 12 #[.string nm] W fun e w' => e = .returned (.bool (okName nm)) ∧ w' = W) := fun W => lawName_c nm W hnm
  have HN : Hid (∀ W, Calls Tryz.prog 10 #[.int .i64 c] W fun e w' => e = .returned (.pointer none) ∧ Below W.heap.size W w') := fun W => open_no C c W hc
  have HG : Hid (∀ W, Calls Tryz.prog 9 #[.int .i64 c] W fun e w' => e = .returned (.bool false) ∧ w' = W) := fun W => by
    have h := good_c c W
    have e : (decide (0 ≤ c) && decide (c ≤ 1073741824)) = false := by
      rcases hc with h | h
      · have : decide (0 ≤ c) = false := by simp; omega
        rw [this]; rfl
      · have : decide (c ≤ 1073741824) = false := by simp; omega
        rw [this, Bool.and_false]
    rw [e] at h; exact h
  obtain ⟨bn, hbn⟩ : ∃ b, b = okName nm := ⟨_, rfl⟩
  rw [← hbn] at HFN
  clear hc hbn
  go_enter Tryz.func4, Tryz.ntmps4
  go_wp2_with fail
  go_at_call 10
  refine (HN.out _).mono ?_
  rintro e w1 ⟨rfl, hb1⟩
  go_wp2_with fail
  go_at_call 10
  refine (HN.out _).mono ?_
  rintro e w2 ⟨rfl, hb2⟩
  go_wp2_with (first
    | (go_at_call 12; refine (HFN.out _).mono ?_; rintro e w3 ⟨rfl, hw3⟩; subst w3)
    | (go_at_call 9; refine (HG.out _).mono ?_; rintro e w4 ⟨rfl, hw4⟩; subst w4))
  go_returns
  exact ⟨rfl, hb1.trans (hb2.mono hb1.size)⟩
theorem good_yes (c : Nat) (hc : c ≤ 1073741824) (W : World) : Calls Tryz.prog 9 #[.int .i64 (c : Int)] W fun e w' => e = .returned (.bool true) ∧ w' = W := by
  have h := good_c (c : Int) W
  have e : (decide ((0 : Int) ≤ (c : Int)) && decide ((c : Int) ≤ 1073741824)) = true := by
    have h1 : decide ((0 : Int) ≤ (c : Int)) = true := by simp
    have h2 : decide ((c : Int) ≤ 1073741824) = true := by simp; omega
    rw [h1, h2]; rfl
  rw [e] at h; exact h
theorem row_two (w : World) (nm od : ByteArray) : RowV (w.alloc (.cells #[.int .i64 4, .int .i64 0, .string nm, .string ⟨#[]⟩, .int .i64 0, .int .i64 0, .int .i64 0, .int .i64 0, .slice none 0 0, .slice none 0 0, .int .i64 8, .int .i64 0, .string od, .string ⟨#[]⟩, .int .i64 0, .int .i64 0, .int .i64 0, .int .i64 0, .slice none 0 0, .slice none 0 0] 39)) (.slice (some ⟨w.heap.size, 0, none⟩) 2 2) [opk 4 nm, opk 8 od] := by
  have h : (w.alloc (.cells #[.int .i64 4, .int .i64 0, .string nm, .string ⟨#[]⟩, .int .i64 0, .int .i64 0, .int .i64 0, .int .i64 0, .slice none 0 0, .slice none 0 0, .int .i64 8, .int .i64 0, .string od, .string ⟨#[]⟩, .int .i64 0, .int .i64 0, .int .i64 0, .int .i64 0, .slice none 0 0, .slice none 0 0] 39)).heap[w.heap.size]? = some (.cells #[.int .i64 4, .int .i64 0, .string nm, .string ⟨#[]⟩, .int .i64 0, .int .i64 0, .int .i64 0, .int .i64 0, .slice none 0 0, .slice none 0 0, .int .i64 8, .int .i64 0, .string od, .string ⟨#[]⟩, .int .i64 0, .int .i64 0, .int .i64 0, .int .i64 0, .slice none 0 0, .slice none 0 0] 39 (0, 0)) := heap_alloc_new _ _
  refine .inr ⟨w.heap.size, 0, 2, rfl, by simp, fun j o hj => ?_⟩
  match j, hj with
  | 0, hj =>
    cases hj
    exact opk_at h _ 4 nm fun j hj => by match j, hj with
      | 0, _ => rfl
      | 1, _ => rfl
      | 2, _ => rfl
      | 3, _ => rfl
      | 4, _ => rfl
      | 5, _ => rfl
      | 6, _ => rfl
      | 7, _ => rfl
      | 8, _ => rfl
      | 9, _ => rfl
  | 1, hj =>
    cases hj
    exact opk_at h _ 8 od fun j hj => by match j, hj with
      | 0, _ => rfl
      | 1, _ => rfl
      | 2, _ => rfl
      | 3, _ => rfl
      | 4, _ => rfl
      | 5, _ => rfl
      | 6, _ => rfl
      | 7, _ => rfl
      | 8, _ => rfl
      | 9, _ => rfl
theorem row_four (w : World) (nm da : ByteArray) : RowV (w.alloc (.cells #[.int .i64 1, .int .i64 0, .string nm, .string ⟨#[]⟩, .int .i64 0, .int .i64 0, .int .i64 0, .int .i64 0, .slice none 0 0, .slice none 0 0, .int .i64 2, .int .i64 0, .string nm, .string ⟨#[]⟩, .int .i64 0, .int .i64 0, .int .i64 0, .int .i64 0, .slice none 0 0, .slice none 0 0, .int .i64 8, .int .i64 0, .string da, .string ⟨#[]⟩, .int .i64 0, .int .i64 0, .int .i64 0, .int .i64 0, .slice none 0 0, .slice none 0 0, .int .i64 1, .int .i64 0, .string nm, .string ⟨#[]⟩, .int .i64 0, .int .i64 0, .int .i64 0, .int .i64 0, .slice none 0 0, .slice none 0 0] 39)) (.slice (some ⟨w.heap.size, 0, none⟩) 4 4) [opk 1 nm, opk 2 nm, opk 8 da, opk 1 nm] := by
  have h : (w.alloc (.cells #[.int .i64 1, .int .i64 0, .string nm, .string ⟨#[]⟩, .int .i64 0, .int .i64 0, .int .i64 0, .int .i64 0, .slice none 0 0, .slice none 0 0, .int .i64 2, .int .i64 0, .string nm, .string ⟨#[]⟩, .int .i64 0, .int .i64 0, .int .i64 0, .int .i64 0, .slice none 0 0, .slice none 0 0, .int .i64 8, .int .i64 0, .string da, .string ⟨#[]⟩, .int .i64 0, .int .i64 0, .int .i64 0, .int .i64 0, .slice none 0 0, .slice none 0 0, .int .i64 1, .int .i64 0, .string nm, .string ⟨#[]⟩, .int .i64 0, .int .i64 0, .int .i64 0, .int .i64 0, .slice none 0 0, .slice none 0 0] 39)).heap[w.heap.size]? = some (.cells #[.int .i64 1, .int .i64 0, .string nm, .string ⟨#[]⟩, .int .i64 0, .int .i64 0, .int .i64 0, .int .i64 0, .slice none 0 0, .slice none 0 0, .int .i64 2, .int .i64 0, .string nm, .string ⟨#[]⟩, .int .i64 0, .int .i64 0, .int .i64 0, .int .i64 0, .slice none 0 0, .slice none 0 0, .int .i64 8, .int .i64 0, .string da, .string ⟨#[]⟩, .int .i64 0, .int .i64 0, .int .i64 0, .int .i64 0, .slice none 0 0, .slice none 0 0, .int .i64 1, .int .i64 0, .string nm, .string ⟨#[]⟩, .int .i64 0, .int .i64 0, .int .i64 0, .int .i64 0, .slice none 0 0, .slice none 0 0] 39 (0, 0)) := heap_alloc_new _ _
  refine .inr ⟨w.heap.size, 0, 4, rfl, by simp, fun j o hj => ?_⟩
  match j, hj with
  | 0, hj =>
    cases hj
    exact opk_at h _ 1 nm fun j hj => by match j, hj with
      | 0, _ => rfl
      | 1, _ => rfl
      | 2, _ => rfl
      | 3, _ => rfl
      | 4, _ => rfl
      | 5, _ => rfl
      | 6, _ => rfl
      | 7, _ => rfl
      | 8, _ => rfl
      | 9, _ => rfl
  | 1, hj =>
    cases hj
    exact opk_at h _ 2 nm fun j hj => by match j, hj with
      | 0, _ => rfl
      | 1, _ => rfl
      | 2, _ => rfl
      | 3, _ => rfl
      | 4, _ => rfl
      | 5, _ => rfl
      | 6, _ => rfl
      | 7, _ => rfl
      | 8, _ => rfl
      | 9, _ => rfl
  | 2, hj =>
    cases hj
    exact opk_at h _ 8 da fun j hj => by match j, hj with
      | 0, _ => rfl
      | 1, _ => rfl
      | 2, _ => rfl
      | 3, _ => rfl
      | 4, _ => rfl
      | 5, _ => rfl
      | 6, _ => rfl
      | 7, _ => rfl
      | 8, _ => rfl
      | 9, _ => rfl
  | 3, hj =>
    cases hj
    exact opk_at h _ 1 nm fun j hj => by match j, hj with
      | 0, _ => rfl
      | 1, _ => rfl
      | 2, _ => rfl
      | 3, _ => rfl
      | 4, _ => rfl
      | 5, _ => rfl
      | 6, _ => rfl
      | 7, _ => rfl
      | 8, _ => rfl
      | 9, _ => rfl
set_option maxHeartbeats 8000000 in
theorem short_bad (C : PC PS) (c : Nat) (hc : c ≤ 1073741824) (nm od da : ByteArray) (hnm : nm.size ≤ 140737488355328) (hok : okName nm = false) (n : Int) (w : World) :
    Calls Tryz.prog 4 #[.int .i64 (c : Int), .string nm, .string od, .string da, .int .i64 n] w fun e w' => e = .returned (.bool true) ∧ Below w.heap.size w w' := by
  have HFN : Hid (∀ W, Calls Tryz.prog 12 #[.string nm] W fun e w' => e = .returned (.bool false) ∧ w' = W) := fun W => by rw [← hok]; exact lawName_c nm W hnm
  have HG : Hid (∀ W, Calls Tryz.prog 9 #[.int .i64 (c : Int)] W fun e w' => e = .returned (.bool true) ∧ w' = W) := fun W => good_yes c hc W
  have HN : Hid (∀ W, Calls Tryz.prog 10 #[.int .i64 (c : Int)] W fun e w' => ∃ vb, e = .returned (.pointer (some ⟨vb, 0, none⟩)) ∧ VA PS (fun k => W.heap.size ≤ k ∧ k < w'.heap.size) vb (Vl.new c) w' ∧ Below W.heap.size W w') := fun W => open_c C c W hc
  clear hc hok hnm
  go_enter Tryz.func4, Tryz.ntmps4
  go_wp2_with fail
  go_at_call 10
  refine (HN.out _).mono ?_
  rintro e w1 ⟨va, rfl, ha1, hb1⟩
  clear ha1
  go_wp2_with fail
  go_at_call 10
  refine (HN.out _).mono ?_
  rintro e w2 ⟨vb, rfl, ha2, hb2⟩
  clear ha2
  go_wp2_with (first
    | (go_at_call 12; refine (HFN.out _).mono ?_; rintro e w3 ⟨rfl, hw3⟩; subst w3)
    | (go_at_call 9; refine (HG.out _).mono ?_; rintro e w4 ⟨rfl, hw4⟩; subst w4))
  go_returns
  exact ⟨rfl, hb1.trans (hb2.mono hb1.size)⟩
set_option maxRecDepth 20000 in
set_option maxHeartbeats 16000000 in
theorem short_w (C : PC PS) (c : Nat) (hc : c ≤ 1073741824) (nm od da : ByteArray) (hnm : nm.size ≤ 1048576) (hod : od.size ≤ 1048576) (hda : da.size ≤ 1048576) (hok : okName nm = true) (n : Int) (w : World) :
    Calls Tryz.prog 4 #[.int .i64 (c : Int), .string nm, .string od, .string da, .int .i64 n] w fun e w' => e = .returned (.bool true) ∧ Below w.heap.size w w' := by
  have HFN : Hid (∀ W, Calls Tryz.prog 12 #[.string nm] W fun e w' => e = .returned (.bool true) ∧ w' = W) := fun W => by rw [← hok]; exact lawName_c nm W (by omega)
  have HN : Hid (∀ W, Calls Tryz.prog 10 #[.int .i64 (c : Int)] W fun e w' => ∃ vb, e = .returned (.pointer (some ⟨vb, 0, none⟩)) ∧ VA PS (fun k => W.heap.size ≤ k ∧ k < w'.heap.size) vb (Vl.new c) w' ∧ Below W.heap.size W w') := fun W => open_c C c W hc
  have HFX : Hid (Vlf (Vl.new c) 0) := Vlf.new c hc
  have HSZ : Hid (nm.size ≤ 1048576 ∧ od.size ≤ 1048576 ∧ da.size ≤ 1048576) := ⟨hnm, hod, hda⟩
  have HOKN : Hid (okName nm = true) := hok
  clear hc hok hnm hod hda
  go_enter Tryz.func4, Tryz.ntmps4
  go_wp2_with fail
  go_at_call 10
  refine (HN.out _).mono ?_
  rintro e w1 ⟨va, rfl, ha1, hb1⟩
  have HA1 : Hid (VA PS (fun k => w.heap.size ≤ k ∧ k < w1.heap.size) va (Vl.new c) w1 ∧ Below w.heap.size w w1) := ⟨ha1, hb1⟩
  clear ha1 hb1
  go_wp2_with fail
  go_at_call 10
  refine (HN.out _).mono ?_
  rintro e w2 ⟨vb, rfl, ha2, hb2⟩
  obtain ⟨U, hU⟩ : ∃ U : Nat → Prop, U = fun k => (w.heap.size ≤ k ∧ k < w1.heap.size) ∨ (w1.heap.size ≤ k ∧ k < w2.heap.size) := ⟨_, rfl⟩
  have HT0 : Hid (T2D PS U va vb (Vl.new c) (Vl.new c) w2 w2) := by
    rw [hU]
    exact T2D.start (two_open C HA1.out.1 hb2 ha2 fun k h1 h2 => by have := h1.2; have := h2.1; omega)
  have HU : Hid (∀ k, U k → w.heap.size ≤ k) := by
    intro k hk
    rw [hU] at hk
    have h2 := HA1.out.2.size
    rcases hk with hk | hk
    · exact hk.1
    · have := hk.1; omega
  have HB2 : Hid (Below w.heap.size w w2) := HA1.out.2.trans (hb2.mono HA1.out.2.size)
  have HBW : Hid (∀ X Y W, T2D PS U va vb X Y w2 W → Below w.heap.size w W) := fun X Y W h => HB2.out.trans (h.2.below (B := w.heap.size) (fun k hk => HU.out k hk) HB2.out.size)
  clear ha2 hb2 hU HN
  obtain ⟨X, hX⟩ : ∃ X, X = (Vl.new c).plays [(opk 4 nm).c, (opk 8 od).c] := ⟨_, rfl⟩
  have HX : Hid (X.hs = [⟨nm, 1, 0, false⟩] ∧ X.v.round = 0 ∧ X.v.plan = [] ∧ X.v.off = false ∧ Vlf X 2) := by
    rw [hX]
    obtain ⟨h1, h2, h3, h4⟩ := began_plain c nm od HOKN.out
    exact ⟨h1, h2, h3, h4, HFX.out.plays _ (by simp)⟩
  have HBO1 : Hid (Calls Tryz.prog 14 #[.pointer (some ⟨va, 0, none⟩), .pointer (some ⟨vb, 0, none⟩), .slice (some ⟨w2.heap.size, 0, none⟩) 2 2] (w2.alloc (.cells #[.int .i64 4, .int .i64 0, .string nm, .string ⟨#[]⟩, .int .i64 0, .int .i64 0, .int .i64 0, .int .i64 0, .slice none 0 0, .slice none 0 0, .int .i64 8, .int .i64 0, .string od, .string ⟨#[]⟩, .int .i64 0, .int .i64 0, .int .i64 0, .int .i64 0, .slice none 0 0, .slice none 0 0] 39)) fun e w' => e = .returned (.bool true) ∧ T2D PS U va vb X X w2 w') := by
    rw [hX]
    exact T2D.both C HT0.out (Sim.refl rfl) HFX.out HFX.out ((Below.refl _ w2).alloc (Nat.le_refl _) _) (row_two w2 nm od) (fun _ k hk hx => by
      simp only [Value.ownBlock, Option.some.injEq] at hk
      have := HT0.out.1.low k hx; omega) (fun o ho => by
      simp at ho
      rcases ho with rfl | rfl
      · exact opk_ok _ _ (by have := HSZ.out.1; omega)
      · exact opk_ok _ _ (by have := HSZ.out.2.1; omega)) (by simp)
  obtain ⟨kk, hkk⟩ : ∃ k, k = bring n da.size := ⟨_, rfl⟩
  have hkl : kk ≤ da.size := by rw [hkk]; unfold bring; omega
  have HPT : Hid (da.extract 0 kk = part da n) := by rw [hkk]; rfl
  have HBR : Hid (∀ w, Calls Tryz.prog 15 #[.int .i64 n, .int .i64 (da.size : Int)] w fun e w' => e = .returned (.int .i64 (kk : Int)) ∧ w' = w) := fun w => by rw [hkk]; exact brought_c n da.size w
  have HPS : Hid (da.size ≤ 1048576 ∧ (part da n).size = kk) := ⟨HSZ.out.2.2, by
    rw [← HPT.out, ByteArray.size_extract]; omega⟩
  have hdz : da.size ≤ 1048576 := HSZ.out.2.2
  clear hX hkk
  go_wp2_with (first
    | (go_at_call 12; refine (HFN.out _).mono ?_; rintro e w3 ⟨rfl, hw3⟩; subst w3)
    | (go_at_call 14; refine HBO1.out.mono ?_; rintro e w4 ⟨rfl, ht4⟩; have HT4 : Hid (T2D PS U va vb X X w2 w4) := ht4; obtain ⟨ao4, c4, hl4⟩ := ht4.1.len1; rw [HX.out.1] at hl4; simp only [List.length_cons, List.length_nil] at hl4; clear ht4)
    | (go_at_call 15; refine (HBR.out _).mono ?_; rintro e w5 ⟨rfl, hw5⟩; subst w5))
  rw [HPT.out]
  obtain ⟨hor, hsim⟩ := short_plain HX.out.2.2.1 HX.out.2.2.2.1 HX.out.1 ⟨rfl, HX.out.2.1.symm⟩ n da
  obtain ⟨X2, hX2⟩ : ∃ Z, Z = (X.call (opk 8 (part da n)).c).2 := ⟨_, rfl⟩
  obtain ⟨Y1, hY1⟩ : ∃ Z, Z = X.arm [⟨1, 2, n⟩] := ⟨_, rfl⟩
  rw [← hX2, ← hY1] at hsim
  rw [← hY1] at hor
  obtain ⟨Y2, hY2⟩ : ∃ Z, Z = (Y1.call (opk 8 da).c).2 := ⟨_, rfl⟩
  rw [← hY2] at hsim
  have hfx2 : Vlf X2 3 := by rw [hX2]; exact HX.out.2.2.2.2.call (by omega) _
  have hfy : Vlf Y1 2 := by rw [hY1]; exact HX.out.2.2.2.2.arm _
  have hfy2 : Vlf Y2 3 := by rw [hY2]; exact hfy.call (by omega) _
  rcases hor with ⟨e, he, hA, hB⟩ | ⟨hA, hB⟩
  · skip
    have HC1 : Hid (Calls Tryz.prog 11 #[.pointer (some ⟨va, 0, none⟩), .agg #[.int .i64 8, .int .i64 0, .string (part da n), .string ⟨#[]⟩, .int .i64 0, .int .i64 0, .int .i64 0, .int .i64 0, .slice none 0 0, .slice none 0 0]] w4 fun r w' => ∃ ao1 c1, r = .returned (.agg #[.string ⟨#[]⟩, .int .i64 0, .int .i64 0, .int .i64 0, .int .i64 0, .int .i64 0, .string ⟨#[]⟩, .int .i64 0, .slice ao1 0 c1, .bool true, .bool false, .string opWrite, .string nm, .int .i64 (e : Nat)]) ∧ T2D PS U va vb X2 X w2 w') := by
      refine (T2D.call1 C HT4.out HX.out.2.2.2.2 (by omega) (opk 8 (part da n)) (opk_ok _ _ (by rw [HPS.out.2]; omega)) (Below.refl _ w4)).mono ?_
      rintro r w' ⟨ao1, c1, rfl, ht, -⟩
      rw [← hX2] at ht
      have hl : (X.call (opk 8 (part da n)).c).1.l.length = 0 := by rw [hA]; rfl
      rw [hl]
      exact ⟨ao1, c1, by rw [hA]; rfl, ht⟩
    have HC2 : Hid (∀ (Ub : Nat → Prop) (wb W : World), T2D PS Ub va vb X2 Y1 wb W → Calls Tryz.prog 11 #[.pointer (some ⟨vb, 0, none⟩), .agg #[.int .i64 8, .int .i64 0, .string da, .string ⟨#[]⟩, .int .i64 0, .int .i64 0, .int .i64 0, .int .i64 0, .slice none 0 0, .slice none 0 0]] W fun r w' => ∃ ao2 c2, r = .returned (.agg #[.string ⟨#[]⟩, .int .i64 0, .int .i64 0, .int .i64 0, .int .i64 0, .int .i64 0, .string ⟨#[]⟩, .int .i64 0, .slice ao2 0 c2, .bool true, .bool false, .string opWrite, .string nm, .int .i64 (e : Nat)]) ∧ T2D PS Ub va vb X2 Y2 wb w') := fun Ub wb W ht0 => by
      refine (T2D.call C ht0 hfy (by omega) (opk 8 da) (opk_ok _ _ (by have := HPS.out.1; omega)) (Below.refl _ W)).mono ?_
      rintro r w' ⟨ao2, c2, rfl, ht⟩
      rw [← hY2] at ht
      have hl : (Y1.call (opk 8 da).c).1.l.length = 0 := by rw [hB]; rfl
      rw [hl]
      exact ⟨ao2, c2, by rw [hB]; rfl, ht⟩
    have HSIM : Hid (Sim X2 (Y2.arm []) ∧ Vlf X2 3 ∧ Vlf Y2 3 ∧ Y1 = X.arm [⟨1, 2, n⟩]) := ⟨hsim, hfx2, hfy2, hY1⟩
    clear hA hB hX2 hY2 hsim hfx2 hfy2 hfy hY1
    refine Calls.mono HC1.out ?_
    rintro r w6 ⟨ao1, c1, rfl, ht6⟩
    obtain ⟨W6, hW6⟩ : ∃ W6, W6 = w6.alloc (.cells #[.string ⟨#[]⟩, .int .i64 0, .int .i64 0, .int .i64 0, .int .i64 0, .int .i64 0, .string ⟨#[]⟩, .int .i64 0, .slice ao1 0 c1, .bool true, .bool false, .string opWrite, .string nm, .int .i64 (e : Nat)] 34) := ⟨_, rfl⟩
    have hb6 : Below w6.heap.size w6 W6 := by rw [hW6]; exact (Below.refl _ w6).alloc (Nat.le_refl _) _
    have HW6 : Hid (T2D PS (ext U w2 w6) va vb X2 X W6 W6 ∧ W6.heap[w6.heap.size]? = some (.cells #[.string ⟨#[]⟩, .int .i64 0, .int .i64 0, .int .i64 0, .int .i64 0, .int .i64 0, .string ⟨#[]⟩, .int .i64 0, .slice ao1 0 c1, .bool true, .bool false, .string opWrite, .string nm, .int .i64 (e : Nat)] 34 (0, 0)) ∧ w6.heap.size < W6.heap.size ∧ ¬ ext U w2 w6 w6.heap.size ∧ (∀ k, ext U w2 w6 k → w.heap.size ≤ k) ∧ Below w.heap.size w W6) := by
      have h1 := HBW.out _ _ _ ht6
      refine ⟨T2D.start (ht6.1.below C hb6), by rw [hW6]; exact new_at rfl, by rw [hW6]; simp, fun h => by have := ht6.1.low _ h; omega, fun k hk => ?_, h1.trans (hb6.mono h1.size)⟩
      rcases hk with hk | hk
      · exact HU.out k hk
      · have := HB2.out.size; omega
    have HE6 : Hid (W6 = w6.alloc (.cells #[.string ⟨#[]⟩, .int .i64 0, .int .i64 0, .int .i64 0, .int .i64 0, .int .i64 0, .string ⟨#[]⟩, .int .i64 0, .slice ao1 0 c1, .bool true, .bool false, .string opWrite, .string nm, .int .i64 (e : Nat)] 34)) := hW6
    obtain ⟨Ub, hUb⟩ : ∃ Ub, Ub = ext U w2 w6 := ⟨_, rfl⟩
    rw [← hUb] at HW6
    obtain ⟨q, hq, fA, -, -⟩ := HW6.out.1.face C
    have HARM : Hid (Calls Tryz.prog 16 #[.pointer (some ⟨q, 0, none⟩), .slice (some ⟨W6.heap.size, 0, none⟩) 1 1] (W6.alloc (.cells #[.int .i64 1, .int .i64 2, .int .i64 n] 52)) fun e w' => e = .returned (.tuple #[]) ∧ T2D PS Ub va vb X2 Y1 W6 w') := by
      rw [HSIM.out.2.2.2]
      exact fA _ [⟨1, 2, n⟩] _ ((Below.refl _ W6).alloc (Nat.le_refl _) _) (rowP_one W6 ⟨1, 2, n⟩) (fun _ k hk => by simp only [Value.ownBlock, Option.some.injEq] at hk; omega) (by simp)
    clear ht6 hb6 hW6 hUb fA hl4 HC1
    go_upto_region 13 with fail
    rw [← HE6.out]
    go_wp2_with fail
    go_at_call 16
    refine HARM.out.mono ?_
    rintro e7 w7 ⟨rfl, ht7⟩
    have HT7 : Hid (T2D PS Ub va vb X2 Y1 W6 w7) := ht7
    clear ht7 HARM hq
    go_wp2_with fail
    go_at_call 11
    refine Calls.mono (HC2.out _ _ _ HT7.out) ?_
    rintro r w8 ⟨ao2, c2, rfl, ht8⟩
    have hbB : Below w8.heap.size w8 (w8.alloc (.cells #[.string ⟨#[]⟩, .int .i64 0, .int .i64 0, .int .i64 0, .int .i64 0, .int .i64 0, .string ⟨#[]⟩, .int .i64 0, .slice ao2 0 c2, .bool true, .bool false, .string opWrite, .string nm, .int .i64 (e : Nat)] 34)) := (Below.refl _ w8).alloc (Nat.le_refl _) _
    have hA8 : (w8.alloc (.cells #[.string ⟨#[]⟩, .int .i64 0, .int .i64 0, .int .i64 0, .int .i64 0, .int .i64 0, .string ⟨#[]⟩, .int .i64 0, .slice ao2 0 c2, .bool true, .bool false, .string opWrite, .string nm, .int .i64 (e : Nat)] 34)).heap[w6.heap.size]? = some (.cells #[.string ⟨#[]⟩, .int .i64 0, .int .i64 0, .int .i64 0, .int .i64 0, .int .i64 0, .string ⟨#[]⟩, .int .i64 0, .slice ao1 0 c1, .bool true, .bool false, .string opWrite, .string nm, .int .i64 (e : Nat)] 34 (0, 0)) := (hbB.block _ (by have := ht8.2.size; have := HW6.out.2.2.1; omega)).trans ((ht8.2.block _ HW6.out.2.2.1 HW6.out.2.2.2.1).trans HW6.out.2.1)
    obtain ⟨⟨x0, x1, x2, x3, x4, x5, x6, x7, x8, x9, x10, x11, x12, x13⟩, -⟩ := at14 hA8
    have HT8 : Hid (T2D PS Ub va vb X2 Y2 W6 (w8.alloc (.cells #[.string ⟨#[]⟩, .int .i64 0, .int .i64 0, .int .i64 0, .int .i64 0, .int .i64 0, .string ⟨#[]⟩, .int .i64 0, .slice ao2 0 c2, .bool true, .bool false, .string opWrite, .string nm, .int .i64 (e : Nat)] 34))) := ht8.below C hbB
    have HAK : Hid (∀ W, Calls Tryz.prog 17 #[.agg #[.string ⟨#[]⟩, .int .i64 0, .int .i64 0, .int .i64 0, .int .i64 0, .int .i64 0, .string ⟨#[]⟩, .int .i64 0, .slice ao1 0 c1, .bool true, .bool false, .string opWrite, .string nm, .int .i64 (e : Nat)], .agg #[.string ⟨#[]⟩, .int .i64 0, .int .i64 0, .int .i64 0, .int .i64 0, .int .i64 0, .string ⟨#[]⟩, .int .i64 0, .slice ao2 0 c2, .bool true, .bool false, .string opWrite, .string nm, .int .i64 (e : Nat)]] W fun r w' => r = .returned (.bool true) ∧ Below W.heap.size W w') := fun W => alike_c { an0 with bad := true, op := opWrite, nm := nm, e := e } ao1 ao2 c1 c2 W (.inl ⟨rfl, ao1, c1, rfl⟩) (.inl ⟨rfl, ao2, c2, rfl⟩) (Nat.zero_le _)
    clear hA8 hbB ht8
    go_wp2_with fail
    go_at_call 17
    refine (HAK.out _).mono ?_
    rintro e9 w9 ⟨rfl, hb9⟩
    have HT9 : Hid (T2D PS Ub va vb X2 Y2 W6 w9) := HT8.out.below C hb9
    obtain ⟨q9, hq9, fA9, -, -⟩ := HT9.out.face C
    have HA9 : Hid (Calls Tryz.prog 16 #[.pointer (some ⟨q9, 0, none⟩), .slice none 0 0] w9 fun e w' => e = .returned (.tuple #[]) ∧ T2D PS Ub va vb X2 (Y2.arm []) W6 w') := fA9 w9 [] _ (Below.refl _ _) (rowP_nil _) (fun h => absurd rfl h) (Nat.zero_le _)
    clear hb9 fA9 x0 x1 x2 x3 x4 x5 x6 x7 x8 x9 x10 x11 x12 x13
    go_wp2_with fail
    go_at_call 16
    refine HA9.out.mono ?_
    rintro e10 w10 ⟨rfl, ht10⟩
    have HT10 : Hid (T2D PS Ub va vb X2 (Y2.arm []) W6 w10) := ht10
    have HBO2 : Hid (Calls Tryz.prog 14 #[.pointer (some ⟨va, 0, none⟩), .pointer (some ⟨vb, 0, none⟩), .slice (some ⟨w10.heap.size, 0, none⟩) 4 4] (w10.alloc (.cells #[.int .i64 1, .int .i64 0, .string nm, .string ⟨#[]⟩, .int .i64 0, .int .i64 0, .int .i64 0, .int .i64 0, .slice none 0 0, .slice none 0 0, .int .i64 2, .int .i64 0, .string nm, .string ⟨#[]⟩, .int .i64 0, .int .i64 0, .int .i64 0, .int .i64 0, .slice none 0 0, .slice none 0 0, .int .i64 8, .int .i64 0, .string da, .string ⟨#[]⟩, .int .i64 0, .int .i64 0, .int .i64 0, .int .i64 0, .slice none 0 0, .slice none 0 0, .int .i64 1, .int .i64 0, .string nm, .string ⟨#[]⟩, .int .i64 0, .int .i64 0, .int .i64 0, .int .i64 0, .slice none 0 0, .slice none 0 0] 39)) fun e w' => e = .returned (.bool true) ∧ Below w.heap.size w w') := by
      refine (T2D.both C HT10.out HSIM.out.1 HSIM.out.2.1 (HSIM.out.2.2.1.arm []) ((Below.refl _ w10).alloc (Nat.le_refl _) _) (row_four w10 nm da) (fun _ k hk hx => by
        simp only [Value.ownBlock, Option.some.injEq] at hk
        have := HT10.out.1.low k hx; omega) (fun o ho => by
        simp at ho
        have h1 := HSZ.out.1
        have h2 := HSZ.out.2.2
        rcases ho with rfl | rfl | rfl | rfl
        · exact opk_ok _ _ (by omega)
        · exact opk_ok _ _ (by omega)
        · exact opk_ok _ _ (by omega)
        · exact opk_ok _ _ (by omega)) (by simp)).mono ?_
      rintro e w' ⟨rfl, ht⟩
      exact ⟨rfl, HW6.out.2.2.2.2.2.trans (ht.2.below (B := w.heap.size) (fun k hk => HW6.out.2.2.2.2.1 k hk) HW6.out.2.2.2.2.2.size)⟩
    clear ht10 hq9
    go_wp2_with (go_at_call 14; refine HBO2.out.mono ?_; rintro e11 w11 ⟨rfl, hb11⟩)
    go_returns
    exact ⟨rfl, hb11⟩
  · skip
    have HC1 : Hid (Calls Tryz.prog 11 #[.pointer (some ⟨va, 0, none⟩), .agg #[.int .i64 8, .int .i64 0, .string (part da n), .string ⟨#[]⟩, .int .i64 0, .int .i64 0, .int .i64 0, .int .i64 0, .slice none 0 0, .slice none 0 0]] w4 fun r w' => ∃ ao1 c1, r = .returned (.agg #[.string ⟨#[]⟩, .int .i64 (kk : Nat), .int .i64 0, .int .i64 0, .int .i64 0, .int .i64 0, .string ⟨#[]⟩, .int .i64 0, .slice ao1 0 c1, .bool false, .bool false, .string ⟨#[]⟩, .string ⟨#[]⟩, .int .i64 0]) ∧ T2D PS U va vb X2 X w2 w') := by
      refine (T2D.call1 C HT4.out HX.out.2.2.2.2 (by omega) (opk 8 (part da n)) (opk_ok _ _ (by rw [HPS.out.2]; omega)) (Below.refl _ w4)).mono ?_
      rintro r w' ⟨ao1, c1, rfl, ht, -⟩
      rw [← hX2] at ht
      have hl : (X.call (opk 8 (part da n)).c).1.l.length = 0 := by rw [hA]; rfl
      rw [hl]
      exact ⟨ao1, c1, by rw [hA, HPS.out.2]; rfl, ht⟩
    have HC2 : Hid (∀ (Ub : Nat → Prop) (wb W : World), T2D PS Ub va vb X2 Y1 wb W → Calls Tryz.prog 11 #[.pointer (some ⟨vb, 0, none⟩), .agg #[.int .i64 8, .int .i64 0, .string da, .string ⟨#[]⟩, .int .i64 0, .int .i64 0, .int .i64 0, .int .i64 0, .slice none 0 0, .slice none 0 0]] W fun r w' => ∃ ao2 c2, r = .returned (.agg #[.string ⟨#[]⟩, .int .i64 (kk : Nat), .int .i64 0, .int .i64 0, .int .i64 0, .int .i64 0, .string ⟨#[]⟩, .int .i64 0, .slice ao2 0 c2, .bool true, .bool false, .string opWrite, .string nm, .int .i64 40]) ∧ T2D PS Ub va vb X2 Y2 wb w') := fun Ub wb W ht0 => by
      refine (T2D.call C ht0 hfy (by omega) (opk 8 da) (opk_ok _ _ (by have := HPS.out.1; omega)) (Below.refl _ W)).mono ?_
      rintro r w' ⟨ao2, c2, rfl, ht⟩
      rw [← hY2] at ht
      have hl : (Y1.call (opk 8 da).c).1.l.length = 0 := by rw [hB]; rfl
      rw [hl]
      exact ⟨ao2, c2, by rw [hB, HPS.out.2]; rfl, ht⟩
    have HSIM : Hid (Sim X2 (Y2.arm []) ∧ Vlf X2 3 ∧ Vlf Y2 3 ∧ Y1 = X.arm [⟨1, 2, n⟩]) := ⟨hsim, hfx2, hfy2, hY1⟩
    clear hA hB hX2 hY2 hsim hfx2 hfy2 hfy hY1
    refine Calls.mono HC1.out ?_
    rintro r w6 ⟨ao1, c1, rfl, ht6⟩
    obtain ⟨W6, hW6⟩ : ∃ W6, W6 = w6.alloc (.cells #[.string ⟨#[]⟩, .int .i64 (kk : Nat), .int .i64 0, .int .i64 0, .int .i64 0, .int .i64 0, .string ⟨#[]⟩, .int .i64 0, .slice ao1 0 c1, .bool false, .bool false, .string ⟨#[]⟩, .string ⟨#[]⟩, .int .i64 0] 34) := ⟨_, rfl⟩
    have hb6 : Below w6.heap.size w6 W6 := by rw [hW6]; exact (Below.refl _ w6).alloc (Nat.le_refl _) _
    have HW6 : Hid (T2D PS (ext U w2 w6) va vb X2 X W6 W6 ∧ W6.heap[w6.heap.size]? = some (.cells #[.string ⟨#[]⟩, .int .i64 (kk : Nat), .int .i64 0, .int .i64 0, .int .i64 0, .int .i64 0, .string ⟨#[]⟩, .int .i64 0, .slice ao1 0 c1, .bool false, .bool false, .string ⟨#[]⟩, .string ⟨#[]⟩, .int .i64 0] 34 (0, 0)) ∧ w6.heap.size < W6.heap.size ∧ ¬ ext U w2 w6 w6.heap.size ∧ (∀ k, ext U w2 w6 k → w.heap.size ≤ k) ∧ Below w.heap.size w W6) := by
      have h1 := HBW.out _ _ _ ht6
      refine ⟨T2D.start (ht6.1.below C hb6), by rw [hW6]; exact new_at rfl, by rw [hW6]; simp, fun h => by have := ht6.1.low _ h; omega, fun k hk => ?_, h1.trans (hb6.mono h1.size)⟩
      rcases hk with hk | hk
      · exact HU.out k hk
      · have := HB2.out.size; omega
    have HE6 : Hid (W6 = w6.alloc (.cells #[.string ⟨#[]⟩, .int .i64 (kk : Nat), .int .i64 0, .int .i64 0, .int .i64 0, .int .i64 0, .string ⟨#[]⟩, .int .i64 0, .slice ao1 0 c1, .bool false, .bool false, .string ⟨#[]⟩, .string ⟨#[]⟩, .int .i64 0] 34)) := hW6
    obtain ⟨Ub, hUb⟩ : ∃ Ub, Ub = ext U w2 w6 := ⟨_, rfl⟩
    rw [← hUb] at HW6
    obtain ⟨q, hq, fA, -, -⟩ := HW6.out.1.face C
    have HARM : Hid (Calls Tryz.prog 16 #[.pointer (some ⟨q, 0, none⟩), .slice (some ⟨W6.heap.size, 0, none⟩) 1 1] (W6.alloc (.cells #[.int .i64 1, .int .i64 2, .int .i64 n] 52)) fun e w' => e = .returned (.tuple #[]) ∧ T2D PS Ub va vb X2 Y1 W6 w') := by
      rw [HSIM.out.2.2.2]
      exact fA _ [⟨1, 2, n⟩] _ ((Below.refl _ W6).alloc (Nat.le_refl _) _) (rowP_one W6 ⟨1, 2, n⟩) (fun _ k hk => by simp only [Value.ownBlock, Option.some.injEq] at hk; omega) (by simp)
    clear ht6 hb6 hW6 hUb fA hl4 HC1
    go_upto_region 13 with fail
    rw [← HE6.out]
    go_wp2_with fail
    go_at_call 16
    refine HARM.out.mono ?_
    rintro e7 w7 ⟨rfl, ht7⟩
    have HT7 : Hid (T2D PS Ub va vb X2 Y1 W6 w7) := ht7
    clear ht7 HARM hq
    go_wp2_with fail
    go_at_call 11
    refine Calls.mono (HC2.out _ _ _ HT7.out) ?_
    rintro r w8 ⟨ao2, c2, rfl, ht8⟩
    have hbB : Below w8.heap.size w8 (w8.alloc (.cells #[.string ⟨#[]⟩, .int .i64 (kk : Nat), .int .i64 0, .int .i64 0, .int .i64 0, .int .i64 0, .string ⟨#[]⟩, .int .i64 0, .slice ao2 0 c2, .bool true, .bool false, .string opWrite, .string nm, .int .i64 40] 34)) := (Below.refl _ w8).alloc (Nat.le_refl _) _
    have hA8 : (w8.alloc (.cells #[.string ⟨#[]⟩, .int .i64 (kk : Nat), .int .i64 0, .int .i64 0, .int .i64 0, .int .i64 0, .string ⟨#[]⟩, .int .i64 0, .slice ao2 0 c2, .bool true, .bool false, .string opWrite, .string nm, .int .i64 40] 34)).heap[w6.heap.size]? = some (.cells #[.string ⟨#[]⟩, .int .i64 (kk : Nat), .int .i64 0, .int .i64 0, .int .i64 0, .int .i64 0, .string ⟨#[]⟩, .int .i64 0, .slice ao1 0 c1, .bool false, .bool false, .string ⟨#[]⟩, .string ⟨#[]⟩, .int .i64 0] 34 (0, 0)) := (hbB.block _ (by have := ht8.2.size; have := HW6.out.2.2.1; omega)).trans ((ht8.2.block _ HW6.out.2.2.1 HW6.out.2.2.2.1).trans HW6.out.2.1)
    obtain ⟨⟨x0, x1, x2, x3, x4, x5, x6, x7, x8, x9, x10, x11, x12, x13⟩, -⟩ := at14 hA8
    have HT8 : Hid (T2D PS Ub va vb X2 Y2 W6 (w8.alloc (.cells #[.string ⟨#[]⟩, .int .i64 (kk : Nat), .int .i64 0, .int .i64 0, .int .i64 0, .int .i64 0, .string ⟨#[]⟩, .int .i64 0, .slice ao2 0 c2, .bool true, .bool false, .string opWrite, .string nm, .int .i64 40] 34))) := ht8.below C hbB
    have HAK : Hid (∀ W, Calls Tryz.prog 13 #[.agg #[.string ⟨#[]⟩, .int .i64 (kk : Nat), .int .i64 0, .int .i64 0, .int .i64 0, .int .i64 0, .string ⟨#[]⟩, .int .i64 0, .slice ao2 0 c2, .bool true, .bool false, .string opWrite, .string nm, .int .i64 40], .int .i64 40, .int .i64 (kk : Nat)] W fun r w' => r = .returned (.bool true) ∧ Below W.heap.size W w') := fun W => refused_c opWrite nm 40 (kk : Nat) ao2 c2 W
    clear hA8 hbB ht8
    go_wp2_with fail
    go_at_call 13
    refine (HAK.out _).mono ?_
    rintro e9 w9 ⟨rfl, hb9⟩
    have HT9 : Hid (T2D PS Ub va vb X2 Y2 W6 w9) := HT8.out.below C hb9
    obtain ⟨q9, hq9, fA9, -, -⟩ := HT9.out.face C
    have HA9 : Hid (Calls Tryz.prog 16 #[.pointer (some ⟨q9, 0, none⟩), .slice none 0 0] w9 fun e w' => e = .returned (.tuple #[]) ∧ T2D PS Ub va vb X2 (Y2.arm []) W6 w') := fA9 w9 [] _ (Below.refl _ _) (rowP_nil _) (fun h => absurd rfl h) (Nat.zero_le _)
    clear hb9 fA9 x0 x1 x2 x3 x4 x5 x6 x7 x8 x9 x10 x11 x12 x13
    go_wp2_with fail
    go_at_call 16
    refine HA9.out.mono ?_
    rintro e10 w10 ⟨rfl, ht10⟩
    have HT10 : Hid (T2D PS Ub va vb X2 (Y2.arm []) W6 w10) := ht10
    have HBO2 : Hid (Calls Tryz.prog 14 #[.pointer (some ⟨va, 0, none⟩), .pointer (some ⟨vb, 0, none⟩), .slice (some ⟨w10.heap.size, 0, none⟩) 4 4] (w10.alloc (.cells #[.int .i64 1, .int .i64 0, .string nm, .string ⟨#[]⟩, .int .i64 0, .int .i64 0, .int .i64 0, .int .i64 0, .slice none 0 0, .slice none 0 0, .int .i64 2, .int .i64 0, .string nm, .string ⟨#[]⟩, .int .i64 0, .int .i64 0, .int .i64 0, .int .i64 0, .slice none 0 0, .slice none 0 0, .int .i64 8, .int .i64 0, .string da, .string ⟨#[]⟩, .int .i64 0, .int .i64 0, .int .i64 0, .int .i64 0, .slice none 0 0, .slice none 0 0, .int .i64 1, .int .i64 0, .string nm, .string ⟨#[]⟩, .int .i64 0, .int .i64 0, .int .i64 0, .int .i64 0, .slice none 0 0, .slice none 0 0] 39)) fun e w' => e = .returned (.bool true) ∧ Below w.heap.size w w') := by
      refine (T2D.both C HT10.out HSIM.out.1 HSIM.out.2.1 (HSIM.out.2.2.1.arm []) ((Below.refl _ w10).alloc (Nat.le_refl _) _) (row_four w10 nm da) (fun _ k hk hx => by
        simp only [Value.ownBlock, Option.some.injEq] at hk
        have := HT10.out.1.low k hx; omega) (fun o ho => by
        simp at ho
        have h1 := HSZ.out.1
        have h2 := HSZ.out.2.2
        rcases ho with rfl | rfl | rfl | rfl
        · exact opk_ok _ _ (by omega)
        · exact opk_ok _ _ (by omega)
        · exact opk_ok _ _ (by omega)
        · exact opk_ok _ _ (by omega)) (by simp)).mono ?_
      rintro e w' ⟨rfl, ht⟩
      exact ⟨rfl, HW6.out.2.2.2.2.2.trans (ht.2.below (B := w.heap.size) (fun k hk => HW6.out.2.2.2.2.1 k hk) HW6.out.2.2.2.2.2.size)⟩
    clear ht10 hq9
    go_wp2_with (go_at_call 14; refine HBO2.out.mono ?_; rintro e11 w11 ⟨rfl, hb11⟩)
    go_returns
    exact ⟨rfl, hb11⟩
theorem vfsShort_w (C : PC PS) (c : Int) (nm od da : ByteArray) (n : Int) (w : World) (h1 : nm.size ≤ 1048576) (h2 : od.size ≤ 1048576) (h3 : da.size ≤ 1048576) :
    Calls Tryz.prog 4 #[.int .i64 c, .string nm, .string od, .string da, .int .i64 n] w fun e w' => e = .returned (.bool true) ∧ Below w.heap.size w w' := by
  by_cases hc : c < 0 ∨ 1073741824 < c
  · exact short_no C c hc nm od da (by omega) n w
  · obtain ⟨cn, rfl⟩ := Int.eq_ofNat_of_zero_le (show 0 ≤ c by omega)
    cases hok : okName nm with
    | false => exact short_bad C cn (by omega) nm od da (by omega) hok n w
    | true => exact short_w C cn (by omega) nm od da h1 h2 h3 hok n w
end Go.Proofs.YtjbphheojfclcaaGreat
