
-- A script on a new volume of each.
import Derived.Test.YtloljimabapicacGreatS10
namespace Go.Proofs.YtloljimabapicacGreat
open Go.RowKit
set_option linter.unusedVariables false
variable {PS : (Nat → Prop) → Nat → St → World → Prop}
attribute [local go_sem ↓] Go.wp_at_zero Go.wp_at_succ
set_option maxHeartbeats 4000000 in
theorem pair_no (C : PC PS) (c : Int) (w : World) (hc : c < 0 ∨ 1073741824 < c) : Calls Tryz.prog 5 #[.int .i64 c] w fun e w' => e = .returned (.tuple #[.pointer none, .bool true]) ∧ Below w.heap.size w w' := by
  have HN : Hid (∀ w, Calls Tryz.prog 21 #[.int .i64 c] w fun e w' => e = .returned (.pointer none) ∧ Below w.heap.size w w') := fun w => fNew_no C c w hc
  have HR : Hid (∀ w, Calls Tryz.prog 22 #[.int .i64 c] w fun e w' => e = .returned (.pointer none) ∧ w' = w) := fun w => rNew_no c w hc
  clear hc
  go_enter Tryz.func5, Tryz.ntmps5
  go_wp2_with (first
    | (go_at_call 21; refine (HN.out _).mono ?_; rintro e w1 ⟨rfl, hb1⟩)
    | (go_at_call 22; refine (HR.out _).mono ?_; rintro e w2 ⟨rfl, hw2⟩; subst w2))
  go_returns
  exact ⟨rfl, hb1⟩
set_option maxHeartbeats 4000000 in
theorem pair_c (C : PC PS) (c : Nat) (w : World) (hc : c ≤ 1073741824) : Calls Tryz.prog 5 #[.int .i64 c] w fun e w' => ∃ pb, e = .returned (.tuple #[.pointer (some ⟨pb, 0, none⟩), .bool true]) ∧ Bx PS w.heap.size pb 0 w' ∧ Below w.heap.size w w' := by
  have HN : Hid (Calls Tryz.prog 21 #[.int .i64 (c : Int)] w fun e w' => ∃ q, e = .returned (.pointer (some ⟨q, 0, none⟩)) ∧ PV PS (fun k => w.heap.size ≤ k ∧ k < w'.heap.size) q (Vs.new c) w' ∧ Below w.heap.size w w') := fNew_c C c w hc
  have HR : Hid (∀ w, Calls Tryz.prog 22 #[.int .i64 (c : Int)] w fun e w' => ∃ r, e = .returned (.pointer (some ⟨r, 0, none⟩)) ∧ RV (fun k => w.heap.size ≤ k ∧ k < w'.heap.size) r (Vs.new c) w' ∧ Below w.heap.size w w') := fun w => rNew_c c w hc
  have HE : Hid (∀ q r (w1 w2 : World), PV PS (fun k => w.heap.size ≤ k ∧ k < w1.heap.size) q (Vs.new c) w1 → Below w.heap.size w w1 → RV (fun k => w1.heap.size ≤ k ∧ k < w2.heap.size) r (Vs.new c) w2 → Below w1.heap.size w1 w2 → ∀ W, W = w2.alloc (.cells #[.pointer (some ⟨q, 0, none⟩), .pointer (some ⟨r, 0, none⟩), .slice none 0 0, .slice none 0 0] 43) → Bx PS w.heap.size w2.heap.size 0 W ∧ Below w.heap.size w W) := fun q r w1 w2 h1 h2 h3 h4 W hW => by
    have s1 := h2.size
    have s2 := h4.size
    have hb : Below w2.heap.size w2 W := by rw [hW]; exact (Below.refl _ w2).alloc (Nat.le_refl _) _
    have hsW : W.heap.size = w2.heap.size + 1 := by rw [hW]; simp
    refine ⟨⟨q, r, .slice none 0 0, .slice none 0 0, _, _, Vs.new c, [], [], ⟨?_, (h1.below C h4).below C hb, h3.below hb, fun k g1 g2 => by have := g1.2; have := g2.1; omega, fun k g => g.1, fun k g => by have := g.1; omega, by omega, ⟨fun g => by have := g.2; omega, fun g => by have := g.2; omega⟩, World.ownsRow_nil _ _ _ _, World.ownsRow_nil _ _ _ _, (fun k g => by cases g), (fun k g => by cases g), (fun i a x g => by simp at g), (fun i a x g => by simp at g), by simp, by simp⟩, rfl, Vf.new c hc, Nat.le_refl _⟩, (h2.trans (h4.mono s1)).trans (hb.mono (by omega))⟩
    rw [hW]; exact heap_alloc_new _ _
  clear hc
  go_enter Tryz.func5, Tryz.ntmps5
  go_wp2_with (first
    | (go_at_call 21; refine HN.out.mono ?_; rintro e w1 ⟨q, rfl, hp1, hb1⟩)
    | (go_at_call 22; refine (HR.out _).mono ?_; rintro e w2 ⟨r, rfl, hr2, hb2⟩))
  go_returns
  exact ⟨_, rfl, HE.out q r w1 w2 hp1 hb1 hr2 hb2 _ rfl⟩
end Go.Proofs.YtloljimabapicacGreat
