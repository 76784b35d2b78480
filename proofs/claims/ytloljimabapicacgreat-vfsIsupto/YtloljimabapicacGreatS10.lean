
-- One call on both volumes; a script on both.
import Derived.Test.YtloljimabapicacGreatS3
import Derived.Test.YtloljimabapicacGreatS4
import Derived.Test.YtloljimabapicacGreatS5
import Derived.Test.YtloljimabapicacGreatS6
import Derived.Test.YtloljimabapicacGreatS9
import Derived.Test.YtloljimabapicacGreatS11
namespace Go.Proofs.YtloljimabapicacGreat
open Go.RowKit
set_option linter.unusedVariables false
variable {PS : (Nat → Prop) → Nat → St → World → Prop}
attribute [local go_sem ↓] Go.wp_at_zero Go.wp_at_succ
theorem step_reads (C : PC PS) (B pb k : Nat) (o : Opv) (w : World) (h : Bx PS B pb k w) (hB : B ≤ w.heap.size) (hk : k < 2097151) (ho : OpvOk B o w) (hr : 1 ≤ o.kind ∧ o.kind ≤ 3) :
    Calls Tryz.prog 27 #[.pointer (some ⟨pb, 0, none⟩), o.v] w fun e w' => e = .returned (.bool true) ∧ Bx PS B pb (k + 1) w' ∧ Below B w w' := by
  obtain ⟨⟨po, pl, pc, hp⟩, co, cl, cc, hc⟩ := ho.slices
  obtain ⟨kind, n, a, b, m0, m1, m2, m3, pv, cv, plan, cuts⟩ := o
  simp only at hp hc hr
  subst hp; subst hc
  have h3 : kind = 1 ∨ kind = 2 ∨ kind = 3 := by omega
  rcases h3 with rfl | rfl | rfl
  · exact reads1 C B pb k n a b m0 m1 m2 m3 po pl pc co cl cc w h hB hk
  · exact reads2 C B pb k n a b m0 m1 m2 m3 po pl pc co cl cc w h hB hk
  · exact reads3 C B pb k n a b m0 m1 m2 m3 po pl pc co cl cc w h hB hk
theorem step_changes (C : PC PS) (B pb k : Nat) (o : Opv) (w : World) (h : Bx PS B pb k w) (hB : B ≤ w.heap.size) (hk : k < 2097151) (ho : OpvOk B o w) (hr : 4 ≤ o.kind ∧ o.kind ≤ 7) :
    Calls Tryz.prog 28 #[.pointer (some ⟨pb, 0, none⟩), o.v] w fun e w' => e = .returned (.int .i64 0) ∧ Bx PS B pb (k + 1) w' ∧ Below B w w' := by
  obtain ⟨⟨po, pl, pc, hp⟩, co, cl, cc, hc⟩ := ho.slices
  obtain ⟨kind, n, a, b, m0, m1, m2, m3, pv, cv, plan, cuts⟩ := o
  simp only at hp hc hr
  subst hp; subst hc
  have h3 : kind = 4 ∨ kind = 5 ∨ kind = 6 ∨ kind = 7 := by omega
  rcases h3 with rfl | rfl | rfl | rfl
  · exact changes4 C B pb k n a b m0 m1 m2 m3 po pl pc co cl cc w h hB hk
  · exact changes5 C B pb k n a b m0 m1 m2 m3 po pl pc co cl cc w h hB hk
  · exact changes6 C B pb k n a b m0 m1 m2 m3 po pl pc co cl cc w h hB hk
  · exact changes7 C B pb k n a b m0 m1 m2 m3 po pl pc co cl cc w h hB hk
theorem step_handles (C : PC PS) (B pb k : Nat) (o : Opv) (w : World) (h : Bx PS B pb k w) (hB : B ≤ w.heap.size) (hk : k < 2097151) (ho : OpvOk B o w) (hr : 8 ≤ o.kind ∧ o.kind ≤ 11) :
    Calls Tryz.prog 29 #[.pointer (some ⟨pb, 0, none⟩), o.v] w fun e w' => e = .returned (.bool true) ∧ Bx PS B pb (k + 1) w' ∧ Below B w w' := by
  obtain ⟨⟨po, pl, pc, hp⟩, co, cl, cc, hc⟩ := ho.slices
  have hsm := ho.small
  obtain ⟨kind, n, a, b, m0, m1, m2, m3, pv, cv, plan, cuts⟩ := o
  simp only at hp hc hr hsm
  subst hp; subst hc
  have h3 : kind = 8 ∨ kind = 9 ∨ kind = 10 ∨ kind = 11 := by omega
  rcases h3 with rfl | rfl | rfl | rfl
  · exact handles8 C B pb k n a b m0 m1 m2 m3 po pl pc co cl cc w h hB hk hsm
  · exact handles9 C B pb k n a b m0 m1 m2 m3 po pl pc co cl cc w h hB hk
  · exact handles10 C B pb k n a b m0 m1 m2 m3 po pl pc co cl cc w h hB hk
  · exact handles11 C B pb k n a b m0 m1 m2 m3 po pl pc co cl cc w h hB hk
set_option maxRecDepth 8000 in
set_option maxHeartbeats 8000000 in
theorem step_c (C : PC PS) (B pb k : Nat) (o : Opv) (w : World) (h : Bx PS B pb k w) (hB : B ≤ w.heap.size) (hk : k < 2097151) (ho : OpvOk B o w) :
    Calls Tryz.prog 11 #[.pointer (some ⟨pb, 0, none⟩), o.v] w fun e w' => e = .returned (.int .i64 0) ∧ Bx PS B pb (k + 1) w' ∧ Below B w w' := by
  obtain ⟨⟨po, pl, pc, hp⟩, co, cl, cc, hc⟩ := ho.slices
  have hov : ∀ X, OpvOk B o (w.alloc X) := fun X => ho.below (((Below.refl _ w).alloc (Nat.le_refl _) X).mono hB) (Nat.le_refl _)
  have hbx : ∀ X, Bx PS B pb k (w.alloc X) := fun X => h.below C ((Below.refl _ w).alloc (Nat.le_refl _) X) hB
  have hbb : ∀ X, Below B w (w.alloc X) := fun X => ((Below.refl _ w).alloc (Nat.le_refl _) X).mono hB
  have hBx : ∀ X, B ≤ (w.alloc X).heap.size := fun X => by simp; omega
  have H1 := fun X hr => step_reads C B pb k o (w.alloc X) (hbx X) (hBx X) hk (hov X) hr
  have H2 := fun X hr => step_changes C B pb k o (w.alloc X) (hbx X) (hBx X) hk (hov X) hr
  have H3 := fun X hr => step_handles C B pb k o (w.alloc X) (hbx X) (hBx X) hk (hov X) hr
  have H4 := fun X => rest_c C B pb k o (w.alloc X) (hbx X) (hBx X) hk (hov X)
  obtain ⟨kind, n, a, b, m0, m1, m2, m3, pv, cv, plan, cuts⟩ := o
  simp only at hp hc H1 H2 H3 H4
  subst hp; subst hc
  unfold Opv.v at H1 H2 H3 H4 ⊢
  simp only at H1 H2 H3 H4 ⊢
  have HBB : Hid (∀ X, Below B w (w.alloc X)) := hbb
  clear hov hbx hbb hBx h ho
  by_cases h1 : kind < 1
  · have HR : Hid _ := H4
    have d1 : decide ((1 : Int) ≤ kind) = false := by simp; omega
    have d2 : decide ((4 : Int) ≤ kind) = false := by simp; omega
    have d3 : decide ((8 : Int) ≤ kind) = false := by simp; omega
    clear H1 H2 H3 H4 h1
    go_enter Tryz.func11, Tryz.ntmps11
    go_wp2_with (go_at_call 30; refine (HR.out _).mono ?_; rintro e w1 ⟨rfl, hx1, hb1⟩)
    go_returns
    exact ⟨rfl, hx1, (HBB.out _).trans hb1⟩
  by_cases h2 : kind ≤ 3
  · have HR : Hid _ := fun X => H1 X ⟨by omega, h2⟩
    have d1 : decide ((1 : Int) ≤ kind) = true := by simp; omega
    have d2 : decide (kind ≤ (3 : Int)) = true := by simp; omega
    clear H1 H2 H3 H4 h1 h2
    go_enter Tryz.func11, Tryz.ntmps11
    go_wp2_with (go_at_call 27; refine (HR.out _).mono ?_; rintro e w1 ⟨rfl, hx1, hb1⟩)
    go_returns
    exact ⟨rfl, hx1, (HBB.out _).trans hb1⟩
  by_cases h3 : kind ≤ 7
  · have HR : Hid _ := fun X => H2 X ⟨by omega, h3⟩
    have d1 : decide ((1 : Int) ≤ kind) = true := by simp; omega
    have d2 : decide (kind ≤ (3 : Int)) = false := by simp; omega
    have d3 : decide ((4 : Int) ≤ kind) = true := by simp; omega
    have d4 : decide (kind ≤ (7 : Int)) = true := by simp; omega
    clear H1 H2 H3 H4 h1 h2 h3
    go_enter Tryz.func11, Tryz.ntmps11
    go_wp2_with (go_at_call 28; refine (HR.out _).mono ?_; rintro e w1 ⟨rfl, hx1, hb1⟩)
    go_returns
    exact ⟨rfl, hx1, (HBB.out _).trans hb1⟩
  by_cases h4 : kind ≤ 11
  · have HR : Hid _ := fun X => H3 X ⟨by omega, h4⟩
    have d1 : decide ((1 : Int) ≤ kind) = true := by simp; omega
    have d2 : decide (kind ≤ (3 : Int)) = false := by simp; omega
    have d3 : decide ((4 : Int) ≤ kind) = true := by simp; omega
    have d4 : decide (kind ≤ (7 : Int)) = false := by simp; omega
    have d5 : decide ((8 : Int) ≤ kind) = true := by simp; omega
    have d6 : decide (kind ≤ (11 : Int)) = true := by simp; omega
    clear H1 H2 H3 H4 h1 h2 h3 h4
    go_enter Tryz.func11, Tryz.ntmps11
    go_wp2_with (go_at_call 29; refine (HR.out _).mono ?_; rintro e w1 ⟨rfl, hx1, hb1⟩)
    go_returns
    exact ⟨rfl, hx1, (HBB.out _).trans hb1⟩
  · have HR : Hid _ := H4
    have d1 : decide ((1 : Int) ≤ kind) = true := by simp; omega
    have d2 : decide (kind ≤ (3 : Int)) = false := by simp; omega
    have d3 : decide ((4 : Int) ≤ kind) = true := by simp; omega
    have d4 : decide (kind ≤ (7 : Int)) = false := by simp; omega
    have d5 : decide ((8 : Int) ≤ kind) = true := by simp; omega
    have d6 : decide (kind ≤ (11 : Int)) = false := by simp; omega
    clear H1 H2 H3 H4 h1 h2 h3 h4
    go_enter Tryz.func11, Tryz.ntmps11
    go_wp2_with (go_at_call 30; refine (HR.out _).mono ?_; rintro e w1 ⟨rfl, hx1, hb1⟩)
    go_returns
    exact ⟨rfl, hx1, (HBB.out _).trans hb1⟩
end Go.Proofs.YtloljimabapicacGreat
