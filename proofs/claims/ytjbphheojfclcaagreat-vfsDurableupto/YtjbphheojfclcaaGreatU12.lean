
-- Create, Stat of the volume.
import Derived.Test.YtjbphheojfclcaaGreatU10
import Derived.Deep.DrawnRows
namespace Go.Proofs.YtjbphheojfclcaaGreat
open Go.RowKit
set_option linter.unusedVariables false
variable {PS : (Nat → Prop) → Nat → St → World → Prop}
attribute [local go_sem ↓] Go.wp_at_zero Go.wp_at_succ
/-- What Create answers: a handle at a new block that is not of the volume, or none. -/
def Made (PS : (Nat → Prop) → Nat → St → World → Prop) (G : Nat → Prop) (q : Nat) (v v' : Vs) (name : ByteArray) (body e : Nat) (w w' : World) (hv : Value) : Prop :=
  Kp G w w' ∧ ((e ≠ 0 ∧ hv = .pointer none ∧ PV PS (ext G w w') q v' w') ∨
    (e = 0 ∧ ∃ b G', hv = .pointer (some ⟨b, 0, none⟩) ∧ FileAt w' b q ⟨name, body, v.round, false⟩ ∧ PV PS G' q v' w' ∧ (∀ k, G' k → ext G w w' k) ∧ (∀ k, G k → G' k) ∧ ¬ G' b ∧ w.heap.size ≤ b))
/-- What Create has done: no handle and its error, or a handle. -/
def CMade (PS : (Nat → Prop) → Nat → St → World → Prop) (G : Nat → Prop) (q : Nat) (v v' : Vs) (name : ByteArray) (body e : Nat) (w w' : World) (hv ev : Value) : Prop :=
  (e ≠ 0 ∧ hv = .pointer none ∧ EDid PS G q v' w w' ⟨#[99, 114, 101, 97, 116, 101]⟩ name e ev) ∨
    (e = 0 ∧ ev = .nilIface ∧ Kp G w w' ∧ ∃ b G', hv = .pointer (some ⟨b, 0, none⟩) ∧ FileAt w' b q ⟨name, body, v.round, false⟩ ∧ PV PS G' q v' w' ∧ (∀ k, G' k → ext G w w' k) ∧ (∀ k, G k → G' k) ∧ ¬ G' b ∧ w.heap.size ≤ b)
theorem CMade.weak {G : Nat → Prop} {q : Nat} {v v' : Vs} {name : ByteArray} {body e : Nat} {w w' : World} {hv ev : Value} (h : CMade PS G q v v' name body e w w' hv ev) : ErrIs w' w.heap.size ⟨#[99, 114, 101, 97, 116, 101]⟩ name e ev ∧ Made PS G q v v' name body e w w' hv := by
  rcases h with ⟨h0, h1, h2⟩ | ⟨h0, h1, h2, h3⟩
  · exact ⟨h2.weak.1, h2.weak.2.2, .inl ⟨h0, h1, h2.weak.2.1⟩⟩
  · exact ⟨.inl ⟨h0, h1⟩, h2, .inr ⟨h0, h3⟩⟩
set_option maxRecDepth 8000 in
set_option maxHeartbeats 8000000 in
theorem sCreate_c (C : PC PS) (G : Nat → Prop) (q : Nat) (v : Vs) (name : ByteArray) (m0 m1 m2 m3 : Int) (w : World) (h : PV PS G q v w) (hw : Wf v.st) (hn : v.cnt ≤ 4194304) :
    Calls Tryz.prog 34 #[.pointer (some ⟨q, 0, none⟩), .string name, .agg #[.int .i64 m0, .int .i64 m1, .int .i64 m2, .int .i64 m3]] w fun e w' => ∃ hv ev, e = .returned (.tuple #[hv, ev]) ∧ CMade PS G q v (v.create name m0 m1 m2 m3).2 name (v.create name m0 m1 m2 m3).1.1 (v.create name m0 m1 m2 m3).1.2 w w' hv ev := by
  obtain ⟨X, hX⟩ : ∃ X, X = Obj.cells #[.int .i64 m0, .int .i64 m1, .int .i64 m2, .int .i64 m3] 23 := ⟨_, rfl⟩
  have hbA : Below w.heap.size w (w.alloc X) := (Below.refl _ w).alloc (Nat.le_refl _) X
  have hsA : (w.alloc X).heap.size = w.heap.size + 1 := by simp
  have HFa : Hid (∀ (e : Nat) w, Calls Tryz.prog 56 #[.string ⟨#[99, 114, 101, 97, 116, 101]⟩, .string name, .int .i64 e] w fun r w' => ∃ ev, r = .returned ev ∧ ErrIs w' w.heap.size ⟨#[99, 114, 101, 97, 116, 101]⟩ name e ev ∧ Below w.heap.size w w') := fun e w => failed_c _ _ e w
  have HDev : Hid (∀ W, Alike (w.alloc X) W → Calls Tryz.prog 41 #[.pointer (some ⟨q, 0, none⟩)] W fun e w' => e = .returned (.iface 134 (.pointer (some ⟨q, 0, none⟩))) ∧ w' = W) := fun W hA => device_c G q v W ((h.below C hbA).below C hA.below)
  have hrd : (v.create name m0 m1 m2 m3).2.round = v.round := by
    unfold Vs.create Vs.met Vs.on Vs.tick Vs.cut
    repeat' split
    all_goals rfl
  obtain ⟨B, hBd⟩ : ∃ x, x = (v.create name m0 m1 m2 m3).1.1 := ⟨_, rfl⟩
  obtain ⟨E, hE⟩ : ∃ x, x = (v.create name m0 m1 m2 m3).1.2 := ⟨_, rfl⟩
  obtain ⟨V, hV⟩ : ∃ x, x = (v.create name m0 m1 m2 m3).2 := ⟨_, rfl⟩
  have HC : Hid (∀ W, Alike (w.alloc X) W → Calls Tryz.prog 132 #[.pointer (some ⟨q, 0, none⟩), .string name, .agg #[.int .i64 m0, .int .i64 m1, .int .i64 m2, .int .i64 m3]] W fun e w' => e = .returned (.tuple #[.int .i64 B, .int .i64 E]) ∧ VDid PS G q V w w' ∧ w'.cell? ⟨q, 4, none⟩ = some (.int .i64 v.round)) := fun W hA => by
    have hbW := hbA.trans (hA.below.mono (by omega))
    refine (dCreate_c C G q v name m0 m1 m2 m3 W (h.below C hbW) hw hn).mono ?_
    rintro e w' ⟨rfl, h1, h2⟩
    rw [hBd, hE, hV]
    refine ⟨rfl, ⟨h1.mono (fun k hk => ?_) (fun k hk => ?_), (Kp.of_below hbW).trans h2⟩, ?_⟩
    · have := hbW.size
      rcases hk with hk | hk
      · exact .inl hk
      · exact .inr ⟨by omega, hk.2⟩
    · rcases hk with hk | hk
      · exact h1.low k (.inl hk)
      · exact hk.2
    · obtain ⟨p, m, Fd, O⟩ := h1
      have := O.cells.2.2.2.2.1
      rw [hrd] at this; exact this
  have HM : Hid (∀ W, Alike (w.alloc X) W → W.cell? ⟨w.heap.size, 0, none⟩ = some (.int .i64 m0) ∧ W.cell? ⟨w.heap.size, 1, none⟩ = some (.int .i64 m1) ∧ W.cell? ⟨w.heap.size, 2, none⟩ = some (.int .i64 m2) ∧ W.cell? ⟨w.heap.size, 3, none⟩ = some (.int .i64 m3)) := fun W hA => by
    have hx : W.heap[w.heap.size]? = some (.cells #[.int .i64 m0, .int .i64 m1, .int .i64 m2, .int .i64 m3] 23 (0, 0)) := by rw [hA.heap, heap_alloc_new, hX]
    refine ⟨?_, ?_, ?_, ?_⟩ <;> (rw [Lib.cell_of_heap hx]; rfl)
  have HBad : Hid (∀ W W' ev, E ≠ 0 → VDid PS G q V w W → ErrIs W' W.heap.size ⟨#[99, 114, 101, 97, 116, 101]⟩ name E ev → Below W.heap.size W W' → CMade PS G q v V name B E w W' (.pointer none) ev) := fun W W' ev h0 h1 h2 h3 => .inl ⟨h0, rfl, EDid.of C h1 h2 h3⟩
  have HGood : Hid (∀ W W', E = 0 → VDid PS G q V w W → W' = W.alloc (.cells #[.pointer (some ⟨q, 0, none⟩), .string name, .int .i64 B, .int .i64 v.round] 129) → CMade PS G q v V name B E w W' (.pointer (some ⟨W.heap.size, 0, none⟩)) .nilIface) := fun W W' h0 h1 h2 => by
    have hb : Below W.heap.size W W' := by rw [h2]; exact (Below.refl _ W).alloc (Nat.le_refl _) _
    have hsW : W'.heap.size = W.heap.size + 1 := by rw [h2]; simp
    have hs1 := h1.2.size
    refine .inr ⟨h0, rfl, h1.2.kept hb, W.heap.size, ext G w W, rfl, ?_, h1.1.below C hb, fun k hk => ?_, fun k hk => .inl hk, fun hk => ?_, hs1⟩
    · show W'.heap[W.heap.size]? = _
      rw [h2, heap_alloc_new]; rfl
    · rcases hk with hk | hk
      · exact .inl hk
      · exact .inr ⟨hk.1, by omega⟩
    · have := h1.1.low _ hk; omega
  rw [← hBd, ← hE, ← hV]
  clear h hw hn hbA hsA hrd hBd hE hV
  have hE0 : E = 0 ∨ (E ≠ 0 ∧ ((E : Int) == 0) = false) := by
    rcases Nat.eq_zero_or_pos E with h | h
    · exact .inl h
    · exact .inr ⟨by omega, by simp; omega⟩
  rcases hE0 with rfl | ⟨h0, b1⟩
  · subst hX
    go_enter Tryz.func34, Tryz.ntmps34
    go_wp2_with fail
    obtain ⟨W0, hW0⟩ : ∃ W0, W0 = w.alloc (.cells #[.int .i64 m0, .int .i64 m1, .int .i64 m2, .int .i64 m3] 23) := ⟨_, rfl⟩
    obtain ⟨y0, y1, y2, y3⟩ := HM.out _ (Alike.mk rfl rfl rfl rfl)
    rw [← hW0] at y0 y1 y2 y3 HDev HC ⊢
    clear hW0
    go_region_with (first
      | (go_at_call 41; refine (HDev.out _ (Alike.mk ?_ ?_ ?_ ?_)).mono ?_; rfl; rfl; rfl; rfl; rintro e w0 ⟨rfl, hw0⟩; subst w0)
      | (go_at_call 132; refine (HC.out _ (Alike.mk ?_ ?_ ?_ ?_)).mono ?_; rfl; rfl; rfl; rfl; rintro e w2 ⟨rfl, hd2, d4⟩))
    all_goals
      go_wp2
      go_returns
      exact ⟨_, _, rfl, HGood.out w2 _ (by first | rfl | trivial) hd2 rfl⟩
  · have HE0 : Hid (E ≠ 0) := h0
    have b2 : ((E : Int) != 0) = true := by simp [bne, b1]
    clear h0
    subst hX
    go_enter Tryz.func34, Tryz.ntmps34
    go_wp2_with fail
    obtain ⟨W0, hW0⟩ : ∃ W0, W0 = w.alloc (.cells #[.int .i64 m0, .int .i64 m1, .int .i64 m2, .int .i64 m3] 23) := ⟨_, rfl⟩
    obtain ⟨y0, y1, y2, y3⟩ := HM.out _ (Alike.mk rfl rfl rfl rfl)
    rw [← hW0] at y0 y1 y2 y3 HDev HC ⊢
    clear hW0
    go_region_with (first
      | (go_at_call 41; refine (HDev.out _ (Alike.mk ?_ ?_ ?_ ?_)).mono ?_; rfl; rfl; rfl; rfl; rintro e w0 ⟨rfl, hw0⟩; subst w0)
      | (go_at_call 132; refine (HC.out _ (Alike.mk ?_ ?_ ?_ ?_)).mono ?_; rfl; rfl; rfl; rfl; rintro e w2 ⟨rfl, hd2, d4⟩))
    all_goals
      go_wp2_with (go_at_call 56; refine (HFa.out _ _).mono ?_; rintro e w3 ⟨ev, rfl, he, hbb⟩)
      go_returns
      exact ⟨_, ev, rfl, HBad.out _ _ _ HE0.out (hd2.below C (Alike.below ⟨rfl, rfl, rfl, rfl⟩)) he hbb⟩
theorem fCreate_c (C : PC PS) (G : Nat → Prop) (q : Nat) (v : Vs) (name : ByteArray) (m0 m1 m2 m3 : Int) (w : World) (h : PV PS G q v w) (hw : Wf v.st) (hn : v.cnt ≤ 4194304) :
    Calls Tryz.prog 34 #[.pointer (some ⟨q, 0, none⟩), .string name, .agg #[.int .i64 m0, .int .i64 m1, .int .i64 m2, .int .i64 m3]] w fun e w' => ∃ hv ev, e = .returned (.tuple #[hv, ev]) ∧ ErrIs w' w.heap.size ⟨#[99, 114, 101, 97, 116, 101]⟩ name (v.create name m0 m1 m2 m3).1.2 ev ∧ Made PS G q v (v.create name m0 m1 m2 m3).2 name (v.create name m0 m1 m2 m3).1.1 (v.create name m0 m1 m2 m3).1.2 w w' hv := by
  refine (sCreate_c C G q v name m0 m1 m2 m3 w h hw hn).mono ?_
  rintro e w' ⟨hv, ev, rfl, hd⟩
  exact ⟨hv, ev, rfl, hd.weak⟩
end Go.Proofs.YtjbphheojfclcaaGreat
