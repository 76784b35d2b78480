
-- Stat of the volume.
import Derived.Test.YtjbphheojfclcaaGreatU10
import Derived.Deep.DrawnRows
namespace Go.Proofs.YtjbphheojfclcaaGreat
open Go.RowKit
set_option linter.unusedVariables false
variable {PS : (Nat → Prop) → Nat → St → World → Prop}
attribute [local go_sem ↓] Go.wp_at_zero Go.wp_at_succ
theorem six_at {w : World} {r : Nat} {c0 c1 c2 c3 c4 c5 : Value} {t : TypeId} (h : w.heap[r]? = some (.cells #[c0, c1, c2, c3, c4, c5] t (0, 0))) : w.cell? ⟨r, 0, none⟩ = some c0 ∧ w.cell? ⟨r, 1, none⟩ = some c1 ∧ w.cell? ⟨r, 2, none⟩ = some c2 ∧ w.cell? ⟨r, 3, none⟩ = some c3 ∧ w.cell? ⟨r, 4, none⟩ = some c4 ∧ w.cell? ⟨r, 5, none⟩ = some c5 ∧ w.frozen? ⟨r, 0, none⟩ = false ∧ w.frozen? ⟨r, 1, none⟩ = false ∧ w.frozen? ⟨r, 2, none⟩ = false ∧ w.frozen? ⟨r, 3, none⟩ = false ∧ w.frozen? ⟨r, 4, none⟩ = false ∧ w.frozen? ⟨r, 5, none⟩ = false := by
  refine ⟨?_, ?_, ?_, ?_, ?_, ?_, Lib.frozen_of_heap h 0, Lib.frozen_of_heap h 1, Lib.frozen_of_heap h 2, Lib.frozen_of_heap h 3, Lib.frozen_of_heap h 4, Lib.frozen_of_heap h 5⟩ <;> (rw [Lib.cell_of_heap h]; rfl)
theorem VDid.six (C : PC PS) {G : Nat → Prop} {q : Nat} {v : Vs} {w0 w : World} (h : PV PS G q v w) (hk : Kp G w0 w) {r : Nat} (hr : ¬ G r) (hr0 : w0.heap.size ≤ r) (v0 v1 v2 v3 v4 v5 : Value) : VDid PS G q v w0 ((((((w.setCell ⟨r, 0, none⟩ v0).setCell ⟨r, 1, none⟩ v1).setCell ⟨r, 2, none⟩ v2).setCell ⟨r, 3, none⟩ v3).setCell ⟨r, 4, none⟩ v4).setCell ⟨r, 5, none⟩ v5) := by
  obtain ⟨p, m, Fd, O⟩ := h
  exact VDid.of ⟨p, m, Fd, (((((O.beside C hr 0 v0).beside C hr 1 v1).beside C hr 2 v2).beside C hr 3 v3).beside C hr 4 v4).beside C hr 5 v5⟩ ((((((hk.set hr0 0 v0).set hr0 1 v1).set hr0 2 v2).set hr0 3 v3).set hr0 4 v4).set hr0 5 v5)
theorem ErrIs.six {w : World} {B : Nat} {op name : ByteArray} {e : Nat} {ev : Value} (h : ErrIs w B op name e ev) {r : Nat} (hr : r < B) (v0 v1 v2 v3 v4 v5 : Value) : ErrIs ((((((w.setCell ⟨r, 0, none⟩ v0).setCell ⟨r, 1, none⟩ v1).setCell ⟨r, 2, none⟩ v2).setCell ⟨r, 3, none⟩ v3).setCell ⟨r, 4, none⟩ v4).setCell ⟨r, 5, none⟩ v5) B op name e ev := by
  rcases h with h | ⟨h0, b, h1, h2, h3⟩
  · exact .inl h
  · refine .inr ⟨h0, b, h1, h2, ?_⟩
    have ne : b ≠ r := by omega
    rw [Below.heap_setCell _ _ _ _ ne, Below.heap_setCell _ _ _ _ ne, Below.heap_setCell _ _ _ _ ne, Below.heap_setCell _ _ _ _ ne, Below.heap_setCell _ _ _ _ ne, Below.heap_setCell _ _ _ _ ne]
    exact h3
set_option maxRecDepth 8000 in
set_option maxHeartbeats 8000000 in
theorem fStat_c (C : PC PS) (G : Nat → Prop) (q : Nat) (v : Vs) (name : ByteArray) (w : World) (h : PV PS G q v w) (hw : Wf v.st) (hn : v.cnt ≤ 4194304) :
    Calls Tryz.prog 32 #[.pointer (some ⟨q, 0, none⟩), .string name] w fun e w' => ∃ ev, e = .returned (.tuple #[.agg (stV v name), ev]) ∧ ErrIs w' w.heap.size ⟨#[115, 116, 97, 116]⟩ name (v.stat name).1.2 ev ∧ VDid PS G q (v.stat name).2 w w' := by
  obtain ⟨X, hX⟩ : ∃ X, X = Obj.cells #[.int .i64 0, .int .i64 0, .int .i64 0, .int .i64 0, .string ⟨#[]⟩, .int .i64 0] 29 := ⟨_, rfl⟩
  have hbA : Below w.heap.size w (w.alloc X) := (Below.refl _ w).alloc (Nat.le_refl _) X
  have hsA : (w.alloc X).heap.size = w.heap.size + 1 := by simp
  have hXA : (w.alloc X).heap[w.heap.size]? = some (.cells #[.int .i64 0, .int .i64 0, .int .i64 0, .int .i64 0, .string ⟨#[]⟩, .int .i64 0] 29 (0, 0)) := by rw [heap_alloc_new, hX]
  have hGr : ¬ G w.heap.size := fun h' => by have := h.low _ h'; omega
  have HDev : Hid (Calls Tryz.prog 41 #[.pointer (some ⟨q, 0, none⟩)] (w.alloc X) fun e w' => e = .returned (.iface 134 (.pointer (some ⟨q, 0, none⟩))) ∧ w' = w.alloc X) := device_c G q v _ (h.below C hbA)
  obtain ⟨F1, hF1⟩ : ∃ x, x = (v.stat name).1.1.2.date := ⟨_, rfl⟩
  obtain ⟨F2, hF2⟩ : ∃ x, x = (v.stat name).1.1.2.uid := ⟨_, rfl⟩
  obtain ⟨F3, hF3⟩ : ∃ x, x = (v.stat name).1.1.2.gid := ⟨_, rfl⟩
  obtain ⟨F4, hF4⟩ : ∃ x, x = (v.stat name).1.1.2.mode := ⟨_, rfl⟩
  obtain ⟨F5, hF5⟩ : ∃ x, x = (v.stat name).1.1.1 := ⟨_, rfl⟩
  obtain ⟨F6, hF6⟩ : ∃ x, x = (v.stat name).1.1.2.data.size := ⟨_, rfl⟩
  obtain ⟨E, hE⟩ : ∃ x, x = (v.stat name).1.2 := ⟨_, rfl⟩
  obtain ⟨V, hV⟩ : ∃ x, x = (v.stat name).2 := ⟨_, rfl⟩
  have hsv : stV v name = #[.int .i64 F1, .int .i64 F2, .int .i64 F3, .int .i64 F4, .string F5, .int .i64 F6] := by unfold stV; rw [hF1, hF2, hF3, hF4, hF5, hF6]
  have HC : Hid (Calls Tryz.prog 137 #[.pointer (some ⟨q, 0, none⟩), .string name] (w.alloc X) fun e w' => e = .returned (.tuple #[.agg #[.int .i64 F1, .int .i64 F2, .int .i64 F3, .int .i64 F4, .string F5, .int .i64 F6], .int .i64 E]) ∧ (∃ G', PV PS G' q V w' ∧ (∀ k, G' k → ext G w w' k) ∧ ¬ G' w.heap.size) ∧ Kp G w w' ∧ w'.heap[w.heap.size]? = some (.cells #[.int .i64 0, .int .i64 0, .int .i64 0, .int .i64 0, .string ⟨#[]⟩, .int .i64 0] 29 (0, 0)) ∧ w.heap.size < w'.heap.size) := by
    refine (dStat_c C G q v name _ (h.below C hbA) hw hn).mono ?_
    rintro e w' ⟨rfl, h1, h2⟩
    rw [hsv, hE, hV]
    have h2s := h2.size
    refine ⟨rfl, ⟨_, h1, fun k hk => ?_, fun hk => ?_⟩, (Kp.of_below hbA).trans h2, (h2.block _ (by omega) hGr).trans hXA, by omega⟩
    · rcases hk with hk | hk
      · exact .inl hk
      · exact .inr ⟨by omega, hk.2⟩
    · rcases hk with hk | hk
      · exact hGr hk
      · omega
  rw [hsv, ← hE, ← hV]
  have HFa : Hid (∀ (w1 : World), (∃ G', PV PS G' q V w1 ∧ (∀ k, G' k → ext G w w1 k) ∧ ¬ G' w.heap.size) → Kp G w w1 → w1.heap[w.heap.size]? = some (.cells #[.int .i64 0, .int .i64 0, .int .i64 0, .int .i64 0, .string ⟨#[]⟩, .int .i64 0] 29 (0, 0)) → w.heap.size < w1.heap.size → ∀ W, Alike (w1.alloc (.cells #[.int .i64 F1, .int .i64 F2, .int .i64 F3, .int .i64 F4, .string F5, .int .i64 F6] 29)) W → Calls Tryz.prog 56 #[.string ⟨#[115, 116, 97, 116]⟩, .string name, .int .i64 E] W fun r w' => ∃ ev, r = .returned ev ∧ ErrIs w' (w.heap.size + 1) ⟨#[115, 116, 97, 116]⟩ name E ev ∧ (∃ G', PV PS G' q V w' ∧ (∀ k, G' k → ext G w w' k) ∧ ¬ G' w.heap.size) ∧ Kp G w w' ∧ w'.heap[w.heap.size]? = some (.cells #[.int .i64 0, .int .i64 0, .int .i64 0, .int .i64 0, .string ⟨#[]⟩, .int .i64 0] 29 (0, 0)) ∧ w'.heap[w1.heap.size]? = some (.cells #[.int .i64 F1, .int .i64 F2, .int .i64 F3, .int .i64 F4, .string F5, .int .i64 F6] 29 (0, 0))) := fun w1 hV1 hk1 hx1 hl1 W hA => by
    have hb1 : Below w1.heap.size w1 (w1.alloc (.cells #[.int .i64 F1, .int .i64 F2, .int .i64 F3, .int .i64 F4, .string F5, .int .i64 F6] 29)) := (Below.refl _ w1).alloc (Nat.le_refl _) _
    have hbW : Below w1.heap.size w1 W := hb1.trans (hA.below.mono hb1.size)
    have hWx : W.heap[w1.heap.size]? = some (.cells #[.int .i64 F1, .int .i64 F2, .int .i64 F3, .int .i64 F4, .string F5, .int .i64 F6] 29 (0, 0)) := by rw [hA.heap]; exact heap_alloc_new _ _
    have hWs : W.heap.size = w1.heap.size + 1 := by rw [hA.heap]; simp
    refine (failed_c _ _ E W).mono ?_
    rintro r w' ⟨ev, rfl, he, hb⟩
    have hbb := hbW.trans (hb.mono hbW.size)
    have hbs := hbb.size
    obtain ⟨G', g1, g2, g3⟩ := hV1
    refine ⟨ev, rfl, he.low (by omega), ⟨G', g1.below C hbb, fun k hk => ?_, g3⟩, hk1.kept hbb, (hbb.block _ hl1).trans hx1, (hb.block _ (by omega)).trans hWx⟩
    rcases g2 k hk with hk | hk
    · exact .inl hk
    · exact .inr ⟨hk.1, by omega⟩
  have HEnd : Hid (∀ (w2 : World) ev, ErrIs w2 (w.heap.size + 1) ⟨#[115, 116, 97, 116]⟩ name E ev → (∃ G', PV PS G' q V w2 ∧ (∀ k, G' k → ext G w w2 k) ∧ ¬ G' w.heap.size) → Kp G w w2 → ∀ v0 v1 v2 v3 v4 v5 : Value, ErrIs ((((((w2.setCell ⟨w.heap.size, 0, none⟩ v0).setCell ⟨w.heap.size, 1, none⟩ v1).setCell ⟨w.heap.size, 2, none⟩ v2).setCell ⟨w.heap.size, 3, none⟩ v3).setCell ⟨w.heap.size, 4, none⟩ v4).setCell ⟨w.heap.size, 5, none⟩ v5) w.heap.size ⟨#[115, 116, 97, 116]⟩ name E ev ∧ VDid PS G q V w ((((((w2.setCell ⟨w.heap.size, 0, none⟩ v0).setCell ⟨w.heap.size, 1, none⟩ v1).setCell ⟨w.heap.size, 2, none⟩ v2).setCell ⟨w.heap.size, 3, none⟩ v3).setCell ⟨w.heap.size, 4, none⟩ v4).setCell ⟨w.heap.size, 5, none⟩ v5)) := fun w2 ev he hV2 hk2 v0 v1 v2 v3 v4 v5 => by
    obtain ⟨G', g1, g2, g3⟩ := hV2
    have hd := VDid.six C g1 (Kp.mono' (Kp.of_below (Below.refl w2.heap.size w2)) (fun k hk => hk)) g3 (w0 := w2) (r := w.heap.size)
    refine ⟨(he.six (Nat.lt_succ_self _) _ _ _ _ _ _).low (Nat.le_succ _), ?_, ((((((hk2.set (Nat.le_refl _) 0 v0).set (Nat.le_refl _) 1 v1).set (Nat.le_refl _) 2 v2).set (Nat.le_refl _) 3 v3).set (Nat.le_refl _) 4 v4).set (Nat.le_refl _) 5 v5)⟩
    obtain ⟨p, m, Fd, O⟩ := g1
    have O6 := (((((O.beside C g3 0 v0).beside C g3 1 v1).beside C g3 2 v2).beside C g3 3 v3).beside C g3 4 v4).beside C g3 5 v5
    have hs6 : ((((((w2.setCell ⟨w.heap.size, 0, none⟩ v0).setCell ⟨w.heap.size, 1, none⟩ v1).setCell ⟨w.heap.size, 2, none⟩ v2).setCell ⟨w.heap.size, 3, none⟩ v3).setCell ⟨w.heap.size, 4, none⟩ v4).setCell ⟨w.heap.size, 5, none⟩ v5).heap.size = w2.heap.size := by simp [World.setCell]
    refine ⟨p, m, Fd, O6.mono (fun k hk => ?_) (fun k hk => ?_)⟩
    · unfold ext; rw [hs6]; exact g2 k hk
    · unfold ext at hk; rw [hs6] at hk ⊢
      have := hk2.size
      rcases hk with hk | hk
      · have := h.low k hk; omega
      · exact hk.2
  clear h hw hn hbA hsA hXA hGr hF1 hF2 hF3 hF4 hF5 hF6 hE hV hsv
  subst hX
  go_enter Tryz.func32, Tryz.ntmps32
  go_wp2_with (first
    | (go_at_call 41; refine HDev.out.mono ?_; rintro e w0 ⟨rfl, hw0⟩; subst w0)
    | (go_at_call 137; refine HC.out.mono ?_; rintro e w1 ⟨rfl, hV1, hk1, hx1, hl1⟩; have HFW : Hid (∀ W, Alike (w1.alloc (.cells #[.int .i64 F1, .int .i64 F2, .int .i64 F3, .int .i64 F4, .string F5, .int .i64 F6] 29)) W → Calls Tryz.prog 56 #[.string ⟨#[115, 116, 97, 116]⟩, .string name, .int .i64 E] W fun r w' => ∃ ev, r = .returned ev ∧ ErrIs w' (w.heap.size + 1) ⟨#[115, 116, 97, 116]⟩ name E ev ∧ (∃ G', PV PS G' q V w' ∧ (∀ k, G' k → ext G w w' k) ∧ ¬ G' w.heap.size) ∧ Kp G w w' ∧ w'.heap[w.heap.size]? = some (.cells #[.int .i64 0, .int .i64 0, .int .i64 0, .int .i64 0, .string ⟨#[]⟩, .int .i64 0] 29 (0, 0)) ∧ w'.heap[w1.heap.size]? = some (.cells #[.int .i64 F1, .int .i64 F2, .int .i64 F3, .int .i64 F4, .string F5, .int .i64 F6] 29 (0, 0))) := (HFa.out w1 hV1 hk1 hx1 hl1); clear hV1 hk1 hx1))
  go_region_with (go_at_call 56; refine (HFW.out _ (Alike.mk ?_ ?_ ?_ ?_)).mono ?_; rfl; rfl; rfl; rfl; rintro e w2 ⟨ev, rfl, he, hV2, hk2, hx2, hy2⟩; obtain ⟨x0, x1, x2, x3, x4, x5, f0, f1, f2, f3, f4, f5⟩ := six_at hx2; obtain ⟨y0, y1, y2, y3, y4, y5, -⟩ := six_at hy2)
  all_goals
    go_wp2
    refine bodyPost_ret (results_cell_tmp1 rfl _ _ w.heap.size _ _ _ _ rfl (six_set hx2 _ _ _ _ _ _) Tryz.underlying29 rfl sizeInf4) rfl ?_
    obtain ⟨r1, r2⟩ := HEnd.out w2 ev he hV2 hk2 (.int .i64 F1) (.int .i64 F2) (.int .i64 F3) (.int .i64 F4) (.string F5) (.int .i64 F6)
    exact ⟨ev, rfl, r1, r2⟩
end Go.Proofs.YtjbphheojfclcaaGreat
