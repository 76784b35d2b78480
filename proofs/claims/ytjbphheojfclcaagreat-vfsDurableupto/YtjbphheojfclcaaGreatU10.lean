
-- The making of a volume; its count; handles.
import Derived.Test.YtjbphheojfclcaaGreatU9
import Derived.Deep.QuietTactic
import Derived.BigQuiet
import Derived.Deep.RegionWith
namespace Go.Proofs.YtjbphheojfclcaaGreat
open Go.RowKit
set_option linter.unusedVariables false
variable {PS : (Nat → Prop) → Nat → St → World → Prop}
set_option maxHeartbeats 4000000 in
theorem fCalls_c (G : Nat → Prop) (q : Nat) (v : Vs) (w : World) (h : PV PS G q v w) :
    Calls Tryz.prog 22 #[.pointer (some ⟨q, 0, none⟩)] w fun e w' => e = .returned (.int .i64 v.cnt) ∧ w' = w := by
  obtain ⟨p, m, Fd, O⟩ := h
  obtain ⟨c0, c1, c2, c3, c4, cf⟩ := O.cells
  clear O c0 c1 c3 c4 cf
  go_enter Tryz.func22, Tryz.ntmps22
  go_wp2
  go_returns
  exact ⟨rfl, rfl⟩
set_option maxHeartbeats 4000000 in
theorem fDown_c (G : Nat → Prop) (q : Nat) (v : Vs) (w : World) (h : PV PS G q v w) :
    Calls Tryz.prog 23 #[.pointer (some ⟨q, 0, none⟩)] w fun e w' => e = .returned (.bool v.off) ∧ w' = w := by
  obtain ⟨p, m, Fd, O⟩ := h
  obtain ⟨c0, c1, c2, c3, c4, cf⟩ := O.cells
  clear O c0 c1 c2 c4 cf
  go_enter Tryz.func23, Tryz.ntmps23
  go_wp2
  go_returns
  exact ⟨rfl, rfl⟩
set_option maxHeartbeats 4000000 in
theorem fNew_no (C : PC PS) (c : Int) (w : World) (hc : c < 0 ∨ 1073741824 < c) : Calls Tryz.prog 29 #[.int .i64 c] w fun e w' => e = .returned (.pointer none) ∧ Below w.heap.size w w' := by
  have HN : Hid (Calls Tryz.prog 24 #[.int .i64 c] w fun e w' => e = .returned (.pointer none) ∧ Below w.heap.size w w') := C.new_no c w hc
  clear hc
  go_enter Tryz.func29, Tryz.ntmps29
  go_wp2_with (go_at_call 24; refine HN.out.mono ?_; rintro e w1 ⟨rfl, hb1⟩)
  go_returns
  exact ⟨rfl, hb1⟩
set_option maxHeartbeats 4000000 in
theorem fNew_c (C : PC PS) (c : Nat) (w : World) (hc : c ≤ 1073741824) : Calls Tryz.prog 29 #[.int .i64 c] w fun e w' => ∃ q, e = .returned (.pointer (some ⟨q, 0, none⟩)) ∧ PV PS (fun k => w.heap.size ≤ k ∧ k < w'.heap.size) q (Vs.new c) w' ∧ Below w.heap.size w w' := by
  have HN : Hid (Calls Tryz.prog 24 #[.int .i64 (c : Int)] w fun e w' => ∃ p, e = .returned (.pointer (some ⟨p, 0, none⟩)) ∧ PS (fun k => w.heap.size ≤ k ∧ k < w'.heap.size) p (St.new c) w' ∧ Below w.heap.size w w') := C.new_c c w hc
  have HE : Hid (∀ p (w1 : World), PS (fun k => w.heap.size ≤ k ∧ k < w1.heap.size) p (St.new c) w1 → Below w.heap.size w w1 → ∀ W, W = w1.alloc (.cells #[.iface 119 (.agg #[.pointer (some ⟨p, 0, none⟩)]), .map none, .int .i64 0, .bool false, .int .i64 0] 95) → PV PS (fun k => w.heap.size ≤ k ∧ k < W.heap.size) w1.heap.size (Vs.new c) W ∧ Below w.heap.size w W) := fun p w1 h1 h2 W hW => by
    have hs := h2.size
    have hb : Below w1.heap.size w1 W := by rw [hW]; exact (Below.refl _ w1).alloc (Nat.le_refl _) _
    have hsW : W.heap.size = w1.heap.size + 1 := by rw [hW]; simp
    refine ⟨⟨p, none, _, C.below h1 hb, fun k hk => ⟨hk.1, by have := hk.2; omega⟩, fun hk => by have := hk.2; omega, ⟨hs, by omega⟩, (fun b hb => by cases hb), ?_, .inl ⟨rfl, fun k _ => rfl⟩, fun k hk => hk.2⟩, h2.trans (hb.mono hs)⟩
    rw [hW]; exact heap_alloc_new _ _
  clear hc
  go_enter Tryz.func29, Tryz.ntmps29
  go_wp2_with (go_at_call 24; refine HN.out.mono ?_; rintro e w1 ⟨p, rfl, hp1, hb1⟩)
  go_returns
  exact ⟨_, rfl, HE.out p w1 hp1 hb1 _ rfl⟩
/-- A handle's cells. -/
def fileV (q : Nat) (h : Hd) : Array Value := #[.pointer (if h.shut = true then none else some ⟨q, 0, none⟩), .string h.name, .int .i64 h.body, .int .i64 h.round]
def FileAt (w : World) (b q : Nat) (h : Hd) : Prop := w.heap[b]? = some (.cells (fileV q h) 129 (0, 0))
theorem FileAt.cells {w : World} {b q : Nat} {h : Hd} (a : FileAt w b q h) : w.cell? ⟨b, 0, none⟩ = some (.pointer (if h.shut = true then none else some ⟨q, 0, none⟩)) ∧ w.cell? ⟨b, 1, none⟩ = some (.string h.name) ∧ w.cell? ⟨b, 2, none⟩ = some (.int .i64 h.body) ∧ w.cell? ⟨b, 3, none⟩ = some (.int .i64 h.round) ∧ ∀ j, w.frozen? ⟨b, j, none⟩ = false := by
  refine ⟨?_, ?_, ?_, ?_, fun j => Lib.frozen_of_heap a j⟩ <;> (rw [Lib.cell_of_heap a]; rfl)
theorem below_of_eq {W w : World} (h1 : W.heap = w.heap) (h2 : W.os = w.os) (h3 : W.tape = w.tape) (h4 : W.output = w.output) : Below w.heap.size w W := ⟨h2, h3, h4, by rw [h1]; exact Nat.le_refl _, fun k _ => by rw [h1]⟩
set_option maxHeartbeats 4000000 in
theorem hClosed_c (G : Nat → Prop) (q : Nat) (v : Vs) (b : Nat) (x : Hd) (w : World) (h : PV PS G q v w) (hb : FileAt w b q x) :
    Calls Tryz.prog 74 #[.pointer (some ⟨b, 0, none⟩)] w fun e w' => e = .returned (.bool (x.closed v)) ∧ ∃ n, w' = w.drewN n := by
  obtain ⟨p, m, Fd, O⟩ := h
  obtain ⟨c0, c1, c2, c3, c4, cf⟩ := O.cells
  obtain ⟨d0, d1, d2, d3, df⟩ := hb.cells
  rcases hs : x.shut with _ | _
  · rw [hs] at d0
    simp only [Bool.false_eq_true, if_false] at d0
    have HE : Hid (x.closed v = ((x.round : Int) != (v.round : Int))) := by
      show _ = _
      unfold Hd.closed; rw [hs]
      by_cases hr : x.round = v.round
      · simp [hr]
      · have : (x.round : Int) ≠ v.round := by omega
        simp [hr, this]
    clear O c0 c1 c2 c3 cf d1 d2 df hs
    go_enter Tryz.func74, Tryz.ntmps74
    go_wp2
    go_quiet (fail)
    go_wp2
    go_returns
    rw [HE.out]
    exact ⟨rfl, nq, rfl⟩
  · rw [hs] at d0
    simp only [if_true] at d0
    have HE : Hid (x.closed v = true) := by show _ = _; unfold Hd.closed; rw [hs]; rfl
    clear O c0 c1 c2 c3 cf d1 d2 df hs
    go_enter Tryz.func74, Tryz.ntmps74
    go_wp2
    go_quiet (fail)
    go_wp2
    go_returns
    rw [HE.out]
    exact ⟨rfl, nq, rfl⟩
theorem below_drewN' (w : World) (n : Nat) : Below w.heap.size w (w.drewN n) := below_drewN (Below.refl _ _) n
set_option maxHeartbeats 4000000 in
theorem hClose_c (G : Nat → Prop) (q : Nat) (v : Vs) (b : Nat) (x : Hd) (w : World) (h : PV PS G q v w) (hb : FileAt w b q x) :
    Calls Tryz.prog 59 #[.pointer (some ⟨b, 0, none⟩)] w fun e w' => ∃ ev, e = .returned ev ∧ ErrIs w' w.heap.size ⟨#[99, 108, 111, 115, 101]⟩ x.name (v.close x).1 ev ∧ FileAt w' b q (v.close x).2 ∧ Kp (fun k => k = b) w w' := by
  have HCl : Hid (Calls Tryz.prog 74 #[.pointer (some ⟨b, 0, none⟩)] w fun e w' => e = .returned (.bool (x.closed v)) ∧ ∃ n, w' = w.drewN n) := hClosed_c G q v b x w h hb
  have HFa : Hid (∀ (e : Nat) w, Calls Tryz.prog 56 #[.string ⟨#[99, 108, 111, 115, 101]⟩, .string x.name, .int .i64 e] w fun r w' => ∃ ev, r = .returned ev ∧ ErrIs w' w.heap.size ⟨#[99, 108, 111, 115, 101]⟩ x.name e ev ∧ Below w.heap.size w w') := fun e w => failed_c _ _ e w
  have HB : Hid (FileAt w b q x) := hb
  rcases hc : x.closed v with _ | _
  · have HE : Hid (v.close x = (0, { x with shut := true })) := by show _ = _; unfold Vs.close; rw [hc]; rfl
    rw [hc] at HCl
    have fz : ∀ n, (w.drewN n).frozen? ⟨b, 0, none⟩ = false ∧ ∃ u, (w.drewN n).cell? ⟨b, 0, none⟩ = some u := fun n => by
      have := HB.out
      unfold FileAt at this
      have h2 : (w.drewN n).heap[b]? = some (.cells (fileV q x) 129 (0, 0)) := by rw [(drewN_eq w n).1]; exact this
      exact ⟨Lib.frozen_of_heap h2 0, _, by rw [Lib.cell_of_heap h2]; rfl⟩
    have HFZ : Hid (∀ n, (w.drewN n).frozen? ⟨b, 0, none⟩ = false ∧ ∃ u, (w.drewN n).cell? ⟨b, 0, none⟩ = some u) := fz
    clear h hb hc fz
    go_enter Tryz.func59, Tryz.ntmps59
    go_wp2_with (go_at_call 74; refine HCl.out.mono ?_; rintro e w1 ⟨rfl, n1, rfl⟩; obtain ⟨fz, u, hu⟩ := HFZ.out n1)
    go_returns
    rw [HE.out]
    have hq := drewN_eq w n1
    refine ⟨_, rfl, .inl ⟨rfl, rfl⟩, ?_, ?_⟩
    · unfold FileAt
      have h2 : (w.drewN n1).heap[b]? = some (.cells (fileV q x) 129 (0, 0)) := by rw [hq.1]; exact HB.out
      rw [blk_set h2]; rfl
    · refine ⟨hq.2.1, hq.2.2.1, hq.2.2.2, by simp [World.setCell], fun k _ hk => ?_⟩
      rw [Below.heap_setCell _ _ _ _ (by show k ≠ b; exact hk), hq.1]
  · have HE : Hid (v.close x = (42, x)) := by show _ = _; unfold Vs.close; rw [hc]; rfl
    rw [hc] at HCl
    have HD : Hid (∀ n, (w.drewN n).cell? ⟨b, 1, none⟩ = some (.string x.name)) := fun n => by
      have h2 : (w.drewN n).heap[b]? = some (.cells (fileV q x) 129 (0, 0)) := by rw [(drewN_eq w n).1]; exact hb
      rw [Lib.cell_of_heap h2]; rfl
    clear h hb hc
    go_enter Tryz.func59, Tryz.ntmps59
    go_wp2_with (first
      | (go_at_call 74; refine HCl.out.mono ?_; rintro e w1 ⟨rfl, n1, rfl⟩; have d1 := HD.out n1)
      | (go_at_call 56; refine (HFa.out 42 _).mono ?_; rintro e w2 ⟨ev, rfl, he, hbb⟩))
    go_returns
    rw [HE.out]
    have hq := drewN_eq w n1
    have hb2 : Below w.heap.size w w2 := (below_drewN' w n1).trans (hbb.mono (by rw [hq.1]; exact Nat.le_refl _))
    refine ⟨ev, rfl, he.low (by rw [hq.1]; exact Nat.le_refl _), ?_, Kp.of_below hb2⟩
    exact (hb2.block b (Array.getElem?_eq_some_iff.1 HB.out).1).trans HB.out
/-- The same memory. -/
structure Alike (w W : World) : Prop where
  heap : W.heap = w.heap
  os : W.os = w.os
  tape : W.tape = w.tape
  output : W.output = w.output
theorem Alike.below {w W : World} (h : Alike w W) : Below w.heap.size w W := below_of_eq h.heap h.os h.tape h.output
theorem Alike.drewN (w : World) (n : Nat) : Alike w (w.drewN n) := ⟨(drewN_eq w n).1, (drewN_eq w n).2.1, (drewN_eq w n).2.2.1, (drewN_eq w n).2.2.2⟩
theorem FileAt.below {w w' : World} {b q : Nat} {x : Hd} (h : FileAt w b q x) (hb : Below w.heap.size w w') : FileAt w' b q x := (hb.block b (Array.getElem?_eq_some_iff.1 h).1).trans h
theorem FileAt.kept {G : Nat → Prop} {w w' : World} {b q : Nat} {x : Hd} (h : FileAt w b q x) (hk : Kp G w w') (hG : ¬ G b) : FileAt w' b q x := (hk.block b (Array.getElem?_eq_some_iff.1 h).1 hG).trans h
end Go.Proofs.YtjbphheojfclcaaGreat
