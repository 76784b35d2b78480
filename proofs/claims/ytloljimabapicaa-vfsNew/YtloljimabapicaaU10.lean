
-- The making of a volume; its count; handles.
import Derived.Test.YtloljimabapicaaU9
import Derived.Deep.QuietTactic
import Derived.BigQuiet
import Derived.Deep.RegionWith
namespace Go.Proofs.Ytloljimabapicaa
open Go.RowKit
set_option linter.unusedVariables false
variable {PS : (Nat → Prop) → Nat → St → World → Prop}
set_option maxHeartbeats 4000000 in
theorem fCalls_c (G : Nat → Prop) (q : Nat) (v : Vs) (w : World) (h : PV PS G q v w) :
    Calls Try.prog 6 #[.pointer (some ⟨q, 0, none⟩)] w fun e w' => e = .returned (.int .i64 v.cnt) ∧ w' = w := by
  obtain ⟨p, m, Fd, O⟩ := h
  obtain ⟨c0, c1, c2, c3, c4, cf⟩ := O.cells
  clear O c0 c1 c3 c4 cf
  go_enter Try.func6, Try.ntmps6
  go_wp2
  go_returns
  exact ⟨rfl, rfl⟩
set_option maxHeartbeats 4000000 in
theorem fDown_c (G : Nat → Prop) (q : Nat) (v : Vs) (w : World) (h : PV PS G q v w) :
    Calls Try.prog 7 #[.pointer (some ⟨q, 0, none⟩)] w fun e w' => e = .returned (.bool v.off) ∧ w' = w := by
  obtain ⟨p, m, Fd, O⟩ := h
  obtain ⟨c0, c1, c2, c3, c4, cf⟩ := O.cells
  clear O c0 c1 c2 c4 cf
  go_enter Try.func7, Try.ntmps7
  go_wp2
  go_returns
  exact ⟨rfl, rfl⟩
set_option maxHeartbeats 4000000 in
theorem fNew_no (C : PC PS) (c : Int) (w : World) (hc : c < 0 ∨ 1073741824 < c) : Calls Try.prog 4 #[.int .i64 c] w fun e w' => e = .returned (.pointer none) ∧ Below w.heap.size w w' := by
  have HN : Hid (Calls Try.prog 9 #[.int .i64 c] w fun e w' => e = .returned (.pointer none) ∧ Below w.heap.size w w') := C.new_no c w hc
  clear hc
  go_enter Try.func4, Try.ntmps4
  go_wp2_with (go_at_call 9; refine HN.out.mono ?_; rintro e w1 ⟨rfl, hb1⟩)
  go_returns
  exact ⟨rfl, hb1⟩
set_option maxHeartbeats 4000000 in
theorem fNew_c (C : PC PS) (c : Nat) (w : World) (hc : c ≤ 1073741824) : Calls Try.prog 4 #[.int .i64 c] w fun e w' => ∃ q, e = .returned (.pointer (some ⟨q, 0, none⟩)) ∧ PV PS (fun k => w.heap.size ≤ k ∧ k < w'.heap.size) q (Vs.new c) w' ∧ Below w.heap.size w w' := by
  have HN : Hid (Calls Try.prog 9 #[.int .i64 (c : Int)] w fun e w' => ∃ p, e = .returned (.pointer (some ⟨p, 0, none⟩)) ∧ PS (fun k => w.heap.size ≤ k ∧ k < w'.heap.size) p (St.new c) w' ∧ Below w.heap.size w w') := C.new_c c w hc
  have HE : Hid (∀ p (w1 : World), PS (fun k => w.heap.size ≤ k ∧ k < w1.heap.size) p (St.new c) w1 → Below w.heap.size w w1 → ∀ W, W = w1.alloc (.cells #[.iface 37 (.agg #[.pointer (some ⟨p, 0, none⟩)]), .map none, .int .i64 0, .bool false, .int .i64 0] 44) → PV PS (fun k => w.heap.size ≤ k ∧ k < W.heap.size) w1.heap.size (Vs.new c) W ∧ Below w.heap.size w W) := fun p w1 h1 h2 W hW => by
    have hs := h2.size
    have hb : Below w1.heap.size w1 W := by rw [hW]; exact (Below.refl _ w1).alloc (Nat.le_refl _) _
    have hsW : W.heap.size = w1.heap.size + 1 := by rw [hW]; simp
    refine ⟨⟨p, none, _, C.below h1 hb, fun k hk => ⟨hk.1, by have := hk.2; omega⟩, fun hk => by have := hk.2; omega, ⟨hs, by omega⟩, (fun b hb => by cases hb), ?_, .inl ⟨rfl, fun k _ => rfl⟩, fun k hk => hk.2⟩, h2.trans (hb.mono hs)⟩
    rw [hW]; exact heap_alloc_new _ _
  clear hc
  go_enter Try.func4, Try.ntmps4
  go_wp2_with (go_at_call 9; refine HN.out.mono ?_; rintro e w1 ⟨p, rfl, hp1, hb1⟩)
  go_returns
  exact ⟨_, rfl, HE.out p w1 hp1 hb1 _ rfl⟩
end Go.Proofs.Ytloljimabapicaa
