
-- One Vol with boxes beside: its plan, its restart, its handles let go; which step names a file.
import Derived.Test.YtjbphheojfclcaaGreatZUP
import Derived.Test.YtjbphheojfclcaaGreatZZP
namespace Go.Proofs.YtjbphheojfclcaaGreat
open Go.RowKit
set_option linter.unusedVariables false
set_option maxRecDepth 100000
variable {PS : (Nat → Prop) → Nat → St → World → Prop}
section
variable {vb : Nat} {x x' : Vl} {w W W' : World} {rs : List Nat}
theorem OneS.vad {S : Nat → Prop} (h2 : ∀ k, S k → w.heap.size ≤ k) (h3 : ∀ r ∈ rs, ¬ S r ∧ r < W.heap.size) (h4 : Below w.heap.size w W) (hd : VAD PS S vb x' W W') : OneS PS vb x' w rs W' ∧ ∀ r ∈ rs, W'.heap[r]? = W.heap[r]? := by
  have hs := hd.2.size
  refine ⟨⟨ext S W W', hd.1, fun k hk => ?_, fun r hr => ⟨fun hx => ?_, by have := (h3 r hr).2; omega⟩, h4.trans (hd.2.below (B := w.heap.size) h2 h4.size)⟩, fun r hr => hd.2.block r (h3 r hr).2 (h3 r hr).1⟩
  · rcases hk with hk | hk
    · exact h2 k hk
    · have := h4.size; omega
  · rcases hx with hx | hx
    · exact (h3 r hr).1 hx
    · have := (h3 r hr).2; omega
theorem OneS.arm (C : PC PS) (h : OneS PS vb x w rs W) : ∃ q, W.cell? ⟨vb, 0, none⟩ = some (.pointer (some ⟨q, 0, none⟩)) ∧
    ∀ W' plan pv, Below W.heap.size W W' → RowP W' pv plan → (plan ≠ [] → ∀ k, pv.ownBlock = some k → k < w.heap.size) → plan.length ≤ 4194304 → Calls Tryz.prog 16 #[.pointer (some ⟨q, 0, none⟩), pv] W' fun e w' => e = .returned (.tuple #[]) ∧ OneS PS vb (x.arm plan) w rs w' ∧ (∀ r ∈ rs, w'.heap[r]? = W.heap[r]?) ∧ w'.cell? ⟨vb, 0, none⟩ = some (.pointer (some ⟨q, 0, none⟩)) := by
  obtain ⟨S, ⟨q, mv, G, hs, T⟩, h2, h3, h4⟩ := h
  refine ⟨q, T.cells.1, fun W' plan pv hb hp hn hl => ?_⟩
  have TW := T.below C hb
  refine (fArm_c C G q x.v plan pv W' TW.pp hp (fun hne k hk hG => by have := hn hne k hk; have := h2 k (T.sub k hG); omega) hl).mono ?_
  rintro e w' ⟨rfl, hd⟩
  obtain ⟨t, hk⟩ := TW.did hd
  obtain ⟨g1, g2⟩ := OneS.vad (PS := PS) (x' := x.arm plan) h2 (fun r hr => ⟨(h3 r hr).1, Nat.lt_of_lt_of_le (h3 r hr).2 hb.size⟩) (h4.trans (hb.mono h4.size)) ⟨⟨_, _, _, _, t⟩, hk⟩
  exact ⟨rfl, g1, fun r hr => (g2 r hr).trans (hb.block r (h3 r hr).2), t.cells.1⟩
theorem OneS.restart (C : PC PS) (h : OneS PS vb x w rs W) {k : Nat} (hk : Vlf x k) (hkk : k ≤ 4194304) : ∃ q, W.cell? ⟨vb, 0, none⟩ = some (.pointer (some ⟨q, 0, none⟩)) ∧
    ∀ W' n cv cuts, Below W.heap.size W W' → RowI W' cv cuts → (cuts ≠ [] → ∀ k, cv.ownBlock = some k → k < w.heap.size) → cuts.length ≤ 4194304 → Calls Tryz.prog 19 #[.pointer (some ⟨q, 0, none⟩), .int .i64 n, cv] W' fun e w' => e = .returned (.tuple #[]) ∧ OneS PS vb (x.restart n cuts) w rs w' ∧ (∀ r ∈ rs, w'.heap[r]? = W.heap[r]?) ∧ w'.cell? ⟨vb, 0, none⟩ = some (.pointer (some ⟨q, 0, none⟩)) := by
  obtain ⟨S, ⟨q, mv, G, hs, T⟩, h2, h3, h4⟩ := h
  refine ⟨q, T.cells.1, fun W' n cv cuts hb hr hn hl => ?_⟩
  have TW := T.below C hb
  refine (fRestart_c C G q x.v n cv cuts W' TW.pp hk.vf.wf (by have := hk.vf.round; omega) hr (fun hne j hj hG => by have := hn hne j hj; have := h2 j (T.sub j hG); omega) hl).mono ?_
  rintro e w' ⟨rfl, hd⟩
  obtain ⟨t, hk⟩ := TW.did hd
  obtain ⟨g1, g2⟩ := OneS.vad (PS := PS) (x' := x.restart n cuts) h2 (fun r hr => ⟨(h3 r hr).1, Nat.lt_of_lt_of_le (h3 r hr).2 hb.size⟩) (h4.trans (hb.mono h4.size)) ⟨⟨_, _, _, _, t⟩, hk⟩
  exact ⟨rfl, g1, fun r hr => (g2 r hr).trans (hb.block r (h3 r hr).2), t.cells.1⟩
/-- The handles are let go. -/
theorem OneS.drop (C : PC PS) (h : OneS PS vb x w rs W) : (∃ mv, W.cell? ⟨vb, 1, none⟩ = some mv) ∧ W.frozen? ⟨vb, 1, none⟩ = false ∧ OneS PS vb ⟨x.v, []⟩ w rs (W.setCell ⟨vb, 1, none⟩ (.slice none 0 0)) ∧ ∀ r ∈ rs, (W.setCell ⟨vb, 1, none⟩ (.slice none 0 0)).heap[r]? = W.heap[r]? := by
  obtain ⟨S, ⟨q, mv, G, hs, T⟩, h2, h3, h4⟩ := h
  obtain ⟨e1, e2, e3, e4⟩ := sc_rest W ⟨vb, 1, none⟩ (.slice none 0 0)
  have ho : ∀ k, k ≠ vb → (W.setCell ⟨vb, 1, none⟩ (.slice none 0 0)).heap[k]? = W.heap[k]? := fun k hk => by
    simp only [World.setCell]
    rw [Array.getElem?_modify, if_neg (fun e => hk e.symm)]
  have hvb := h2 vb T.own
  refine ⟨⟨mv, T.cells.2.1⟩, T.cells.2.2 1, ⟨S, ⟨q, .slice none 0 0, G, [], ?_⟩, h2, fun r hr => ⟨(h3 r hr).1, by rw [e1]; exact (h3 r hr).2⟩, ⟨e2.trans h4.os, e3.trans h4.tape, e4.trans h4.output, by rw [e1]; exact h4.size, fun k hk => (ho k (by omega)).trans (h4.block k hk)⟩⟩, fun r hr => ho r fun e => (h3 r hr).1 (e ▸ T.own)⟩
  refine ⟨?_, T.pp.same C (Nat.le_of_eq e1.symm) (fun k hk _ => ho k fun e => T.nG (e ▸ hk)), rfl, T.sub, T.own, T.nG, World.ownsRow_nil _ _ _ _, fun k hk => (by cases hk), fun i a y hh => (by simp at hh), List.nodup_nil, fun k hk => by rw [e1]; exact T.low k hk⟩
  exact blk_set T.blk _
end
theorem beq_a (a b : ByteArray) : (a.toList == b.toList) = decide (a = b) := by rw [beqS]
set_option maxHeartbeats 4000000 in
theorem touches_c (K n : Int) (a b : ByteArray) (m0 m1 m2 m3 : Int) (po : Option Addr) (pl pc : Nat) (co : Option Addr) (cl cc : Nat) (nm : ByteArray) (w : World) :
    Calls Tryz.prog 18 #[.agg #[.int .i64 K, .int .i64 n, .string a, .string b, .int .i64 m0, .int .i64 m1, .int .i64 m2, .int .i64 m3, .slice po pl pc, .slice co cl cc], .string nm] w fun e w' => e = .returned (.bool (touch ⟨K, n, a, b, m0, m1, m2, m3⟩ nm)) ∧ Below w.heap.size w w' := by
  have HB : Hid (∀ X, Below w.heap.size w (w.alloc X)) := fun X => (Below.refl _ w).alloc (Nat.le_refl _) _
  obtain ⟨ea, hea⟩ : ∃ e, e = decide (a = nm) := ⟨_, rfl⟩
  obtain ⟨eb, heb⟩ : ∃ e, e = decide (b = nm) := ⟨_, rfl⟩
  have e1 : (a.toList == nm.toList) = ea := by rw [beq_a, hea]
  have e2 : (b.toList == nm.toList) = eb := by rw [beq_a, heb]
  unfold touch
  simp only
  rw [← hea, ← heb]
  clear hea heb
  by_cases h4 : K = 4
  · subst h4
    rw [if_pos (.inl rfl)]
    go_enter Tryz.func18, Tryz.ntmps18
    go_wp2
    go_returns
    exact ⟨rfl, HB.out _⟩
  by_cases h6 : K = 6
  · subst h6
    rw [if_pos (.inr rfl)]
    go_enter Tryz.func18, Tryz.ntmps18
    go_wp2
    go_returns
    exact ⟨rfl, HB.out _⟩
  rw [if_neg (by omega)]
  by_cases h5 : K = 5
  · subst h5
    rw [if_pos rfl]
    cases ea
    · go_enter Tryz.func18, Tryz.ntmps18
      go_wp2
      go_returns
      exact ⟨by simp, HB.out _⟩
    · go_enter Tryz.func18, Tryz.ntmps18
      go_wp2
      go_returns
      exact ⟨by simp, HB.out _⟩
  rw [if_neg h5]
  have b4 : (K == (4 : Int)) = false := by simpa using h4
  have b5 : (K == (5 : Int)) = false := by simpa using h5
  have b6 : (K == (6 : Int)) = false := by simpa using h6
  clear h4 h5 h6
  go_enter Tryz.func18, Tryz.ntmps18
  go_wp2
  go_returns
  exact ⟨rfl, HB.out _⟩
end Go.Proofs.YtjbphheojfclcaaGreat
