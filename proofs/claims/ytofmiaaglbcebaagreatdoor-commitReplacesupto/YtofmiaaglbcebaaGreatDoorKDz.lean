import Derived.Test.YtofmiaaglbcebaaGreatDoorKCz
import Derived.Test.YtofmiaaglbcebaaGreatDoorU12z

-- commit.exchange: a new file in the place of the one of this name.
namespace Go.Proofs.YtofmiaaglbcebaaGreatDoor
open Go.RowKit
set_option linter.unusedVariables false
variable {PS : (Nat → Prop) → Nat → St → World → Prop}
/-- An error that lies beside blocks of G, and behind B. -/
def ErrO (w : World) (G : Nat → Prop) (B : Nat) (op name : ByteArray) (e : Nat) (ev : Value) : Prop :=
  (e = 0 ∧ ev = .nilIface) ∨ (e ≠ 0 ∧ ∃ b, B ≤ b ∧ ev = .iface 112 (.pointer (some ⟨b, 0, none⟩)) ∧ w.heap[b]? = some (.cells #[.string op, .string name, .int .i64 e] 115 (0, 0)) ∧ ¬ G b)
theorem ErrO.is {w : World} {G : Nat → Prop} {B : Nat} {op name : ByteArray} {e : Nat} {ev : Value} (h : ErrO w G B op name e ev) : ErrIs w B op name e ev := by
  rcases h with h | ⟨h0, b, h1, h2, h3, h4⟩
  · exact .inl h
  · exact .inr ⟨h0, b, h1, h2, h3⟩
/-- What calls have done, and the error that they told, beside the volume's memory. -/
def EDg (PS : (Nat → Prop) → Nat → St → World → Prop) (G : Nat → Prop) (q : Nat) (v : Vs) (w w' : World) (op name : ByteArray) (e : Nat) (ev : Value) : Prop :=
  ∃ G', PV PS G' q v w' ∧ (∀ k, G' k → G k ∨ w.heap.size ≤ k) ∧ (∀ k, G k → G' k) ∧ Kp G w w' ∧ ErrO w' G' w.heap.size op name e ev
theorem ErrIs.out {w : World} {G : Nat → Prop} {B : Nat} {op name : ByteArray} {e : Nat} {ev : Value} (h : ErrIs w B op name e ev) (hG : ∀ k, G k → k < B) : ErrO w G B op name e ev := by
  rcases h with h | ⟨h0, b, h1, h2, h3⟩
  · exact .inl h
  · exact .inr ⟨h0, b, h1, h2, h3, fun hb => by have := hG b hb; omega⟩
theorem ErrO.low {w : World} {G : Nat → Prop} {B B' : Nat} {op name : ByteArray} {e : Nat} {ev : Value} (h : ErrO w G B op name e ev) (hB : B' ≤ B) : ErrO w G B' op name e ev := by
  rcases h with h | ⟨h0, b, h1, h2, h3, h4⟩
  · exact .inl h
  · exact .inr ⟨h0, b, by omega, h2, h3, h4⟩
theorem ErrO.kept {w w' : World} {F G G' : Nat → Prop} {B : Nat} {op name : ByteArray} {e : Nat} {ev : Value} (h : ErrO w G B op name e ev) (hk : Kp F w w') (hF : ∀ k, F k → k < B ∨ G k) (hG : ∀ k, G' k → G k ∨ w.heap.size ≤ k) : ErrO w' G' B op name e ev := by
  rcases h with h | ⟨h0, b, h1, h2, h3, h4⟩
  · exact .inl h
  · have hl := (Array.getElem?_eq_some_iff.1 h3).1
    refine .inr ⟨h0, b, h1, h2, (hk.block b hl fun hb => ?_).trans h3, fun hb => ?_⟩
    · rcases hF b hb with h' | h'
      · omega
      · exact h4 h'
    · rcases hG b hb with h' | h'
      · exact h4 h'
      · omega
/-- Within exchange: the volume, the box of its pointer, the box of the result. -/
structure Ex (PS : (Nat → Prop) → Nat → St → World → Prop) (G0 : Nat → Prop) (q : Nat) (v : Vs) (w0 : World) (G : Nat → Prop) (w : World) (x : Value) : Prop where
  vol : PV PS G q v w
  sub : ∀ k, G k → G0 k ∨ w0.heap.size + 3 ≤ k
  sup : ∀ k, G0 k → G k
  low0 : ∀ k, G0 k → k < w0.heap.size
  fsb : w.heap[w0.heap.size]? = some (.cells #[.pointer (some ⟨q, 0, none⟩)] 25 (0, 0))
  err : w.heap[w0.heap.size + 2]? = some (.cells #[x] 56 (0, 0))
  kept : Kp G0 w0 w
section
variable {G0 G : Nat → Prop} {q : Nat} {v v' : Vs} {w0 w w' : World} {x y : Value}
theorem Ex.nin (h : Ex PS G0 q v w0 G w x) {j : Nat} (h1 : w0.heap.size ≤ j) (h2 : j < w0.heap.size + 3) : ¬ G j := fun hj => by
  rcases h.sub j hj with h' | h'
  · have := h.low0 j h'; omega
  · omega
theorem Ex.big (h : Ex PS G0 q v w0 G w x) : w0.heap.size + 3 ≤ w.heap.size := (Array.getElem?_eq_some_iff.1 h.err).1
theorem Ex.cells (h : Ex PS G0 q v w0 G w x) : w.cell? ⟨w0.heap.size, 0, none⟩ = some (.pointer (some ⟨q, 0, none⟩)) ∧ w.cell? ⟨w0.heap.size + 2, 0, none⟩ = some x ∧ w.frozen? ⟨w0.heap.size + 2, 0, none⟩ = false := by
  refine ⟨?_, ?_, Lib.frozen_of_heap h.err 0⟩
  · rw [Lib.cell_of_heap h.fsb]; rfl
  · rw [Lib.cell_of_heap h.err]; rfl
theorem Ex.set (C : PC PS) (h : Ex PS G0 q v w0 G w x) (y : Value) : Ex PS G0 q v w0 G (w.setCell ⟨w0.heap.size + 2, 0, none⟩ y) y := by
  have oth : ∀ k, k ≠ w0.heap.size + 2 → (w.setCell ⟨w0.heap.size + 2, 0, none⟩ y).heap[k]? = w.heap[k]? := fun k hk => Below.heap_setCell _ _ _ _ hk
  refine ⟨h.vol.same C (by simp [World.setCell]) (fun k hk _ => oth k fun e => h.nin (j := k) (by omega) (by omega) hk), h.sub, h.sup, h.low0, (oth _ (by omega)).trans h.fsb, ?_, h.kept.set (by omega) 0 y⟩
  rw [blk_set h.err]; rfl
theorem Ex.turn (h : Ex PS G0 q v w0 G w x) {G' : Nat → Prop} (hv : PV PS G' q v' w') (hk : Kp G w w') (h1 : ∀ k, G' k → G k ∨ w.heap.size ≤ k) (h2 : ∀ k, G k → G' k) : Ex PS G0 q v' w0 G' w' x := by
  have hb := h.big
  refine ⟨hv, fun k hk' => ?_, fun k hk' => h2 k (h.sup k hk'), h.low0, (hk.block _ (by omega) (h.nin (by omega) (by omega))).trans h.fsb, (hk.block _ (by omega) (h.nin (by omega) (by omega))).trans h.err, h.kept.comp hk fun i hi => ?_⟩
  · rcases h1 k hk' with h' | h'
    · exact h.sub k h'
    · exact .inr (by omega)
  · rcases h.sub i hi with h' | h'
    · exact .inl h'
    · exact .inr (by omega)
end
def opAt (a : Nat) : ByteArray := if a = 3 then ⟨#[99, 114, 101, 97, 116, 101]⟩ else if a = 4 then ⟨#[119, 114, 105, 116, 101]⟩ else if a = 5 then ⟨#[115, 121, 110, 99]⟩ else ⟨#[114, 101, 110, 97, 109, 101]⟩
set_option maxHeartbeats 4000000 in
theorem undoD_nil (pe pf : Addr) (u : FrameMode) (w : World) (hc : w.cell? pe = some .nilIface) :
    CallsD Tryz.prog 71 #[.pointer (some pe), .pointer (some pf)] u w fun e u' w' => u' = u ∧ (e = .returned (.tuple #[]) ∧ w' = w) := by
  go_enter_d Tryz.func71, Tryz.ntmps71
  go_wp2
  go_end0
  exact ⟨rfl, rfl⟩
set_option maxHeartbeats 4000000 in
theorem undoD_err (C : PC PS) (G : Nat → Prop) (q : Nat) (v : Vs) (pe pf : Addr) (eb : Nat) (u : FrameMode) (w : World) (h : PV PS G q v w) (hw : Wf v.st) (hn : v.cnt ≤ 4194304) (hc : w.cell? pe = some (.iface 112 (.pointer (some ⟨eb, 0, none⟩)))) (hf : w.cell? pf = some (.pointer (some ⟨q, 0, none⟩))) :
    CallsD Tryz.prog 71 #[.pointer (some pe), .pointer (some pf)] u w fun e u' w' => u' = u ∧ (e = .returned (.tuple #[]) ∧ VDid PS G q (v.remove tmpB).2 w w') := by
  have HR : Hid (Calls Tryz.prog 72 #[.pointer (some ⟨q, 0, none⟩), .string ⟨#[97, 114, 46, 116, 109, 112, 126]⟩] w fun e w' => ∃ ev, e = .returned ev ∧ ErrIs w' w.heap.size ⟨#[114, 101, 109, 111, 118, 101]⟩ tmpB (v.remove tmpB).1 ev ∧ VDid PS G q (v.remove tmpB).2 w w') := fRemove_c C G q v tmpB w h hw hn
  clear h hw hn
  go_enter_d Tryz.func71, Tryz.ntmps71
  go_wp2_with (go_at_call 72; refine HR.out.mono ?_; rintro e w1 ⟨ev, rfl, he, hd⟩)
  go_end0
  exact ⟨rfl, hd⟩
end Go.Proofs.YtofmiaaglbcebaaGreatDoor
