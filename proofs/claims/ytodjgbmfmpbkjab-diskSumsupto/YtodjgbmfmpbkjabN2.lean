
-- An Append and the room (the statement's walk).
import Derived.Test.YtodjgbmfmpbkjabG2
import Derived.Test.YtodjgbmfmpbkjabP3
import Derived.Deep.QuietTactic
import Derived.BigQuiet
namespace Go.Proofs.Ytodjgbmfmpbkjab
open Go.RowKit
set_option linter.unusedVariables false
variable {PS : (Nat → Prop) → Nat → St → World → Prop}
/-- The program's volume behind k calls. -/
structure Run (PS : (Nat → Prop) → Nat → St → World → Prop) (B : Nat) (p : Nat) (c : Nat) (st : St) (k : Nat) (w : World) : Prop where
  one : ∃ F, One PS B F p st w
  wf : Wf st
  dw : DW st
  cap : st.cap = c
  bodies : st.bodies.length ≤ k + 1
  dirs : st.dirs.length ≤ k + 2
theorem start_DW (c : Nat) (h : c ≤ 1073741824) : DW (St.start c) := by
  have := step_DW (new_DW c) (new_wf c h) ⟨1, 0, 0, fName, fName, 0, 0, 0, 0, .slice none 0 0, []⟩
  exact this
theorem Run.step {B : Nat} {p c : Nat} {st : St} {k : Nat} {w w' : World} (h : Run PS B p c st k w) (hk : k < 2097150) (o : Opx) (t : ∃ F, One PS B F p (st.step o) w') : Run PS B p c (st.step o) (k + 1) w' := by
  have f := step_fine h.wf o (by have := h.bodies; omega) (by have := h.dirs; omega)
  exact ⟨t, f.wf, step_DW h.dw h.wf o, by rw [f.cap, h.cap], by have := f.bodies; have := h.bodies; omega, by have := f.dirs; have := h.dirs; omega⟩
theorem run_do (C : PC PS) {B : Nat} {p c : Nat} {st : St} {k : Nat} {w : World} {o : Opx} (h : Run PS B p c st k w) (hk : k < 2097150) (hB : B ≤ w.heap.size) (ho : OpOk B o w) :
    Calls Try.prog 13 #[.pointer (some ⟨p, 0, none⟩), o.v] w fun e w' => e = .returned (.int .i64 (st.err o)) ∧ Run PS B p c (st.step o) (k + 1) w' ∧ Below B w w' := by
  obtain ⟨F, t⟩ := h.one
  refine (do_c C B F p st o w t h.wf hB ho).mono ?_
  rintro e w' ⟨rfl, F', t', hb⟩
  exact ⟨rfl, h.step hk o ⟨F', t'⟩, hb⟩
theorem Run.below (C : PC PS) {B : Nat} {p c : Nat} {st : St} {k : Nat} {w w' : World} (h : Run PS B p c st k w) (hb : Below w.heap.size w w') : Run PS B p c st k w' := by
  obtain ⟨F, t⟩ := h.one
  exact ⟨⟨F, t.below C hb⟩, h.wf, h.dw, h.cap, h.bodies, h.dirs⟩
theorem run_start (C : PC PS) (c : Nat) (w : World) (h : c ≤ 1073741824) : Calls Try.prog 9 #[.int .i64 c] w fun e w' => ∃ p, e = .returned (.tuple #[.pointer (some ⟨p, 0, none⟩), .bool true]) ∧ Run PS w.heap.size p c (St.start c) 0 w' ∧ Below w.heap.size w w' := by
  refine (started_c C c w h).mono ?_
  rintro e w' ⟨F, p, rfl, t, hb⟩
  have f := start_fine c h
  exact ⟨p, rfl, ⟨⟨F, t⟩, f.wf, start_DW c h, f.cap, by have := f.bodies; simp [St.new] at this; omega, by have := f.dirs; simp [St.new] at this; omega⟩, hb⟩
end Go.Proofs.Ytodjgbmfmpbkjab
