
-- CommitOldOrNew's walk.
import Derived.Test.YtbbblncoicjacaaGreatDoorLW
import Derived.Deep.CutRange
namespace Go.Proofs.YtbbblncoicjacaaGreatDoor
open Go.ChangeShapes Go.WideShapes Go.ChangeAt Go.RowKit
set_option linter.unusedVariables false
set_option linter.unusedSimpArgs false
set_option maxRecDepth 100000
variable {PS : (Nat → Prop) → Nat → St → World → Prop}
theorem form_row {w : World} {v : Value} {L : List Fil} (h : RowF w v L) : ∃ ao cap, v = .slice ao L.length cap := by
  obtain ⟨ao, cap, e, _, _⟩ := h.form
  exact ⟨ao, cap, e⟩
theorem size_mem {l : List Fil} {x : Fil} (h : x ∈ l) : x.2.2.size ≤ sizeF l := by
  unfold sizeF
  induction l with
  | nil => simp at h
  | cons y r ih =>
    rw [List.map_cons, List.sum_cons]
    rcases List.mem_cons.1 h with rfl | h
    · omega
    · have := ih h; omega
theorem that_eq_others {A L : List Fil} {x : Fil} (h : A = L ∨ A = newF L x) : othersF A x.1 = othersF L x.1 := by
  rcases h with rfl | rfl
  · rfl
  · exact newF_others L x
/-- What the statement asks of the plain volume. -/
theorem oldNew_plain (s : St) (c : Nat) (L : List Fil) (hsc : Sc s [L]) (hcap : s.cap = c) (hb : s.bodies.length < 2097151) (plan : List Flt) (nm da : ByteArray) (m0 m1 m2 m3 : Int) (n : Int) (cuts : List Int) :
    ∃ E v2 A, (⟨s, plan, 0, false, 0⟩ : Vs).replace nm da m0 m1 m2 m3 = ((E, ((⟨s, plan, 0, false, 0⟩ : Vs).replace nm da m0 m1 m2 m3).1.2), v2) ∧ Wf v2.st ∧ v2.round = 0 ∧ Sc (v2.st.crash n cuts) [A] ∧
      othersF A nm = othersF L nm ∧ (E = 0 → hasF A (nm, (m0, m1, m2, m3), da) = true) ∧ (A = L ∨ hasF A (nm, (m0, m1, m2, m3), da) = true) ∧
      (plan = [] → okName nm = true → nm ≠ tmpB → sizeF L + da.size ≤ c → L.length < 64 → E = 0) := by
  obtain ⟨s', a, e, c', h1, h2, h3, h4⟩ := rep_any ⟨s, plan, 0, false, 0⟩ s L hsc hb nm da m0 m1 m2 m3
  have h1' : (⟨s, plan, 0, false, 0⟩ : Vs).replace nm da m0 m1 m2 m3 = ((e, a), c'.on s') := h1
  have hcr := left_crash h2 n cuts
  have hp := pick_or e n L (nm, (m0, m1, m2, m3), da)
  have hrd : (c'.on s').round = 0 := by
    have := repl_round (⟨s, plan, 0, false, 0⟩ : Vs) nm da m0 m1 m2 m3
    rw [h1'] at this; exact this
  refine ⟨e, c'.on s', pickS e n L (nm, (m0, m1, m2, m3), da), by rw [h1'], (left_now h2).2.1, hrd, hcr, that_eq_others (x := (nm, (m0, m1, m2, m3), da)) hp, fun he => ?_, ?_, fun p1 p2 p3 p4 p5 => ?_⟩
  · unfold pickS; rw [if_pos he]; exact newF_has L _
  · rcases hp with h | h
    · exact .inl h
    · exact .inr (by rw [h]; exact newF_has L _)
  · have hc := h3 p3 p2
    rw [notFull hsc p5, hcap, ctl_room (sizeF L) c da _ ⟨rfl, p1⟩ p4] at hc
    exact congrArg Prod.fst hc
/-- The box of a file that came in. -/
def xBox (nm : ByteArray) (m0 m1 m2 m3 : Int) (da : ByteArray) : Obj := .cells #[.string nm, .int .i64 m0, .int .i64 m1, .int .i64 m2, .int .i64 m3, .string da] 26
theorem xbox_cells {w W : World} {nm da : ByteArray} {m0 m1 m2 m3 : Int} (hb : Below (w.heap.size + 1) (w.alloc (xBox nm m0 m1 m2 m3 da)) W) : W.cell? ⟨w.heap.size, 0, none⟩ = some (.string nm) ∧ W.cell? ⟨w.heap.size, 1, none⟩ = some (.int .i64 m0) ∧ W.cell? ⟨w.heap.size, 2, none⟩ = some (.int .i64 m1) ∧ W.cell? ⟨w.heap.size, 3, none⟩ = some (.int .i64 m2) ∧ W.cell? ⟨w.heap.size, 4, none⟩ = some (.int .i64 m3) ∧ W.cell? ⟨w.heap.size, 5, none⟩ = some (.string da) := by
  have h : W.heap[w.heap.size]? = some (.cells #[.string nm, .int .i64 m0, .int .i64 m1, .int .i64 m2, .int .i64 m3, .string da] 26 (0, 0)) := by
    rw [hb.block _ (by omega), heap_alloc_new]; rfl
  refine ⟨?_, ?_, ?_, ?_, ?_, ?_⟩ <;> (rw [Lib.cell_of_heap h]; rfl)
end Go.Proofs.YtbbblncoicjacaaGreatDoor
