
-- A list of one's own with a mark behind its end (as in earlier rounds).
import Derived.Test.YtbmdclgndlddbaaAQ
namespace Go.Proofs.Ytbmdclgndlddbaa
open Go.ChangeShapes Go.WideShapes Go.ChangeAt Go.RowKit
set_option linter.unusedVariables false
set_option maxRecDepth 100000
theorem rowG_front {α : Type} {c : α → List Value} {w : World} {ao : Option Addr} {n cap : Nat} {A Q : List α} (h : RowG c w (.slice ao n cap) (A ++ Q)) : RowG c w (.slice ao A.length cap) A := by
  obtain ⟨ao', cap', e, h1, h2, h3, h4⟩ := h
  injection e with e1 e2 e3
  subst e1 e3
  rw [List.length_append] at h1 h4
  refine ⟨_, _, rfl, by omega, h2, h3, fun hp => ?_⟩
  obtain ⟨b, off, e, hc⟩ := h4 (by omega)
  refine ⟨b, off, e, fun j u hu => hc j u ?_⟩
  rw [List.flatMap_append, List.getElem?_append_left (List.getElem?_eq_some_iff.1 hu).1]
  exact hu
/-- a list of one's own with a mark behind it -/
def Tw {α : Type} (c : α → List Value) (z e : Nat) (B : Nat) (w : World) (v : Value) (L : List α) (m : α) : Prop :=
  ∃ g cap, v = .slice (some ⟨g, 0, none⟩) L.length cap ∧ L.length + 1 ≤ cap ∧ cap ≤ maxLen ∧ OwnF (fun b => B ≤ b) c z e w (.slice (some ⟨g, 0, none⟩) (L.length + 1) cap) (L ++ [m])
section
variable {α : Type} {c : α → List Value} {z e sl bytes B : Nat} {w w' : World} {v : Value} {L : List α} {m : α}
theorem Tw.row (E : El c z e sl bytes) (h : Tw c z e B w v L m) : RowG c w v L := by
  obtain ⟨g, cap, rfl, _, _, h1⟩ := h
  exact rowG_front (h1.row E)
theorem Tw.on (h : Tw c z e B w v L m) (hb : Below w.heap.size w w') : Tw c z e B w' v L m := by
  obtain ⟨g, cap, h1, h2, h3, h4⟩ := h
  exact ⟨g, cap, h1, h2, h3, h4.on hb⟩
theorem Tw.le {B' : Nat} (h : Tw c z e B w v L m) (hb : B' ≤ B) : Tw c z e B' w v L m := by
  obtain ⟨g, cap, h1, h2, h3, h4⟩ := h
  exact ⟨g, cap, h1, h2, h3, h4.weak fun k hk => Nat.le_trans hb hk⟩
theorem Tw.full (E : El c z e sl bytes) (h : Tw c z e B w v L m) : ∃ g cap, v = .slice (some ⟨g, 0, none⟩) L.length cap ∧ L.length + 1 ≤ cap ∧ cap ≤ maxLen ∧ RowG c w (.slice (some ⟨g, 0, none⟩) (L.length + 1) cap) (L ++ [m]) := by
  obtain ⟨g, cap, h1, h2, h3, h4⟩ := h
  exact ⟨g, cap, h1, h2, h3, h4.row E⟩
/-- out of a row of one's own that has an element -/
theorem Tw.of {u : Value} (h : OwnF (fun b => B ≤ b) c z e w u (L ++ [m])) : ∃ g cap, u = .slice (some ⟨g, 0, none⟩) (L.length + 1) cap ∧ L.length + 1 ≤ cap ∧ cap ≤ maxLen ∧ Tw c z e B w (.slice (some ⟨g, 0, none⟩) L.length cap) L m := by
  have h0 := h
  rcases h.1.2 with ⟨q, q'⟩ | ⟨g, cap, cur, q1, q2, q3, q4, q5, _⟩
  · simp at q'
  · rw [List.length_append, List.length_singleton] at q1 q4
    subst q1
    exact ⟨g, cap, rfl, q4, q5, g, cap, rfl, q4, q5, h0⟩
theorem Tw.keep (h : Tw c z e B w v L m) (hk : ∀ k cs, w.heap[k]? = some (.cells cs e (0, 0)) → B ≤ k → w'.heap[k]? = w.heap[k]?) : Tw c z e B w' v L m := by
  obtain ⟨g, cap, h1, h2, h3, h4⟩ := h
  refine ⟨g, cap, h1, h2, h3, h4.keep fun k hh => ?_⟩
  obtain ⟨cs, hc⟩ := h4.typed hh
  exact hk k cs hc (h4.2 k hh)
end
end Go.Proofs.Ytbmdclgndlddbaa
