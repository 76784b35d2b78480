
-- Rows: a beginning, and a cell of the first element that is written.
import Derived.Test.YtjpoifoejbabiaaDoorLG
import Derived.Lib.SmallJoins
namespace Go.Proofs.YtjpoifoejbabiaaDoor
open Go.ChangeShapes Go.WideShapes Go.ChangeAt Go.RowKit
set_option linter.unusedVariables false
set_option maxRecDepth 100000
set_option linter.unusedSimpArgs false
section
variable {α : Type} {c : α → List Value} {z : Nat}
theorem flat_take_get (L : List α) (k j : Nat) (u : Value) (h : ((L.take k).flatMap c)[j]? = some u) : (L.flatMap c)[j]? = some u := by
  have e : L.flatMap c = (L.take k).flatMap c ++ (L.drop k).flatMap c := by rw [← List.flatMap_append, List.take_append_drop]
  rw [e, List.getElem?_append_left (List.getElem?_eq_some_iff.1 h).1]; exact h
theorem rowG_take {w : World} {b off cap n k : Nat} {L : List α} (h : RowG c w (.slice (some ⟨b, off, none⟩) n cap) L) (hn : L.length = n) (hk : k ≤ n) : RowG c w (.slice (some ⟨b, off, none⟩) k cap) (L.take k) := by
  obtain ⟨ao, c1, e, h1, h2, h3, h4⟩ := h
  injection e with e1 e2 e3
  subst e1
  subst e3
  have l1 : (L.take k).length = k := by rw [List.length_take]; omega
  refine ⟨_, cap, by rw [l1], by rw [l1]; omega, h2, (fun h => by cases h), fun hp => ?_⟩
  rw [l1] at hp
  obtain ⟨b', off', e', hc⟩ := h4 (by omega)
  injection e' with e'
  injection e' with e1 e2 _
  refine ⟨b, off, rfl, fun j u hu => ?_⟩
  rw [e1, e2]
  exact hc j u (flat_take_get L k j u hu)
/-- the first element's i-th cell is written -/
theorem own_first {B g cap e n i : Nat} {w : World} {x y : α} {r : List α} {u : Value} (hz : 0 < z) (hc : ∀ x, (c x).length = z) (hi : i < z) (hy : c y = (c x).set i u) (h : w.ownsRow B e z (.slice (some ⟨g, 0, none⟩) n cap) (x :: r).length ((x :: r).flatMap c)) : (w.setCell ⟨g, i, none⟩ u).ownsRow B e z (.slice (some ⟨g, 0, none⟩) n cap) (y :: r).length ((y :: r).flatMap c) := by
  obtain ⟨h1, h2⟩ := h
  have hlen : ∀ a : α, ((a :: r).flatMap c).length = (r.length + 1) * z := by intro a; rw [flatG_len c z hc]; rfl
  refine ⟨by rw [hlen]; rfl, ?_⟩
  rcases h2 with ⟨q, _⟩ | ⟨g', cap', cur, q, hb, hg, hn, hm, hs, ht⟩
  · injection q with q; cases q
  · have q0 := q
    injection q with q1 q2 q3
    injection q1 with q1
    injection q1 with q1 _ _
    subst q1
    subst q3
    refine .inr ⟨g, cap, cur.setIfInBounds i u, q0, hb, ?_, hn, hm, by rw [Array.size_setIfInBounds]; exact hs, ?_⟩
    · exact Joins.block_setCell hg u
    · have e3 : (cur.setIfInBounds i u).toList = cur.toList.set i u := by simp
      have h5 : (r.length + 1) * z = z + r.length * z := by rw [Nat.add_mul]; omega
      simp only [List.length_cons] at ht ⊢
      rw [e3, List.take_set, ht, List.flatMap_cons, List.flatMap_cons, hy, List.set_append_left _ _ (by rw [hc]; exact hi)]
theorem own_cell {B g cap e n i : Nat} {w : World} {x : α} {r : List α} {u : Value} (hc : ∀ x, (c x).length = z) (hx : (c x)[i]? = some u) (h : w.ownsRow B e z (.slice (some ⟨g, 0, none⟩) n cap) (x :: r).length ((x :: r).flatMap c)) : w.cell? ⟨g, i, none⟩ = some u ∧ w.frozen? ⟨g, i, none⟩ = false := by
  rcases h.2 with ⟨q, _⟩ | ⟨g', cap', cur, q, hb, hg, hn, hm, hs, ht⟩
  · injection q with q; cases q
  · injection q with q1 q2 q3
    injection q1 with q1
    injection q1 with q1 _ _
    subst q1
    refine ⟨?_, Joins.unfrozen_of_block hg i⟩
    refine cell_rowK hg i u ?_
    have h6 : ((x :: r).flatMap c)[i]? = some u := by rw [List.flatMap_cons, List.getElem?_append_left (List.getElem?_eq_some_iff.1 hx).1]; exact hx
    rw [← ht, List.getElem?_take] at h6
    split at h6
    · simpa using h6
    · cases h6
theorem own_slice {B e : Nat} {w : World} {v : Value} {L : List α} (hL : L ≠ []) (h : w.ownsRow B e z v L.length (L.flatMap c)) : ∃ g cap, v = .slice (some ⟨g, 0, none⟩) L.length cap ∧ B ≤ g ∧ L.length ≤ cap ∧ cap ≤ maxLen := by
  rcases h.2 with ⟨_, q⟩ | ⟨g, cap, cur, q, hb, hg, hn, hm, hs, ht⟩
  · exact absurd (List.eq_nil_of_length_eq_zero q) hL
  · exact ⟨g, cap, q, hb, hn, hm⟩
end
end Go.Proofs.YtjpoifoejbabiaaDoor
