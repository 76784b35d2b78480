
-- shelflaw8.kept, wide, twin: contracts.
import Derived.Test.YtmlnnbinbbmmhaaDoorE3
import Derived.Test.YtmlnnbinbbmmhaaDoorG2v
import Derived.OwnWalk
import Derived.Deep.MidRow
namespace Go.Proofs.YtmlnnbinbbmmhaaDoor
open Go.ChangeShapes Go.WideShapes Go.ChangeAt Go.RowKit
set_option linter.unusedVariables false
set_option maxRecDepth 100000

def strV (l : List ByteArray) : List Value := l.map .string
theorem strV_length (l : List ByteArray) : (strV l).length = l.length := by simp [strV]
theorem ownBelow {w w' : World} {B : Nat} {v : Value} {n : Nat} {xs : List Value} (h : w.ownsRow B 9 1 v n xs) (hb : Below w.heap.size w w') : w'.ownsRow B 9 1 v n xs :=
  h.kept (row := none) ⟨hb.os, hb.tape, hb.output, hb.size, fun k hk _ => hb.block k hk⟩ (by cases hv : v.ownBlock <;> simp)
theorem RowS.of_own {w : World} {B : Nat} {v : Value} {l : List ByteArray} (h : w.ownsRow B 9 1 v l.length (strV l)) : RowS w v l := by
  rcases h.2 with ⟨rfl, h0⟩ | ⟨g, cap, cur, rfl, _⟩
  · exact .inl ⟨List.eq_nil_of_length_eq_zero h0, _, _, rfl⟩
  · refine .inr ⟨g, 0, cap, rfl, fun j hj => ?_⟩
    have := h.cells (g := g) rfl j (.string (l.getD j .empty)) (by simp [strV, List.getD, List.getElem?_eq_getElem hj])
    have e : (⟨g, 0, none⟩ : Addr).add j = ⟨g, 0 + j, none⟩ := by
      unfold Addr.add
      split
      · simp_all
      · simp
    rw [e] at this; exact this
theorem RowS.cells {w : World} {v : Value} {l : List ByteArray} (h : RowS w v l) : ∃ ao cap, v = .slice ao l.length cap ∧ ∀ j, j < l.length → ∃ b off, ao = some ⟨b, off, none⟩ ∧ b < w.heap.size ∧ w.cell? ⟨b, off + j, none⟩ = some (.string (l.getD j .empty)) := by
  rcases h with ⟨h0, ao, c, rfl⟩ | ⟨b, off, cap, rfl, hc⟩
  · exact ⟨ao, c, by rw [h0]; rfl, fun j hj => by rw [h0] at hj; simp at hj⟩
  · exact ⟨some ⟨b, off, none⟩, cap, rfl, fun j hj => ⟨b, off, rfl, block_lt_of_cell (hc j hj), hc j hj⟩⟩
theorem RowS.on {w w' : World} {v : Value} {l : List ByteArray} (h : RowS w v l) (b : Below w.heap.size w w') : RowS w' v l := by
  rcases h with h | ⟨bk, off, cap, rfl, hc⟩
  · exact .inl h
  · exact .inr ⟨bk, off, cap, rfl, fun j hj => (b.cell (p := ⟨bk, off + j, none⟩) (block_lt_of_cell (hc j hj))).trans (hc j hj)⟩
def okN (s : ByteArray) : Bool := validL s.data.toList
theorem filter_next (L : List ByteArray) (j : Nat) (hj : j < L.length) : (L.take (j + 1)).filter okN = (L.take j).filter okN ++ (if okN (L.getD j .empty) = true then [L.getD j .empty] else []) := by
  rw [List.take_add_one, List.filter_append, List.getElem?_eq_getElem hj]
  congr 1
  have : L.getD j .empty = L[j] := by simp [List.getD, List.getElem?_eq_getElem hj]
  rw [this]
  simp [List.filter_cons]
end Go.Proofs.YtmlnnbinbbmmhaaDoor
