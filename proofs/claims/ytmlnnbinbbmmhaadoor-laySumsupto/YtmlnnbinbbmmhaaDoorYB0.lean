
-- Specs in memory.
import Derived.Test.YtmlnnbinbbmmhaaDoorYA
import Derived.Test.YtmlnnbinbbmmhaaDoorK0
import Derived.Deep.Cut
import Derived.Deep.RegionWith
import Derived.Deep.RegionHeld3
namespace Go.Proofs.YtmlnnbinbbmmhaaDoor
open Go.ChangeShapes Go.WideShapes Go.ChangeAt Go.RowKit
set_option linter.unusedVariables false
set_option maxRecDepth 100000
def enL (x : ByteArray × Int) : List Value := [.string x.1, .int .i64 x.2]
theorem enL_len (x : ByteArray × Int) : (enL x).length = 2 := rfl
theorem enL_one : ∀ x, ∀ u ∈ enL x, u.oneCell' = true := by
  intro x u hu
  simp only [enL, List.mem_cons, List.not_mem_nil, or_false] at hu
  rcases hu with rfl | rfl <;> rfl
theorem RowG.en {w : World} {v : Value} {L : List (ByteArray × Int)} {k : Nat} {x : ByteArray × Int} (h : RowG enL w v L) (hx : L[k]? = some x) : ∃ b off cap, v = .slice (some ⟨b, off, none⟩) L.length cap ∧ w.cell? ⟨b, off + k * 2, none⟩ = some (.string x.1) ∧ w.cell? ⟨b, off + k * 2 + 1, none⟩ = some (.int .i64 x.2) := by
  obtain ⟨b, off, cap, e, _, _, hc⟩ := RowG.at enL_len h hx
  exact ⟨b, off, cap, e, hc 0 _ rfl, hc 1 _ rfl⟩
theorem RowS.getY {w : World} {v : Value} {I : List ByteArray} {j : Nat} (h : RowS w v I) (hj : j < I.length) : ∃ b off cap, v = .slice (some ⟨b, off, none⟩) I.length cap ∧ w.cell? ⟨b, off + j, none⟩ = some (.string (I.getD j .empty)) := by
  rcases h with ⟨rfl, _⟩ | ⟨b, off, cap, rfl, hc⟩
  · simp at hj
  · exact ⟨b, off, cap, rfl, hc j hj⟩
theorem RowS.onY {w w' : World} {v : Value} {I : List ByteArray} (h : RowS w v I) (hb : Below w.heap.size w w') : RowS w' v I := by
  rcases h with h | ⟨b, off, cap, rfl, hc⟩
  · exact .inl h
  · exact .inr ⟨b, off, cap, rfl, fun j hj => cell_onG (hc j hj) hb⟩
theorem spz_at {S : List Sp} {j : Nat} {x : Sp} (h : S[j]? = some x) : spz S j = x.2 := by
  unfold spz; rw [List.getD_eq_getElem?_getD, h]; rfl
theorem below_drewY {n : Nat} {a b : World} (h : Below n a b) (k : Nat) : Below n a (b.drewN k) := by
  induction k with
  | zero => exact h
  | succ k ih => exact ih.drew
end Go.Proofs.YtmlnnbinbbmmhaaDoor
