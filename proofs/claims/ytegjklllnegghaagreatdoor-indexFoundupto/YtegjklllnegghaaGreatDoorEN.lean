
-- Entries in memory.
import Derived.Test.YtegjklllnegghaaGreatDoorI1
import Derived.Test.YtegjklllnegghaaGreatDoorKQ
import Derived.Laws.AppendOwnNone
namespace Go.Proofs.YtegjklllnegghaaGreatDoor
open Go.ChangeShapes Go.WideShapes Go.ChangeAt Go.RowKit
set_option linter.unusedVariables false
set_option maxRecDepth 100000
def enC (x : En) : List Value := [.string x.name, .int .i64 x.pl]
def cellsE (L : List En) : List Value := L.flatMap enC
theorem cellsE_len (L : List En) : (cellsE L).length = L.length * 2 := by
  induction L with
  | nil => rfl
  | cons x r ih => simp only [cellsE, List.flatMap_cons, List.length_append, List.length_cons] at *; rw [ih]; simp [enC]; omega
theorem cellsE_append (a b : List En) : cellsE (a ++ b) = cellsE a ++ cellsE b := by unfold cellsE; rw [List.flatMap_append]
theorem cellsE_get (L : List En) (j : Nat) (x : En) (h : L[j]? = some x) : (cellsE L)[2 * j]? = some (.string x.name) ∧ (cellsE L)[2 * j + 1]? = some (.int .i64 x.pl) := by
  induction L generalizing j with
  | nil => simp at h
  | cons y r ih =>
    cases j with
    | zero => simp at h; subst h; exact ⟨rfl, rfl⟩
    | succ j =>
      have := ih j (by simpa using h)
      simp only [cellsE, List.flatMap_cons, enC]
      rw [show 2 * (j + 1) = 2 * j + 1 + 1 by omega]
      exact this
theorem infoE : (Tryz.prog.info? 33).map (fun i => (i.zero, i.size, i.bytes)) = some (some (.agg #[.string ⟨#[]⟩, .int .i64 0]), 2, 24) := by kernel_rfl
theorem range_snoc (f : Nat → En) (k : Nat) : (List.range (k + 1)).map f = (List.range k).map f ++ [f k] := by rw [List.range_succ, List.map_append]; rfl
theorem cellsE_snoc (f : Nat → En) (k : Nat) : cellsE ((List.range (k + 1)).map f) = cellsE ((List.range k).map f) ++ [.string (f k).name, .int .i64 (f k).pl] := by
  rw [range_snoc, cellsE_append]; rfl
/-- what a Decode says -/
def DecSays (E : Int) (L : List En) (w : World) (e : Ending) (w' : World) : Prop :=
  ∃ a n c, e = .returned (.tuple #[.slice a n c, .int .i64 E]) ∧ w'.ownsRow w.heap.size 33 2 (.slice a n c) L.length (cellsE L) ∧ Below w.heap.size w w'
theorem own_sliceE {w : World} {B : Nat} {e : TypeId} {s k : Nat} {v : Value} {xs : List Value} (h : w.ownsRow B e s v k xs) : ∃ a n c, v = .slice a n c := by
  rcases h.2 with ⟨rfl, _⟩ | ⟨g, cap, cur, rfl, _⟩
  · exact ⟨_, _, _, rfl⟩
  · exact ⟨_, _, _, rfl⟩
theorem own_nilE (w : World) (B : Nat) (e : TypeId) (s : Nat) : w.ownsRow B e s (.slice none 0 0) 0 [] := ⟨by simp, .inl ⟨rfl, rfl⟩⟩
/-- a slice of entries reads as a list -/
def RowE (w : World) (v : Value) (L : List En) : Prop :=
  (L = [] ∧ ∃ ao c, v = .slice ao 0 c) ∨ ∃ b off cap, v = .slice (some ⟨b, off, none⟩) L.length cap ∧ ∀ j x, L[j]? = some x → w.cell? ⟨b, off + 2 * j, none⟩ = some (.string x.name) ∧ w.cell? ⟨b, off + 2 * j + 1, none⟩ = some (.int .i64 x.pl)
theorem RowE.on {w w' : World} {v : Value} {L : List En} (h : RowE w v L) (hb : Below w.heap.size w w') : RowE w' v L := by
  rcases h with h | ⟨b, off, cap, rfl, hc⟩
  · exact .inl h
  · refine .inr ⟨b, off, cap, rfl, fun j x hj => ?_⟩
    obtain ⟨c1, c2⟩ := hc j x hj
    exact ⟨(hb.cell (p := ⟨b, off + 2 * j, none⟩) (World.block_lt_of_cell? _ _ c1)).trans c1, (hb.cell (p := ⟨b, off + 2 * j + 1, none⟩) (World.block_lt_of_cell? _ _ c2)).trans c2⟩
theorem RowE.form {w : World} {v : Value} {L : List En} (h : RowE w v L) : ∃ ao cap, v = .slice ao L.length cap := by
  rcases h with ⟨rfl, ao, c, rfl⟩ | ⟨b, off, cap, rfl, _⟩
  · exact ⟨ao, c, rfl⟩
  · exact ⟨_, _, rfl⟩
theorem rowE_own {w : World} {B : Nat} {v : Value} {L : List En} (h : w.ownsRow B 33 2 v L.length (cellsE L)) : RowE w v L := by
  rcases h.2 with ⟨rfl, h0⟩ | ⟨g, cap, cur, rfl, hg, hr, hc, hm, hs, ht⟩
  · exact .inl ⟨List.eq_nil_of_length_eq_zero h0, _, _, rfl⟩
  · refine .inr ⟨g, 0, cap, rfl, fun j x hj => ?_⟩
    obtain ⟨c1, c2⟩ := cellsE_get L j x hj
    have hl := (List.getElem?_eq_some_iff.1 hj).1
    rw [← ht] at c1 c2
    rw [List.getElem?_take_of_lt (by omega)] at c1 c2
    rw [Nat.zero_add]
    exact ⟨cell_rowK hr _ _ (by simpa using c1), cell_rowK hr _ _ (by simpa using c2)⟩
theorem rowL_len (b : List UInt8) (w n : Nat) : (rowL b w n).length = n := by simp [rowL]
end Go.Proofs.YtegjklllnegghaaGreatDoor
