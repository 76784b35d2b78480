
-- goBack: the durable directory is the one that is there.
import Derived.Test.YtloljimabapicaaShelf
import Derived.Test.YtloljimabapicaaVA
import Derived.BigCall
import Derived.BigRegion
import Derived.Deep.LoopGhost
import Derived.WalkMore
import Derived.LoopN
import Derived.Deep.RegionWith
import Derived.Deep.RegionLaw
import Derived.Deep.RegionHeld3
namespace Go.Proofs.Ytloljimabapicaa
open Go.RowKit
set_option linter.unusedVariables false
theorem perm_of_mem {α : Type} {l : List α} {x : α} (h : x ∈ l) : ∃ l', l.Perm (x :: l') := by
  obtain ⟨s, t, rfl⟩ := List.append_of_mem h
  exact ⟨s ++ t, List.perm_middle⟩
theorem RangeAt.perm {d : TypeDesc} {w : World} {b r : Nat} {l left left' : Prs} (h : RangeAt d w b r l left) (hp : left.Perm left') : RangeAt d w b r l left' := by
  obtain ⟨es, clock, since, seen, c0, h1, h2, h3, h4, h5, h6, h7, h8, h9⟩ := h
  exact ⟨es, clock, since, seen, c0, h1, h2, h3, h4, h5, h6, h7, h8, h9.trans hp⟩
theorem map_split {α β : Type} {f : α → β} {d : List α} {p : β} {l' : List β} (h : (d.map f).Perm (p :: l')) : ∃ e d', d.Perm (e :: d') ∧ p = f e ∧ l'.Perm (d'.map f) := by
  obtain ⟨e, he, hp⟩ := List.mem_map.1 (h.mem_iff.2 (by simp) : p ∈ d.map f)
  obtain ⟨d', hd⟩ := perm_of_mem he
  refine ⟨e, d', hd, hp.symm, ?_⟩
  have := h.symm.trans (hd.map f)
  rw [List.map_cons, hp] at this
  exact (List.perm_cons _).1 this
end Go.Proofs.Ytloljimabapicaa
