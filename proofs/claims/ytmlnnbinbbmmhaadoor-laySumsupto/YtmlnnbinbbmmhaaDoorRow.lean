
-- A slice of strings that reads as a list.
import Derived.Test.YtmlnnbinbbmmhaaDoorRows
import Derived.WalkKit
namespace Go.Proofs.YtmlnnbinbbmmhaaDoor
open Go.RowKit
/-- A slice of strings reads as this list. -/
def RowS (w : World) (v : Value) (l : List ByteArray) : Prop :=
  (l = [] ∧ ∃ ao c, v = .slice ao 0 c) ∨ ∃ b off cap, v = .slice (some ⟨b, off, none⟩) l.length cap ∧ ∀ j, j < l.length → w.cell? ⟨b, off + j, none⟩ = some (.string (l.getD j .empty))
theorem RowS.form {w : World} {v : Value} {l : List ByteArray} (h : RowS w v l) : ∃ ao cap, v = .slice ao l.length cap := by
  rcases h with ⟨rfl, ao, c, rfl⟩ | ⟨b, off, cap, rfl, _⟩
  · exact ⟨ao, c, rfl⟩
  · exact ⟨_, _, rfl⟩
end Go.Proofs.YtmlnnbinbbmmhaaDoor
