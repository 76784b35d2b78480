
-- Letter of a symbol: the program's and the document's.
import Derived.Test.YtbmdclgndlddbaaLA
import Derived.Deep.RegionHeld3
import Derived.Deep.CutRange
namespace Go.Proofs.Ytbmdclgndlddbaa
open Go.ChangeShapes Go.WideShapes Go.ChangeAt Go.RowKit
set_option linter.unusedVariables false
set_option maxRecDepth 100000
set_option linter.unusedSimpArgs false
theorem seL_one : ∀ x, ∀ u ∈ seL x, u.oneCell' = true := by
  intro x u hu
  simp only [seL, List.mem_cons, List.not_mem_nil, or_false] at hu
  rcases hu with rfl | rfl | rfl | rfl | rfl | rfl | rfl | rfl <;> rfl
theorem RowG.se {w : World} {v : Value} {L : List Se} {k : Nat} {x : Se} (h : RowG seL w v L) (hx : L[k]? = some x) : ∃ b off cap, v = .slice (some ⟨b, off, none⟩) L.length cap ∧ w.cell? ⟨b, off + k * 8, none⟩ = some (.int .i64 x.nm) ∧ w.cell? ⟨b, off + k * 8 + 1, none⟩ = some (.int .i64 x.ty) ∧ w.cell? ⟨b, off + k * 8 + 2, none⟩ = some (.int .u64 x.fl) ∧ w.cell? ⟨b, off + k * 8 + 3, none⟩ = some (.int .i64 x.lk) ∧ w.cell? ⟨b, off + k * 8 + 4, none⟩ = some (.int .i64 x.inf) ∧ w.cell? ⟨b, off + k * 8 + 5, none⟩ = some (.int .u64 x.ofs) ∧ w.cell? ⟨b, off + k * 8 + 6, none⟩ = some (.int .u64 x.sz) ∧ w.cell? ⟨b, off + k * 8 + 7, none⟩ = some (.int .u64 x.es) := by
  obtain ⟨b, off, cap, e, _, _, hc⟩ := RowG.at seL_len h hx
  exact ⟨b, off, cap, e, hc 0 _ rfl, hc 1 _ rfl, hc 2 _ rfl, hc 3 _ rfl, hc 4 _ rfl, hc 5 _ rfl, hc 6 _ rfl, hc 7 _ rfl⟩
theorem bup0 (w : World) (o : Obj) : Below w.heap.size w (w.alloc o) := bupK (Below.refl _ _) o
/-- the letter by the list of sections -/
def letS (x : Sy) (S : List Se) : Int := letP x S.length (S.getD x.sc.toNat se0).ty (S.getD x.sc.toNat se0).fl
end Go.Proofs.Ytbmdclgndlddbaa
