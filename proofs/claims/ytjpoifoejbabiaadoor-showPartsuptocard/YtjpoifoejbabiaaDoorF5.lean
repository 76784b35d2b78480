
-- The document's own Quote.
import Derived.Test.YtjpoifoejbabiaaDoorF4
import Derived.Lib.AppendStr
import Derived.OwnWalk
namespace Go.Proofs.YtjpoifoejbabiaaDoor
open Go.RowKit
set_option linter.unusedVariables false
set_option maxRecDepth 100000
theorem extq (s : ByteArray) (k n : Nat) : s.extract k (k + n) = strB (((lsq s).drop k).take n) := by
  apply Go.WideShapes.bytes_inj
  simp [strB, lsq]
theorem own_below {w w' : World} {B : Nat} {e : TypeId} {size : Nat} {v : Value} {n : Nat} {xs : List Value} (h : w.ownsRow B e size v n xs) (hb : Below w.heap.size w w') (_hB : B ≤ w.heap.size) : w'.ownsRow B e size v n xs := by
  obtain ⟨h1, h2⟩ := h
  refine ⟨h1, ?_⟩
  rcases h2 with h2 | ⟨g, cap, cur, hv, hg, hh, r⟩
  · exact .inl h2
  · refine .inr ⟨g, cap, cur, hv, hg, ?_, r⟩
    have hlt : g < w.heap.size := (Array.getElem?_eq_some_iff.1 hh).1
    rw [hb.block g hlt]; exact hh
theorem info5f : (Tryd.prog.info? 5).map (fun i => (i.zero, i.size, i.bytes)) = some (some (.int .u8 0), 1, 1) := by kernel_rfl
theorem app_str {w w' : World} {B : Nat} {v v' : Value} {l q : List UInt8} (w0 : World) (hown : w.ownsRow B 5 1 v l.length (Lib.byteCells l)) (hb : Below B w0 w) (hB : B ≤ w.heap.size)
    (hown' : w'.ownsRow B 5 1 v' (l.length + (strB q).size) (Lib.byteCells l ++ Lib.strCells (strB q))) (hg : w.grownBy w' v.ownBlock) :
    w'.ownsRow B 5 1 v' (l ++ q).length (Lib.byteCells (l ++ q)) ∧ Below B w0 w' := by
  have e1 : (strB q).size = q.length := by simp [strB, ByteArray.size]
  have e2 : Lib.strCells (strB q) = Lib.byteCells q := by rw [Lib.strCells_eq]; simp [strB]
  rw [e1, e2] at hown'
  refine ⟨by rw [Lib.byteCells_append, List.length_append]; exact hown', ?_⟩
  exact hb.grown hg hB (fun k hk => (hown.lt k hk).1)
end Go.Proofs.YtjpoifoejbabiaaDoor
