
import Derived.Test.YtjpoifoejbabiaaDoorW3
namespace Go.Proofs.YtjpoifoejbabiaaDoor
open Go.RowKit
set_option linter.unusedVariables false
set_option maxRecDepth 100000
theorem info9 : (Tryd.prog.info? 9).map (fun i => (i.zero, i.size, i.bytes)) = some (some (.string ⟨#[]⟩), 1, 16) := by kernel_rfl
def strV (l : List ByteArray) : List Value := l.map .string
theorem strV_length (l : List ByteArray) : (strV l).length = l.length := by simp [strV]
theorem app_strs {w w' : World} {B : Nat} {v v' : Value} {l : List ByteArray} {c : ByteArray} (w0 : World) (o : Obj) (hown : w.ownsRow B 9 1 v l.length (strV l)) (hb : Below B w0 w) (hB : B ≤ w.heap.size)
    (hown' : w'.ownsRow B 9 1 v' (l.length + 1) (strV l ++ [.string c])) (hg : (w.alloc o).grownBy w' v.ownBlock) :
    w'.ownsRow B 9 1 v' (l ++ [c]).length (strV (l ++ [c])) ∧ Below B w0 w' := by
  refine ⟨by simpa [strV] using hown', ?_⟩
  exact (hb.alloc hB o).grown hg (by simp; omega) (fun k hk => (hown.lt k hk).1)
/-- What Words answers, and in which memory. -/
def WordsGave (r : WRes) (w : World) (e : Ending) (w' : World) : Prop :=
  Below w.heap.size w w' ∧ match r with
  | .inr ws => ∃ v, e = .returned (.tuple #[v, .int .i64 0, .int .i64 0]) ∧ w'.ownsRow w.heap.size 9 1 v ws.length (strV ws)
  | .inl (p, c) => c ≠ 0 ∧ c < 100 ∧ e = .returned (.tuple #[.slice none 0 0, .int .i64 p, .int .i64 c])
end Go.Proofs.YtjpoifoejbabiaaDoor
