-- Strings in cells.
import Derived.Test.YthdgkghefjnfgacWords
import Derived.Test.YthdgkghefjnfgacRow
import Derived.WalkKit
import Derived.OwnWalk
import Derived.Deep.Draws
namespace Go.Proofs.Ythdgkghefjnfgac
open Go.RowKit
theorem info9 : (Try.prog.info? 9).map (fun i => (i.zero, i.size, i.bytes)) = some (some (.string ⟨#[]⟩), 1, 16) := by kernel_rfl
def strV (l : List ByteArray) : List Value := l.map .string
theorem strV_length (l : List ByteArray) : (strV l).length = l.length := by simp [strV]
theorem below_drewN {n : Nat} {a b : World} (h : Below n a b) (k : Nat) : Below n a (b.drewN k) := by
  induction k with
  | zero => exact h
  | succ k ih => exact ih.drew
end Go.Proofs.Ythdgkghefjnfgac
