/-
  No cell of these rows narrows 'for every input' (looked for: loops, veiled, ifaces, maps, wideKeys, modest, calm, conditions, laid).
  DERIVED. THE GIVEN ROWS OF THIS SEAT. 3 by the template 'for every input the law returns true; each argument reads behind the call as it read before'; 0 by the template 'total and deterministic' (their statements: YtfjmjgnifbgneabTotals.lean).
  GIVEN WITH THE SEED: the statements are not yours to turn. If you find one false, say at which input.
  Laid BY PROGRAM, IN A SANDBOX (cutbox-rows.mjs): the forced cells as the released guide's own fill.sh prints them over the translation effa60763c7ba18d… (all of the seat's roots in one cut). By AI agents, Wed Nov 11 2026. No macro, syntax, notation, axiom, sorry.
-/
import Derived.Test.YtfjmjgnifbgneabChecked
import GoSem.Claim
import GoSem.ClaimJoined
import GoSem.ClaimMapViews
import Derived.JoinedTies
import Derived.KernelRfl
namespace Go.Proofs.Ytfjmjgnifbgneab
/- THE CELL 'sum', in the pinned program and in every row, IS THE sha256 OF THE DUMP (.gsa) THAT YtfjmjgnifbgneabProg.lean LOADS. Nothing in Lean hashes anything: it is a label: what it is worth is what the hold of that sum in a sandbox is worth. -/
noncomputable def Try.pinned : Pinned := { name := "ytfjmjgnifbgneab", sum := "effa60763c7ba18decce7d5ffdbd7b7c82e6b78f3d062e83dd6bf53423853a78", checked := Try.checked }
namespace Rows
def none {H : Type} : Left H := { results := [], args := [] }

/-- 'shelflaw1.NumGrows': WHATEVER THE INPUT: true; the input reads as it did. -/
def numGrowsSpec : ChangeSpec := { name := "numGrows", fn := fun _ => fun
  | [d1, d2, d3] => { results := [.lit (.bool true)], args := [d1, d2, d3] }
  | _ => none }
def numGrowsRow : OpenClaim := { program := "ytfjmjgnifbgneab", sum := "effa60763c7ba18decce7d5ffdbd7b7c82e6b78f3d062e83dd6bf53423853a78", func := "shelf/shelflaw1.NumGrows", spec := "numGrows", apart := false }
def NumGrowsSaid : Prop := numGrowsRow.holds Try.pinned (OpenSpec.ofChange numGrowsSpec)

/-- ITS FALSE NEIGHBOUR: 'it returns false'. Refute it at one input. -/
def numGrowsWrong : ChangeSpec := { name := "numGrows", fn := fun _ => fun
  | [d1, d2, d3] => { results := [.lit (.bool false)], args := [d1, d2, d3] }
  | _ => none }
def NumGrowsWrongFalsely : Prop := numGrowsRow.holds Try.pinned (OpenSpec.ofChange numGrowsWrong)

/-- 'shelflaw1.NumDec': WHATEVER THE INPUT: true; the input reads as it did. -/
def numDecSpec : ChangeSpec := { name := "numDec", fn := fun _ => fun
  | [d] => { results := [.lit (.bool true)], args := [d] }
  | _ => none }
def numDecRow : OpenClaim := { program := "ytfjmjgnifbgneab", sum := "effa60763c7ba18decce7d5ffdbd7b7c82e6b78f3d062e83dd6bf53423853a78", func := "shelf/shelflaw1.NumDec", spec := "numDec", apart := false }
def NumDecSaid : Prop := numDecRow.holds Try.pinned (OpenSpec.ofChange numDecSpec)

/-- ITS FALSE NEIGHBOUR: 'it returns false'. Refute it at one input. -/
def numDecWrong : ChangeSpec := { name := "numDec", fn := fun _ => fun
  | [d] => { results := [.lit (.bool false)], args := [d] }
  | _ => none }
def NumDecWrongFalsely : Prop := numDecRow.holds Try.pinned (OpenSpec.ofChange numDecWrong)

/-- 'shelflaw1.NumOct': WHATEVER THE INPUT: true; the input reads as it did. -/
def numOctSpec : ChangeSpec := { name := "numOct", fn := fun _ => fun
  | [d] => { results := [.lit (.bool true)], args := [d] }
  | _ => none }
def numOctRow : OpenClaim := { program := "ytfjmjgnifbgneab", sum := "effa60763c7ba18decce7d5ffdbd7b7c82e6b78f3d062e83dd6bf53423853a78", func := "shelf/shelflaw1.NumOct", spec := "numOct", apart := false }
def NumOctSaid : Prop := numOctRow.holds Try.pinned (OpenSpec.ofChange numOctSpec)

/-- ITS FALSE NEIGHBOUR: 'it returns false'. Refute it at one input. -/
def numOctWrong : ChangeSpec := { name := "numOct", fn := fun _ => fun
  | [d] => { results := [.lit (.bool false)], args := [d] }
  | _ => none }
def NumOctWrongFalsely : Prop := numOctRow.holds Try.pinned (OpenSpec.ofChange numOctWrong)

/- THE SECOND FORM. 'bulk': how many values and letters a reading holds, each counted each time it is reached (what is shared counts as often as it is met; a slice's spare places count too). A statement '..UptoSaid' is the law's where the arguments, and the package variables that the reading takes, are together of bulk at most 1048576: NARROWER than '..Said'. Prove '..Said' where nothing that the law and all that it calls make is longer than what came in: it says more and counts as full. Else prove '..UptoSaid'. A law counts once. -/
mutual
def uptoBulk {H : Type} : DataW H → Nat
  | .lit (.string bytes) => bytes.length + 1
  | .lit _ => 1
  | .nil => 1
  | .ptr d => uptoBulk d + 1
  | .slice elems spare => uptoBulkAll elems + uptoBulkAll spare + 1
  | .agg parts => uptoBulkAll parts + 1
  | .iface _ d => uptoBulk d + 1
  | .map entries => uptoBulkEntries entries + 1
  | .held _ => 1
def uptoBulkAll {H : Type} : List (DataW H) → Nat
  | [] => 0
  | d :: r => uptoBulk d + uptoBulkAll r
def uptoBulkEntries {H : Type} : List (Lit × DataW H) → Nat
  | [] => 0
  | x :: r => uptoBulkEntry x + uptoBulkEntries r
def uptoBulkEntry {H : Type} : Lit × DataW H → Nat
  | (.string bytes, d) => bytes.length + uptoBulk d + 1
  | (_, d) => uptoBulk d + 1
 end
def uptoSmall : (H : Type) → List (DataW H) → Bool := fun _ ds => decide (uptoBulkAll ds ≤ 1048576)
def OpenSpec.upto (s : _root_.Go.ChangeSpec) : _root_.Go.OpenSpec := { _root_.Go.OpenSpec.ofChange s with cond := some uptoSmall }

/-- 'shelflaw1.NumGrows', WHERE WHAT IT READS IS OF BULK AT MOST 1048576: true; the input reads as it did. -/
def numGrowsUptoRow : OpenClaim := { program := "ytfjmjgnifbgneab", sum := "effa60763c7ba18decce7d5ffdbd7b7c82e6b78f3d062e83dd6bf53423853a78", func := "shelf/shelflaw1.NumGrows", spec := "numGrows", apart := false, narrowed := true }
def NumGrowsUptoSaid : Prop := numGrowsUptoRow.holds Try.pinned (OpenSpec.upto numGrowsSpec)

/-- 'shelflaw1.NumDec', WHERE WHAT IT READS IS OF BULK AT MOST 1048576: true; the input reads as it did. -/
def numDecUptoRow : OpenClaim := { program := "ytfjmjgnifbgneab", sum := "effa60763c7ba18decce7d5ffdbd7b7c82e6b78f3d062e83dd6bf53423853a78", func := "shelf/shelflaw1.NumDec", spec := "numDec", apart := false, narrowed := true }
def NumDecUptoSaid : Prop := numDecUptoRow.holds Try.pinned (OpenSpec.upto numDecSpec)

/-- 'shelflaw1.NumOct', WHERE WHAT IT READS IS OF BULK AT MOST 1048576: true; the input reads as it did. -/
def numOctUptoRow : OpenClaim := { program := "ytfjmjgnifbgneab", sum := "effa60763c7ba18decce7d5ffdbd7b7c82e6b78f3d062e83dd6bf53423853a78", func := "shelf/shelflaw1.NumOct", spec := "numOct", apart := false, narrowed := true }
def NumOctUptoSaid : Prop := numOctUptoRow.holds Try.pinned (OpenSpec.upto numOctSpec)

end Rows
end Go.Proofs.Ytfjmjgnifbgneab
