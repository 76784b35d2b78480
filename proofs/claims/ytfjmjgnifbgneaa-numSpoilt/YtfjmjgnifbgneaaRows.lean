/-
  No cell of these rows narrows 'for every input' (looked for: loops, veiled, ifaces, maps, wideKeys, modest, calm, conditions, laid).
  DERIVED. THE GIVEN ROWS OF THIS SEAT. 6 by the template 'for every input the law returns true; each argument reads behind the call as it read before'; 0 by the template 'total and deterministic' (their statements: YtfjmjgnifbgneaaTotals.lean).
  GIVEN WITH THE SEED: the statements are not yours to turn. If you find one false, say at which input.
  Laid BY PROGRAM, IN A SANDBOX (cutbox-rows.mjs): the forced cells as the released guide's own fill.sh prints them over the translation a30a4e25196d3113… (all of the seat's roots in one cut). By AI agents, Wed Nov 11 2026. No macro, syntax, notation, axiom, sorry.
-/
import Derived.Test.YtfjmjgnifbgneaaChecked
import GoSem.Claim
import GoSem.ClaimJoined
import GoSem.ClaimMapViews
import Derived.JoinedTies
import Derived.KernelRfl
namespace Go.Proofs.Ytfjmjgnifbgneaa
/- THE CELL 'sum', in the pinned program and in every row, IS THE sha256 OF THE DUMP (.gsa) THAT YtfjmjgnifbgneaaProg.lean LOADS. Nothing in Lean hashes anything: it is a label: what it is worth is what the hold of that sum in a sandbox is worth. -/
noncomputable def Try.pinned : Pinned := { name := "ytfjmjgnifbgneaa", sum := "a30a4e25196d3113f7115c829a44068f75cef746e4f0d51b7675fe5eb6ce8766", checked := Try.checked }
namespace Rows
def none {H : Type} : Left H := { results := [], args := [] }

/-- 'shelflaw1.NumEven': WHATEVER THE INPUT: true; the input reads as it did. -/
def numEvenSpec : ChangeSpec := { name := "numEven", fn := fun _ => fun
  | [d] => { results := [.lit (.bool true)], args := [d] }
  | _ => none }
def numEvenRow : OpenClaim := { program := "ytfjmjgnifbgneaa", sum := "a30a4e25196d3113f7115c829a44068f75cef746e4f0d51b7675fe5eb6ce8766", func := "shelf/shelflaw1.NumEven", spec := "numEven", apart := false }
def NumEvenSaid : Prop := numEvenRow.holds Try.pinned (OpenSpec.ofChange numEvenSpec)

/-- ITS FALSE NEIGHBOUR: 'it returns false'. Refute it at one input. -/
def numEvenWrong : ChangeSpec := { name := "numEven", fn := fun _ => fun
  | [d] => { results := [.lit (.bool false)], args := [d] }
  | _ => none }
def NumEvenWrongFalsely : Prop := numEvenRow.holds Try.pinned (OpenSpec.ofChange numEvenWrong)

/-- 'shelflaw1.NumStore': WHATEVER THE INPUT: true; the input reads as it did. -/
def numStoreSpec : ChangeSpec := { name := "numStore", fn := fun _ => fun
  | [d1, d2, d3] => { results := [.lit (.bool true)], args := [d1, d2, d3] }
  | _ => none }
def numStoreRow : OpenClaim := { program := "ytfjmjgnifbgneaa", sum := "a30a4e25196d3113f7115c829a44068f75cef746e4f0d51b7675fe5eb6ce8766", func := "shelf/shelflaw1.NumStore", spec := "numStore", apart := false }
def NumStoreSaid : Prop := numStoreRow.holds Try.pinned (OpenSpec.ofChange numStoreSpec)

/-- ITS FALSE NEIGHBOUR: 'it returns false'. Refute it at one input. -/
def numStoreWrong : ChangeSpec := { name := "numStore", fn := fun _ => fun
  | [d1, d2, d3] => { results := [.lit (.bool false)], args := [d1, d2, d3] }
  | _ => none }
def NumStoreWrongFalsely : Prop := numStoreRow.holds Try.pinned (OpenSpec.ofChange numStoreWrong)

/-- 'shelflaw1.NumLoadParts': WHATEVER THE INPUT: true; the input reads as it did. -/
def numLoadPartsSpec : ChangeSpec := { name := "numLoadParts", fn := fun _ => fun
  | [d1, d2, d3] => { results := [.lit (.bool true)], args := [d1, d2, d3] }
  | _ => none }
def numLoadPartsRow : OpenClaim := { program := "ytfjmjgnifbgneaa", sum := "a30a4e25196d3113f7115c829a44068f75cef746e4f0d51b7675fe5eb6ce8766", func := "shelf/shelflaw1.NumLoadParts", spec := "numLoadParts", apart := false }
def NumLoadPartsSaid : Prop := numLoadPartsRow.holds Try.pinned (OpenSpec.ofChange numLoadPartsSpec)

/-- ITS FALSE NEIGHBOUR: 'it returns false'. Refute it at one input. -/
def numLoadPartsWrong : ChangeSpec := { name := "numLoadParts", fn := fun _ => fun
  | [d1, d2, d3] => { results := [.lit (.bool false)], args := [d1, d2, d3] }
  | _ => none }
def NumLoadPartsWrongFalsely : Prop := numLoadPartsRow.holds Try.pinned (OpenSpec.ofChange numLoadPartsWrong)

/-- 'shelflaw1.NumLoad': WHATEVER THE INPUT: true; the input reads as it did. -/
def numLoadSpec : ChangeSpec := { name := "numLoad", fn := fun _ => fun
  | [d1, d2, d3, d4] => { results := [.lit (.bool true)], args := [d1, d2, d3, d4] }
  | _ => none }
def numLoadRow : OpenClaim := { program := "ytfjmjgnifbgneaa", sum := "a30a4e25196d3113f7115c829a44068f75cef746e4f0d51b7675fe5eb6ce8766", func := "shelf/shelflaw1.NumLoad", spec := "numLoad", apart := false }
def NumLoadSaid : Prop := numLoadRow.holds Try.pinned (OpenSpec.ofChange numLoadSpec)

/-- ITS FALSE NEIGHBOUR: 'it returns false'. Refute it at one input. -/
def numLoadWrong : ChangeSpec := { name := "numLoad", fn := fun _ => fun
  | [d1, d2, d3, d4] => { results := [.lit (.bool false)], args := [d1, d2, d3, d4] }
  | _ => none }
def NumLoadWrongFalsely : Prop := numLoadRow.holds Try.pinned (OpenSpec.ofChange numLoadWrong)

/-- 'shelflaw1.NumBytesBack': WHATEVER THE INPUT: true; the input reads as it did. -/
def numBytesBackSpec : ChangeSpec := { name := "numBytesBack", fn := fun _ => fun
  | [d1, d2] => { results := [.lit (.bool true)], args := [d1, d2] }
  | _ => none }
def numBytesBackRow : OpenClaim := { program := "ytfjmjgnifbgneaa", sum := "a30a4e25196d3113f7115c829a44068f75cef746e4f0d51b7675fe5eb6ce8766", func := "shelf/shelflaw1.NumBytesBack", spec := "numBytesBack", apart := false }
def NumBytesBackSaid : Prop := numBytesBackRow.holds Try.pinned (OpenSpec.ofChange numBytesBackSpec)

/-- ITS FALSE NEIGHBOUR: 'it returns false'. Refute it at one input. -/
def numBytesBackWrong : ChangeSpec := { name := "numBytesBack", fn := fun _ => fun
  | [d1, d2] => { results := [.lit (.bool false)], args := [d1, d2] }
  | _ => none }
def NumBytesBackWrongFalsely : Prop := numBytesBackRow.holds Try.pinned (OpenSpec.ofChange numBytesBackWrong)

/-- 'shelflaw1.NumSpoilt': WHATEVER THE INPUT: true; the input reads as it did. -/
def numSpoiltSpec : ChangeSpec := { name := "numSpoilt", fn := fun _ => fun
  | [d1, d2, d3] => { results := [.lit (.bool true)], args := [d1, d2, d3] }
  | _ => none }
def numSpoiltRow : OpenClaim := { program := "ytfjmjgnifbgneaa", sum := "a30a4e25196d3113f7115c829a44068f75cef746e4f0d51b7675fe5eb6ce8766", func := "shelf/shelflaw1.NumSpoilt", spec := "numSpoilt", apart := false }
def NumSpoiltSaid : Prop := numSpoiltRow.holds Try.pinned (OpenSpec.ofChange numSpoiltSpec)

/-- ITS FALSE NEIGHBOUR: 'it returns false'. Refute it at one input. -/
def numSpoiltWrong : ChangeSpec := { name := "numSpoilt", fn := fun _ => fun
  | [d1, d2, d3] => { results := [.lit (.bool false)], args := [d1, d2, d3] }
  | _ => none }
def NumSpoiltWrongFalsely : Prop := numSpoiltRow.holds Try.pinned (OpenSpec.ofChange numSpoiltWrong)

/- THE SECOND FORM. 'bulk': how many values and letters a reading holds, each counted each time it is reached (what is shared counts as often as it is met; a slice's spare places count too). A statement '..UptoSaid' is the law's where the arguments, and the package variables that the reading takes, are together of bulk at most 1048576: NARROWER than '..Said'. Prove '..Said' where nothing that the law and all that it calls make is longer than what came in: it says more and counts as full. Else prove '..UptoSaid'. A law counts once. -/
mutual
def uptoBulk {H : Type} : DataW H → Nat
  | .lit (.string bytes) => bytes.length + 1
  | .lit _ => 1
  | .nil => 1
  | .ptr d => uptoBulk d + 1
  | .slice elems spare => uptoBulkAll elems + uptoBulkAll spare + 1
  | .agg parts => uptoBulkAll parts + 1
  | .iface _ d => uptoBulk d + 1
  | .map entries => uptoBulkEntries entries + 1
  | .held _ => 1
def uptoBulkAll {H : Type} : List (DataW H) → Nat
  | [] => 0
  | d :: r => uptoBulk d + uptoBulkAll r
def uptoBulkEntries {H : Type} : List (Lit × DataW H) → Nat
  | [] => 0
  | x :: r => uptoBulkEntry x + uptoBulkEntries r
def uptoBulkEntry {H : Type} : Lit × DataW H → Nat
  | (.string bytes, d) => bytes.length + uptoBulk d + 1
  | (_, d) => uptoBulk d + 1
 end
def uptoSmall : (H : Type) → List (DataW H) → Bool := fun _ ds => decide (uptoBulkAll ds ≤ 1048576)
def OpenSpec.upto (s : _root_.Go.ChangeSpec) : _root_.Go.OpenSpec := { _root_.Go.OpenSpec.ofChange s with cond := some uptoSmall }

/-- 'shelflaw1.NumEven', WHERE WHAT IT READS IS OF BULK AT MOST 1048576: true; the input reads as it did. -/
def numEvenUptoRow : OpenClaim := { program := "ytfjmjgnifbgneaa", sum := "a30a4e25196d3113f7115c829a44068f75cef746e4f0d51b7675fe5eb6ce8766", func := "shelf/shelflaw1.NumEven", spec := "numEven", apart := false, narrowed := true }
def NumEvenUptoSaid : Prop := numEvenUptoRow.holds Try.pinned (OpenSpec.upto numEvenSpec)

/-- 'shelflaw1.NumStore', WHERE WHAT IT READS IS OF BULK AT MOST 1048576: true; the input reads as it did. -/
def numStoreUptoRow : OpenClaim := { program := "ytfjmjgnifbgneaa", sum := "a30a4e25196d3113f7115c829a44068f75cef746e4f0d51b7675fe5eb6ce8766", func := "shelf/shelflaw1.NumStore", spec := "numStore", apart := false, narrowed := true }
def NumStoreUptoSaid : Prop := numStoreUptoRow.holds Try.pinned (OpenSpec.upto numStoreSpec)

/-- 'shelflaw1.NumLoadParts', WHERE WHAT IT READS IS OF BULK AT MOST 1048576: true; the input reads as it did. -/
def numLoadPartsUptoRow : OpenClaim := { program := "ytfjmjgnifbgneaa", sum := "a30a4e25196d3113f7115c829a44068f75cef746e4f0d51b7675fe5eb6ce8766", func := "shelf/shelflaw1.NumLoadParts", spec := "numLoadParts", apart := false, narrowed := true }
def NumLoadPartsUptoSaid : Prop := numLoadPartsUptoRow.holds Try.pinned (OpenSpec.upto numLoadPartsSpec)

/-- 'shelflaw1.NumLoad', WHERE WHAT IT READS IS OF BULK AT MOST 1048576: true; the input reads as it did. -/
def numLoadUptoRow : OpenClaim := { program := "ytfjmjgnifbgneaa", sum := "a30a4e25196d3113f7115c829a44068f75cef746e4f0d51b7675fe5eb6ce8766", func := "shelf/shelflaw1.NumLoad", spec := "numLoad", apart := false, narrowed := true }
def NumLoadUptoSaid : Prop := numLoadUptoRow.holds Try.pinned (OpenSpec.upto numLoadSpec)

/-- 'shelflaw1.NumBytesBack', WHERE WHAT IT READS IS OF BULK AT MOST 1048576: true; the input reads as it did. -/
def numBytesBackUptoRow : OpenClaim := { program := "ytfjmjgnifbgneaa", sum := "a30a4e25196d3113f7115c829a44068f75cef746e4f0d51b7675fe5eb6ce8766", func := "shelf/shelflaw1.NumBytesBack", spec := "numBytesBack", apart := false, narrowed := true }
def NumBytesBackUptoSaid : Prop := numBytesBackUptoRow.holds Try.pinned (OpenSpec.upto numBytesBackSpec)

/-- 'shelflaw1.NumSpoilt', WHERE WHAT IT READS IS OF BULK AT MOST 1048576: true; the input reads as it did. -/
def numSpoiltUptoRow : OpenClaim := { program := "ytfjmjgnifbgneaa", sum := "a30a4e25196d3113f7115c829a44068f75cef746e4f0d51b7675fe5eb6ce8766", func := "shelf/shelflaw1.NumSpoilt", spec := "numSpoilt", apart := false, narrowed := true }
def NumSpoiltUptoSaid : Prop := numSpoiltUptoRow.holds Try.pinned (OpenSpec.upto numSpoiltSpec)

end Rows
end Go.Proofs.Ytfjmjgnifbgneaa
