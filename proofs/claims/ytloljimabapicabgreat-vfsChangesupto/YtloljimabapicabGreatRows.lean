/-
  No cell of these rows narrows 'for every input' (looked for: loops, veiled, ifaces, maps, wideKeys, modest, calm, conditions, laid).
  DERIVED. THE GIVEN ROWS OF THIS SEAT. 6 by the template 'for every input the law returns true; each argument reads behind the call as it read before'; 0 by the template 'total and deterministic' (their statements: YtloljimabapicabGreatTotals.lean).
  GIVEN WITH THE SEED: the statements are not yours to turn. If you find one false, say at which input.
  Laid BY PROGRAM, IN A SANDBOX (cutbox-rows.mjs): the forced cells as the released guide's own fill.sh prints them over the translation 9e3c0d417f2138ef… (all of the seat's roots in one cut). By AI agents, Wed Nov 11 2026. No macro, syntax, notation, axiom, sorry.
-/
import Derived.Test.YtloljimabapicabGreatChecked
import GoSem.Claim
import GoSem.ClaimJoined
import GoSem.ClaimMapViews
import Derived.JoinedTies
import Derived.KernelRfl
namespace Go.Proofs.YtloljimabapicabGreat
/- THE CELL 'sum', in the pinned program and in every row, IS THE sha256 OF THE DUMP (.gsa) THAT YtloljimabapicabGreatProg.lean LOADS. Nothing in Lean hashes anything: it is a label: what it is worth is what the hold of that sum in a sandbox is worth. -/
noncomputable def Tryz.pinned : Pinned := { name := "ytloljimabapicabgreat", sum := "9e3c0d417f2138efe001634e3a7cd106aa55ae7193a5fcb56b665a7342ec4ebb", checked := Tryz.checked }
namespace Rows
def none {H : Type} : Left H := { results := [], args := [] }

/-- 'shelflaw4.VfsDown': WHATEVER THE INPUT: true; the input reads as it did. -/
def vfsDownSpec : ChangeSpec := { name := "vfsDown", fn := fun _ => fun
  | [d1, d2, d3, d4, d5, d6] => { results := [.lit (.bool true)], args := [d1, d2, d3, d4, d5, d6] }
  | _ => none }
def vfsDownRow : OpenClaim := { program := "ytloljimabapicabgreat", sum := "9e3c0d417f2138efe001634e3a7cd106aa55ae7193a5fcb56b665a7342ec4ebb", func := "shelf/shelflaw4.VfsDown", spec := "vfsDown", unfollowed := true, recurses := true, apart := false }
def VfsDownSaid : Prop := vfsDownRow.holds Tryz.pinned (OpenSpec.ofChange vfsDownSpec)

/-- ITS FALSE NEIGHBOUR: 'it returns false'. Refute it at one input. -/
def vfsDownWrong : ChangeSpec := { name := "vfsDown", fn := fun _ => fun
  | [d1, d2, d3, d4, d5, d6] => { results := [.lit (.bool false)], args := [d1, d2, d3, d4, d5, d6] }
  | _ => none }
def VfsDownWrongFalsely : Prop := vfsDownRow.holds Tryz.pinned (OpenSpec.ofChange vfsDownWrong)

/-- 'shelflaw4.VfsReads': WHATEVER THE INPUT: true; the input reads as it did. -/
def vfsReadsSpec : ChangeSpec := { name := "vfsReads", fn := fun _ => fun
  | [d1, d2] => { results := [.lit (.bool true)], args := [d1, d2] }
  | _ => none }
def vfsReadsRow : OpenClaim := { program := "ytloljimabapicabgreat", sum := "9e3c0d417f2138efe001634e3a7cd106aa55ae7193a5fcb56b665a7342ec4ebb", func := "shelf/shelflaw4.VfsReads", spec := "vfsReads", unfollowed := true, recurses := true, apart := false }
def VfsReadsSaid : Prop := vfsReadsRow.holds Tryz.pinned (OpenSpec.ofChange vfsReadsSpec)

/-- ITS FALSE NEIGHBOUR: 'it returns false'. Refute it at one input. -/
def vfsReadsWrong : ChangeSpec := { name := "vfsReads", fn := fun _ => fun
  | [d1, d2] => { results := [.lit (.bool false)], args := [d1, d2] }
  | _ => none }
def VfsReadsWrongFalsely : Prop := vfsReadsRow.holds Tryz.pinned (OpenSpec.ofChange vfsReadsWrong)

/-- 'shelflaw4.VfsChanges': WHATEVER THE INPUT: true; the input reads as it did. -/
def vfsChangesSpec : ChangeSpec := { name := "vfsChanges", fn := fun _ => fun
  | [d1, d2] => { results := [.lit (.bool true)], args := [d1, d2] }
  | _ => none }
def vfsChangesRow : OpenClaim := { program := "ytloljimabapicabgreat", sum := "9e3c0d417f2138efe001634e3a7cd106aa55ae7193a5fcb56b665a7342ec4ebb", func := "shelf/shelflaw4.VfsChanges", spec := "vfsChanges", unfollowed := true, recurses := true, apart := false }
def VfsChangesSaid : Prop := vfsChangesRow.holds Tryz.pinned (OpenSpec.ofChange vfsChangesSpec)

/-- ITS FALSE NEIGHBOUR: 'it returns false'. Refute it at one input. -/
def vfsChangesWrong : ChangeSpec := { name := "vfsChanges", fn := fun _ => fun
  | [d1, d2] => { results := [.lit (.bool false)], args := [d1, d2] }
  | _ => none }
def VfsChangesWrongFalsely : Prop := vfsChangesRow.holds Tryz.pinned (OpenSpec.ofChange vfsChangesWrong)

/-- 'shelflaw4.VfsHandles': WHATEVER THE INPUT: true; the input reads as it did. -/
def vfsHandlesSpec : ChangeSpec := { name := "vfsHandles", fn := fun _ => fun
  | [d1, d2] => { results := [.lit (.bool true)], args := [d1, d2] }
  | _ => none }
def vfsHandlesRow : OpenClaim := { program := "ytloljimabapicabgreat", sum := "9e3c0d417f2138efe001634e3a7cd106aa55ae7193a5fcb56b665a7342ec4ebb", func := "shelf/shelflaw4.VfsHandles", spec := "vfsHandles", unfollowed := true, recurses := true, apart := false }
def VfsHandlesSaid : Prop := vfsHandlesRow.holds Tryz.pinned (OpenSpec.ofChange vfsHandlesSpec)

/-- ITS FALSE NEIGHBOUR: 'it returns false'. Refute it at one input. -/
def vfsHandlesWrong : ChangeSpec := { name := "vfsHandles", fn := fun _ => fun
  | [d1, d2] => { results := [.lit (.bool false)], args := [d1, d2] }
  | _ => none }
def VfsHandlesWrongFalsely : Prop := vfsHandlesRow.holds Tryz.pinned (OpenSpec.ofChange vfsHandlesWrong)

/-- 'shelflaw4.VfsCounts': WHATEVER THE INPUT: true; the input reads as it did. -/
def vfsCountsSpec : ChangeSpec := { name := "vfsCounts", fn := fun _ => fun
  | [d1, d2] => { results := [.lit (.bool true)], args := [d1, d2] }
  | _ => none }
def vfsCountsRow : OpenClaim := { program := "ytloljimabapicabgreat", sum := "9e3c0d417f2138efe001634e3a7cd106aa55ae7193a5fcb56b665a7342ec4ebb", func := "shelf/shelflaw4.VfsCounts", spec := "vfsCounts", unfollowed := true, recurses := true, apart := false }
def VfsCountsSaid : Prop := vfsCountsRow.holds Tryz.pinned (OpenSpec.ofChange vfsCountsSpec)

/-- ITS FALSE NEIGHBOUR: 'it returns false'. Refute it at one input. -/
def vfsCountsWrong : ChangeSpec := { name := "vfsCounts", fn := fun _ => fun
  | [d1, d2] => { results := [.lit (.bool false)], args := [d1, d2] }
  | _ => none }
def VfsCountsWrongFalsely : Prop := vfsCountsRow.holds Tryz.pinned (OpenSpec.ofChange vfsCountsWrong)

/-- 'shelflaw4.VfsExact': WHATEVER THE INPUT: true; the input reads as it did. -/
def vfsExactSpec : ChangeSpec := { name := "vfsExact", fn := fun _ => fun
  | [d1, d2] => { results := [.lit (.bool true)], args := [d1, d2] }
  | _ => none }
def vfsExactRow : OpenClaim := { program := "ytloljimabapicabgreat", sum := "9e3c0d417f2138efe001634e3a7cd106aa55ae7193a5fcb56b665a7342ec4ebb", func := "shelf/shelflaw4.VfsExact", spec := "vfsExact", unfollowed := true, recurses := true, apart := false }
def VfsExactSaid : Prop := vfsExactRow.holds Tryz.pinned (OpenSpec.ofChange vfsExactSpec)

/-- ITS FALSE NEIGHBOUR: 'it returns false'. Refute it at one input. -/
def vfsExactWrong : ChangeSpec := { name := "vfsExact", fn := fun _ => fun
  | [d1, d2] => { results := [.lit (.bool false)], args := [d1, d2] }
  | _ => none }
def VfsExactWrongFalsely : Prop := vfsExactRow.holds Tryz.pinned (OpenSpec.ofChange vfsExactWrong)

/- THE SECOND FORM. 'bulk': how many values and letters a reading holds, each counted each time it is reached (what is shared counts as often as it is met; a slice's spare places count too). A statement '..UptoSaid' is the law's where the arguments, and the package variables that the reading takes, are together of bulk at most 1048576: NARROWER than '..Said'. Prove '..Said' where nothing that the law and all that it calls make is longer than what came in: it says more and counts as full. Else prove '..UptoSaid'. A law counts once. -/
mutual
def uptoBulk {H : Type} : DataW H → Nat
  | .lit (.string bytes) => bytes.length + 1
  | .lit _ => 1
  | .nil => 1
  | .ptr d => uptoBulk d + 1
  | .slice elems spare => uptoBulkAll elems + uptoBulkAll spare + 1
  | .agg parts => uptoBulkAll parts + 1
  | .iface _ d => uptoBulk d + 1
  | .map entries => uptoBulkEntries entries + 1
  | .held _ => 1
def uptoBulkAll {H : Type} : List (DataW H) → Nat
  | [] => 0
  | d :: r => uptoBulk d + uptoBulkAll r
def uptoBulkEntries {H : Type} : List (Lit × DataW H) → Nat
  | [] => 0
  | x :: r => uptoBulkEntry x + uptoBulkEntries r
def uptoBulkEntry {H : Type} : Lit × DataW H → Nat
  | (.string bytes, d) => bytes.length + uptoBulk d + 1
  | (_, d) => uptoBulk d + 1
 end
def uptoSmall : (H : Type) → List (DataW H) → Bool := fun _ ds => decide (uptoBulkAll ds ≤ 1048576)
def OpenSpec.upto (s : _root_.Go.ChangeSpec) : _root_.Go.OpenSpec := { _root_.Go.OpenSpec.ofChange s with cond := some uptoSmall }

/-- 'shelflaw4.VfsDown', WHERE WHAT IT READS IS OF BULK AT MOST 1048576: true; the input reads as it did. -/
def vfsDownUptoRow : OpenClaim := { program := "ytloljimabapicabgreat", sum := "9e3c0d417f2138efe001634e3a7cd106aa55ae7193a5fcb56b665a7342ec4ebb", func := "shelf/shelflaw4.VfsDown", spec := "vfsDown", unfollowed := true, recurses := true, apart := false, narrowed := true }
def VfsDownUptoSaid : Prop := vfsDownUptoRow.holds Tryz.pinned (OpenSpec.upto vfsDownSpec)

/-- 'shelflaw4.VfsReads', WHERE WHAT IT READS IS OF BULK AT MOST 1048576: true; the input reads as it did. -/
def vfsReadsUptoRow : OpenClaim := { program := "ytloljimabapicabgreat", sum := "9e3c0d417f2138efe001634e3a7cd106aa55ae7193a5fcb56b665a7342ec4ebb", func := "shelf/shelflaw4.VfsReads", spec := "vfsReads", unfollowed := true, recurses := true, apart := false, narrowed := true }
def VfsReadsUptoSaid : Prop := vfsReadsUptoRow.holds Tryz.pinned (OpenSpec.upto vfsReadsSpec)

/-- 'shelflaw4.VfsChanges', WHERE WHAT IT READS IS OF BULK AT MOST 1048576: true; the input reads as it did. -/
def vfsChangesUptoRow : OpenClaim := { program := "ytloljimabapicabgreat", sum := "9e3c0d417f2138efe001634e3a7cd106aa55ae7193a5fcb56b665a7342ec4ebb", func := "shelf/shelflaw4.VfsChanges", spec := "vfsChanges", unfollowed := true, recurses := true, apart := false, narrowed := true }
def VfsChangesUptoSaid : Prop := vfsChangesUptoRow.holds Tryz.pinned (OpenSpec.upto vfsChangesSpec)

/-- 'shelflaw4.VfsHandles', WHERE WHAT IT READS IS OF BULK AT MOST 1048576: true; the input reads as it did. -/
def vfsHandlesUptoRow : OpenClaim := { program := "ytloljimabapicabgreat", sum := "9e3c0d417f2138efe001634e3a7cd106aa55ae7193a5fcb56b665a7342ec4ebb", func := "shelf/shelflaw4.VfsHandles", spec := "vfsHandles", unfollowed := true, recurses := true, apart := false, narrowed := true }
def VfsHandlesUptoSaid : Prop := vfsHandlesUptoRow.holds Tryz.pinned (OpenSpec.upto vfsHandlesSpec)

/-- 'shelflaw4.VfsCounts', WHERE WHAT IT READS IS OF BULK AT MOST 1048576: true; the input reads as it did. -/
def vfsCountsUptoRow : OpenClaim := { program := "ytloljimabapicabgreat", sum := "9e3c0d417f2138efe001634e3a7cd106aa55ae7193a5fcb56b665a7342ec4ebb", func := "shelf/shelflaw4.VfsCounts", spec := "vfsCounts", unfollowed := true, recurses := true, apart := false, narrowed := true }
def VfsCountsUptoSaid : Prop := vfsCountsUptoRow.holds Tryz.pinned (OpenSpec.upto vfsCountsSpec)

/-- 'shelflaw4.VfsExact', WHERE WHAT IT READS IS OF BULK AT MOST 1048576: true; the input reads as it did. -/
def vfsExactUptoRow : OpenClaim := { program := "ytloljimabapicabgreat", sum := "9e3c0d417f2138efe001634e3a7cd106aa55ae7193a5fcb56b665a7342ec4ebb", func := "shelf/shelflaw4.VfsExact", spec := "vfsExact", unfollowed := true, recurses := true, apart := false, narrowed := true }
def VfsExactUptoSaid : Prop := vfsExactUptoRow.holds Tryz.pinned (OpenSpec.upto vfsExactSpec)

end Rows
end Go.Proofs.YtloljimabapicabGreat
