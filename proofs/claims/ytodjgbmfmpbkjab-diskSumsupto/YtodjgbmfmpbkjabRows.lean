/-
  No cell of these rows narrows 'for every input' (looked for: loops, veiled, ifaces, maps, wideKeys, modest, calm, conditions, laid).
  DERIVED. THE GIVEN ROWS OF THIS SEAT. 6 by the template 'for every input the law returns true; each argument reads behind the call as it read before'; 0 by the template 'total and deterministic' (their statements: YtodjgbmfmpbkjabTotals.lean).
  GIVEN WITH THE SEED: the statements are not yours to turn. If you find one false, say at which input.
  Laid BY PROGRAM, IN A SANDBOX (cutbox-rows.mjs): the forced cells as the released guide's own fill.sh prints them over the translation 33db06e6c43f7a2e… (all of the seat's roots in one cut). By AI agents, Wed Nov 11 2026. No macro, syntax, notation, axiom, sorry.
-/
import Derived.Test.YtodjgbmfmpbkjabChecked
import GoSem.Claim
import GoSem.ClaimJoined
import GoSem.ClaimMapViews
import Derived.JoinedTies
import Derived.KernelRfl
namespace Go.Proofs.Ytodjgbmfmpbkjab
/- THE CELL 'sum', in the pinned program and in every row, IS THE sha256 OF THE DUMP (.gsa) THAT YtodjgbmfmpbkjabProg.lean LOADS. Nothing in Lean hashes anything: it is a label: what it is worth is what the hold of that sum in a sandbox is worth. -/
noncomputable def Try.pinned : Pinned := { name := "ytodjgbmfmpbkjab", sum := "33db06e6c43f7a2ecabbc328b35e51387e68dd887ae5a3c12bf2d4c6204ef65b", checked := Try.checked }
namespace Rows
def none {H : Type} : Left H := { results := [], args := [] }

/-- 'shelflaw3.DiskSums': WHATEVER THE INPUT: true; the input reads as it did. -/
def diskSumsSpec : ChangeSpec := { name := "diskSums", fn := fun _ => fun
  | [d1, d2] => { results := [.lit (.bool true)], args := [d1, d2] }
  | _ => none }
def diskSumsRow : OpenClaim := { program := "ytodjgbmfmpbkjab", sum := "33db06e6c43f7a2ecabbc328b35e51387e68dd887ae5a3c12bf2d4c6204ef65b", func := "shelf/shelflaw3.DiskSums", spec := "diskSums", inPlace := ["internal/bytealg.IndexByteString", "internal/bytealg.IndexString", "internal/abi.NoEscape", "maps.clone"], recurses := true, named := ["internal/bytealg.MaxLen"], apart := false }
def DiskSumsSaid : Prop := diskSumsRow.holds Try.pinned (OpenSpec.ofChange diskSumsSpec)

/-- ITS FALSE NEIGHBOUR: 'it returns false'. Refute it at one input. -/
def diskSumsWrong : ChangeSpec := { name := "diskSums", fn := fun _ => fun
  | [d1, d2] => { results := [.lit (.bool false)], args := [d1, d2] }
  | _ => none }
def DiskSumsWrongFalsely : Prop := diskSumsRow.holds Try.pinned (OpenSpec.ofChange diskSumsWrong)

/-- 'shelflaw3.DiskMoment': WHATEVER THE INPUT: true; the input reads as it did. -/
def diskMomentSpec : ChangeSpec := { name := "diskMoment", fn := fun _ => fun
  | [d1, d2, d3, d4] => { results := [.lit (.bool true)], args := [d1, d2, d3, d4] }
  | _ => none }
def diskMomentRow : OpenClaim := { program := "ytodjgbmfmpbkjab", sum := "33db06e6c43f7a2ecabbc328b35e51387e68dd887ae5a3c12bf2d4c6204ef65b", func := "shelf/shelflaw3.DiskMoment", spec := "diskMoment", inPlace := ["internal/bytealg.IndexByteString", "internal/bytealg.IndexString", "internal/abi.NoEscape", "maps.clone"], recurses := true, named := ["internal/bytealg.MaxLen"], apart := false }
def DiskMomentSaid : Prop := diskMomentRow.holds Try.pinned (OpenSpec.ofChange diskMomentSpec)

/-- ITS FALSE NEIGHBOUR: 'it returns false'. Refute it at one input. -/
def diskMomentWrong : ChangeSpec := { name := "diskMoment", fn := fun _ => fun
  | [d1, d2, d3, d4] => { results := [.lit (.bool false)], args := [d1, d2, d3, d4] }
  | _ => none }
def DiskMomentWrongFalsely : Prop := diskMomentRow.holds Try.pinned (OpenSpec.ofChange diskMomentWrong)

/-- 'shelflaw3.DiskChanges': WHATEVER THE INPUT: true; the input reads as it did. -/
def diskChangesSpec : ChangeSpec := { name := "diskChanges", fn := fun _ => fun
  | [d1, d2] => { results := [.lit (.bool true)], args := [d1, d2] }
  | _ => none }
def diskChangesRow : OpenClaim := { program := "ytodjgbmfmpbkjab", sum := "33db06e6c43f7a2ecabbc328b35e51387e68dd887ae5a3c12bf2d4c6204ef65b", func := "shelf/shelflaw3.DiskChanges", spec := "diskChanges", inPlace := ["internal/bytealg.IndexByteString", "internal/bytealg.IndexString", "internal/abi.NoEscape", "maps.clone"], recurses := true, named := ["internal/bytealg.MaxLen"], apart := false }
def DiskChangesSaid : Prop := diskChangesRow.holds Try.pinned (OpenSpec.ofChange diskChangesSpec)

/-- ITS FALSE NEIGHBOUR: 'it returns false'. Refute it at one input. -/
def diskChangesWrong : ChangeSpec := { name := "diskChanges", fn := fun _ => fun
  | [d1, d2] => { results := [.lit (.bool false)], args := [d1, d2] }
  | _ => none }
def DiskChangesWrongFalsely : Prop := diskChangesRow.holds Try.pinned (OpenSpec.ofChange diskChangesWrong)

/-- 'shelflaw3.DiskReads': WHATEVER THE INPUT: true; the input reads as it did. -/
def diskReadsSpec : ChangeSpec := { name := "diskReads", fn := fun _ => fun
  | [d1, d2] => { results := [.lit (.bool true)], args := [d1, d2] }
  | _ => none }
def diskReadsRow : OpenClaim := { program := "ytodjgbmfmpbkjab", sum := "33db06e6c43f7a2ecabbc328b35e51387e68dd887ae5a3c12bf2d4c6204ef65b", func := "shelf/shelflaw3.DiskReads", spec := "diskReads", inPlace := ["internal/bytealg.IndexByteString", "internal/bytealg.IndexString", "internal/abi.NoEscape", "maps.clone"], recurses := true, named := ["internal/bytealg.MaxLen"], apart := false }
def DiskReadsSaid : Prop := diskReadsRow.holds Try.pinned (OpenSpec.ofChange diskReadsSpec)

/-- ITS FALSE NEIGHBOUR: 'it returns false'. Refute it at one input. -/
def diskReadsWrong : ChangeSpec := { name := "diskReads", fn := fun _ => fun
  | [d1, d2] => { results := [.lit (.bool false)], args := [d1, d2] }
  | _ => none }
def DiskReadsWrongFalsely : Prop := diskReadsRow.holds Try.pinned (OpenSpec.ofChange diskReadsWrong)

/-- 'shelflaw3.DiskCounts': WHATEVER THE INPUT: true; the input reads as it did. -/
def diskCountsSpec : ChangeSpec := { name := "diskCounts", fn := fun _ => fun
  | [d1, d2] => { results := [.lit (.bool true)], args := [d1, d2] }
  | _ => none }
def diskCountsRow : OpenClaim := { program := "ytodjgbmfmpbkjab", sum := "33db06e6c43f7a2ecabbc328b35e51387e68dd887ae5a3c12bf2d4c6204ef65b", func := "shelf/shelflaw3.DiskCounts", spec := "diskCounts", inPlace := ["internal/bytealg.IndexByteString", "internal/bytealg.IndexString", "internal/abi.NoEscape", "maps.clone"], recurses := true, named := ["internal/bytealg.MaxLen"], apart := false }
def DiskCountsSaid : Prop := diskCountsRow.holds Try.pinned (OpenSpec.ofChange diskCountsSpec)

/-- ITS FALSE NEIGHBOUR: 'it returns false'. Refute it at one input. -/
def diskCountsWrong : ChangeSpec := { name := "diskCounts", fn := fun _ => fun
  | [d1, d2] => { results := [.lit (.bool false)], args := [d1, d2] }
  | _ => none }
def DiskCountsWrongFalsely : Prop := diskCountsRow.holds Try.pinned (OpenSpec.ofChange diskCountsWrong)

/-- 'shelflaw3.DiskExact': WHATEVER THE INPUT: true; the input reads as it did. -/
def diskExactSpec : ChangeSpec := { name := "diskExact", fn := fun _ => fun
  | [d1, d2] => { results := [.lit (.bool true)], args := [d1, d2] }
  | _ => none }
def diskExactRow : OpenClaim := { program := "ytodjgbmfmpbkjab", sum := "33db06e6c43f7a2ecabbc328b35e51387e68dd887ae5a3c12bf2d4c6204ef65b", func := "shelf/shelflaw3.DiskExact", spec := "diskExact", inPlace := ["internal/bytealg.IndexByteString", "internal/bytealg.IndexString", "internal/abi.NoEscape", "maps.clone"], recurses := true, named := ["internal/bytealg.MaxLen"], apart := false }
def DiskExactSaid : Prop := diskExactRow.holds Try.pinned (OpenSpec.ofChange diskExactSpec)

/-- ITS FALSE NEIGHBOUR: 'it returns false'. Refute it at one input. -/
def diskExactWrong : ChangeSpec := { name := "diskExact", fn := fun _ => fun
  | [d1, d2] => { results := [.lit (.bool false)], args := [d1, d2] }
  | _ => none }
def DiskExactWrongFalsely : Prop := diskExactRow.holds Try.pinned (OpenSpec.ofChange diskExactWrong)

/- THE SECOND FORM. 'bulk': how many values and letters a reading holds, each counted each time it is reached (what is shared counts as often as it is met; a slice's spare places count too). A statement '..UptoSaid' is the law's where the arguments, and the package variables that the reading takes, are together of bulk at most 1048576: NARROWER than '..Said'. Prove '..Said' where nothing that the law and all that it calls make is longer than what came in: it says more and counts as full. Else prove '..UptoSaid'. A law counts once. -/
mutual
def uptoBulk {H : Type} : DataW H → Nat
  | .lit (.string bytes) => bytes.length + 1
  | .lit _ => 1
  | .nil => 1
  | .ptr d => uptoBulk d + 1
  | .slice elems spare => uptoBulkAll elems + uptoBulkAll spare + 1
  | .agg parts => uptoBulkAll parts + 1
  | .iface _ d => uptoBulk d + 1
  | .map entries => uptoBulkEntries entries + 1
  | .held _ => 1
def uptoBulkAll {H : Type} : List (DataW H) → Nat
  | [] => 0
  | d :: r => uptoBulk d + uptoBulkAll r
def uptoBulkEntries {H : Type} : List (Lit × DataW H) → Nat
  | [] => 0
  | x :: r => uptoBulkEntry x + uptoBulkEntries r
def uptoBulkEntry {H : Type} : Lit × DataW H → Nat
  | (.string bytes, d) => bytes.length + uptoBulk d + 1
  | (_, d) => uptoBulk d + 1
 end
def uptoSmall : (H : Type) → List (DataW H) → Bool := fun _ ds => decide (uptoBulkAll ds ≤ 1048576)
def OpenSpec.upto (s : _root_.Go.ChangeSpec) : _root_.Go.OpenSpec := { _root_.Go.OpenSpec.ofChange s with cond := some uptoSmall }

/-- 'shelflaw3.DiskSums', WHERE WHAT IT READS IS OF BULK AT MOST 1048576: true; the input reads as it did. -/
def diskSumsUptoRow : OpenClaim := { program := "ytodjgbmfmpbkjab", sum := "33db06e6c43f7a2ecabbc328b35e51387e68dd887ae5a3c12bf2d4c6204ef65b", func := "shelf/shelflaw3.DiskSums", spec := "diskSums", inPlace := ["internal/bytealg.IndexByteString", "internal/bytealg.IndexString", "internal/abi.NoEscape", "maps.clone"], recurses := true, named := ["internal/bytealg.MaxLen"], apart := false, narrowed := true }
def DiskSumsUptoSaid : Prop := diskSumsUptoRow.holds Try.pinned (OpenSpec.upto diskSumsSpec)

/-- 'shelflaw3.DiskMoment', WHERE WHAT IT READS IS OF BULK AT MOST 1048576: true; the input reads as it did. -/
def diskMomentUptoRow : OpenClaim := { program := "ytodjgbmfmpbkjab", sum := "33db06e6c43f7a2ecabbc328b35e51387e68dd887ae5a3c12bf2d4c6204ef65b", func := "shelf/shelflaw3.DiskMoment", spec := "diskMoment", inPlace := ["internal/bytealg.IndexByteString", "internal/bytealg.IndexString", "internal/abi.NoEscape", "maps.clone"], recurses := true, named := ["internal/bytealg.MaxLen"], apart := false, narrowed := true }
def DiskMomentUptoSaid : Prop := diskMomentUptoRow.holds Try.pinned (OpenSpec.upto diskMomentSpec)

/-- 'shelflaw3.DiskChanges', WHERE WHAT IT READS IS OF BULK AT MOST 1048576: true; the input reads as it did. -/
def diskChangesUptoRow : OpenClaim := { program := "ytodjgbmfmpbkjab", sum := "33db06e6c43f7a2ecabbc328b35e51387e68dd887ae5a3c12bf2d4c6204ef65b", func := "shelf/shelflaw3.DiskChanges", spec := "diskChanges", inPlace := ["internal/bytealg.IndexByteString", "internal/bytealg.IndexString", "internal/abi.NoEscape", "maps.clone"], recurses := true, named := ["internal/bytealg.MaxLen"], apart := false, narrowed := true }
def DiskChangesUptoSaid : Prop := diskChangesUptoRow.holds Try.pinned (OpenSpec.upto diskChangesSpec)

/-- 'shelflaw3.DiskReads', WHERE WHAT IT READS IS OF BULK AT MOST 1048576: true; the input reads as it did. -/
def diskReadsUptoRow : OpenClaim := { program := "ytodjgbmfmpbkjab", sum := "33db06e6c43f7a2ecabbc328b35e51387e68dd887ae5a3c12bf2d4c6204ef65b", func := "shelf/shelflaw3.DiskReads", spec := "diskReads", inPlace := ["internal/bytealg.IndexByteString", "internal/bytealg.IndexString", "internal/abi.NoEscape", "maps.clone"], recurses := true, named := ["internal/bytealg.MaxLen"], apart := false, narrowed := true }
def DiskReadsUptoSaid : Prop := diskReadsUptoRow.holds Try.pinned (OpenSpec.upto diskReadsSpec)

/-- 'shelflaw3.DiskCounts', WHERE WHAT IT READS IS OF BULK AT MOST 1048576: true; the input reads as it did. -/
def diskCountsUptoRow : OpenClaim := { program := "ytodjgbmfmpbkjab", sum := "33db06e6c43f7a2ecabbc328b35e51387e68dd887ae5a3c12bf2d4c6204ef65b", func := "shelf/shelflaw3.DiskCounts", spec := "diskCounts", inPlace := ["internal/bytealg.IndexByteString", "internal/bytealg.IndexString", "internal/abi.NoEscape", "maps.clone"], recurses := true, named := ["internal/bytealg.MaxLen"], apart := false, narrowed := true }
def DiskCountsUptoSaid : Prop := diskCountsUptoRow.holds Try.pinned (OpenSpec.upto diskCountsSpec)

/-- 'shelflaw3.DiskExact', WHERE WHAT IT READS IS OF BULK AT MOST 1048576: true; the input reads as it did. -/
def diskExactUptoRow : OpenClaim := { program := "ytodjgbmfmpbkjab", sum := "33db06e6c43f7a2ecabbc328b35e51387e68dd887ae5a3c12bf2d4c6204ef65b", func := "shelf/shelflaw3.DiskExact", spec := "diskExact", inPlace := ["internal/bytealg.IndexByteString", "internal/bytealg.IndexString", "internal/abi.NoEscape", "maps.clone"], recurses := true, named := ["internal/bytealg.MaxLen"], apart := false, narrowed := true }
def DiskExactUptoSaid : Prop := diskExactUptoRow.holds Try.pinned (OpenSpec.upto diskExactSpec)

end Rows
end Go.Proofs.Ytodjgbmfmpbkjab
