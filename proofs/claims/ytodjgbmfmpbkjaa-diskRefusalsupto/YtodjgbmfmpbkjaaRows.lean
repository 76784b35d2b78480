/-
  No cell of these rows narrows 'for every input' (looked for: loops, veiled, ifaces, maps, wideKeys, modest, calm, conditions, laid).
  DERIVED. THE GIVEN ROWS OF THIS SEAT. 6 by the template 'for every input the law returns true; each argument reads behind the call as it read before'; 0 by the template 'total and deterministic' (their statements: YtodjgbmfmpbkjaaTotals.lean).
  GIVEN WITH THE SEED: the statements are not yours to turn. If you find one false, say at which input.
  Laid BY PROGRAM, IN A SANDBOX (cutbox-rows.mjs): the forced cells as the released guide's own fill.sh prints them over the translation 91576a59a56a3510… (all of the seat's roots in one cut). By AI agents, Wed Nov 11 2026. No macro, syntax, notation, axiom, sorry.
-/
import Derived.Test.YtodjgbmfmpbkjaaChecked
import GoSem.Claim
import GoSem.ClaimJoined
import GoSem.ClaimMapViews
import Derived.JoinedTies
import Derived.KernelRfl
namespace Go.Proofs.Ytodjgbmfmpbkjaa
/- THE CELL 'sum', in the pinned program and in every row, IS THE sha256 OF THE DUMP (.gsa) THAT YtodjgbmfmpbkjaaProg.lean LOADS. Nothing in Lean hashes anything: it is a label: what it is worth is what the hold of that sum in a sandbox is worth. -/
noncomputable def Try.pinned : Pinned := { name := "ytodjgbmfmpbkjaa", sum := "91576a59a56a3510bd9fd943d4eaf5eb1505c66938db2c6434acb82aa3634435", checked := Try.checked }
namespace Rows
def none {H : Type} : Left H := { results := [], args := [] }

/-- 'shelflaw3.DiskNew': WHATEVER THE INPUT: true; the input reads as it did. -/
def diskNewSpec : ChangeSpec := { name := "diskNew", fn := fun _ => fun
  | [d] => { results := [.lit (.bool true)], args := [d] }
  | _ => none }
def diskNewRow : OpenClaim := { program := "ytodjgbmfmpbkjaa", sum := "91576a59a56a3510bd9fd943d4eaf5eb1505c66938db2c6434acb82aa3634435", func := "shelf/shelflaw3.DiskNew", spec := "diskNew", inPlace := ["internal/bytealg.IndexByteString", "internal/bytealg.IndexString", "internal/abi.NoEscape"], recurses := true, named := ["internal/bytealg.MaxLen"], apart := false }
def DiskNewSaid : Prop := diskNewRow.holds Try.pinned (OpenSpec.ofChange diskNewSpec)

/-- ITS FALSE NEIGHBOUR: 'it returns false'. Refute it at one input. -/
def diskNewWrong : ChangeSpec := { name := "diskNew", fn := fun _ => fun
  | [d] => { results := [.lit (.bool false)], args := [d] }
  | _ => none }
def DiskNewWrongFalsely : Prop := diskNewRow.holds Try.pinned (OpenSpec.ofChange diskNewWrong)

/-- 'shelflaw3.DiskRoom': WHATEVER THE INPUT: true; the input reads as it did. -/
def diskRoomSpec : ChangeSpec := { name := "diskRoom", fn := fun _ => fun
  | [d1, d2] => { results := [.lit (.bool true)], args := [d1, d2] }
  | _ => none }
def diskRoomRow : OpenClaim := { program := "ytodjgbmfmpbkjaa", sum := "91576a59a56a3510bd9fd943d4eaf5eb1505c66938db2c6434acb82aa3634435", func := "shelf/shelflaw3.DiskRoom", spec := "diskRoom", inPlace := ["internal/bytealg.IndexByteString", "internal/bytealg.IndexString", "internal/abi.NoEscape", "maps.clone"], recurses := true, named := ["internal/bytealg.MaxLen"], apart := false }
def DiskRoomSaid : Prop := diskRoomRow.holds Try.pinned (OpenSpec.ofChange diskRoomSpec)

/-- ITS FALSE NEIGHBOUR: 'it returns false'. Refute it at one input. -/
def diskRoomWrong : ChangeSpec := { name := "diskRoom", fn := fun _ => fun
  | [d1, d2] => { results := [.lit (.bool false)], args := [d1, d2] }
  | _ => none }
def DiskRoomWrongFalsely : Prop := diskRoomRow.holds Try.pinned (OpenSpec.ofChange diskRoomWrong)

/-- 'shelflaw3.DiskReplace': WHATEVER THE INPUT: true; the input reads as it did. -/
def diskReplaceSpec : ChangeSpec := { name := "diskReplace", fn := fun _ => fun
  | [d1, d2, d3, d4, d5, d6] => { results := [.lit (.bool true)], args := [d1, d2, d3, d4, d5, d6] }
  | _ => none }
def diskReplaceRow : OpenClaim := { program := "ytodjgbmfmpbkjaa", sum := "91576a59a56a3510bd9fd943d4eaf5eb1505c66938db2c6434acb82aa3634435", func := "shelf/shelflaw3.DiskReplace", spec := "diskReplace", inPlace := ["internal/bytealg.IndexByteString", "internal/bytealg.IndexString", "internal/abi.NoEscape", "maps.clone"], recurses := true, named := ["internal/bytealg.MaxLen"], apart := false }
def DiskReplaceSaid : Prop := diskReplaceRow.holds Try.pinned (OpenSpec.ofChange diskReplaceSpec)

/-- ITS FALSE NEIGHBOUR: 'it returns false'. Refute it at one input. -/
def diskReplaceWrong : ChangeSpec := { name := "diskReplace", fn := fun _ => fun
  | [d1, d2, d3, d4, d5, d6] => { results := [.lit (.bool false)], args := [d1, d2, d3, d4, d5, d6] }
  | _ => none }
def DiskReplaceWrongFalsely : Prop := diskReplaceRow.holds Try.pinned (OpenSpec.ofChange diskReplaceWrong)

/-- 'shelflaw3.DiskTorn': WHATEVER THE INPUT: true; the input reads as it did. -/
def diskTornSpec : ChangeSpec := { name := "diskTorn", fn := fun _ => fun
  | [d1, d2, d3, d4, d5] => { results := [.lit (.bool true)], args := [d1, d2, d3, d4, d5] }
  | _ => none }
def diskTornRow : OpenClaim := { program := "ytodjgbmfmpbkjaa", sum := "91576a59a56a3510bd9fd943d4eaf5eb1505c66938db2c6434acb82aa3634435", func := "shelf/shelflaw3.DiskTorn", spec := "diskTorn", inPlace := ["internal/bytealg.IndexByteString", "internal/bytealg.IndexString", "internal/abi.NoEscape", "maps.clone"], recurses := true, named := ["internal/bytealg.MaxLen"], apart := false }
def DiskTornSaid : Prop := diskTornRow.holds Try.pinned (OpenSpec.ofChange diskTornSpec)

/-- ITS FALSE NEIGHBOUR: 'it returns false'. Refute it at one input. -/
def diskTornWrong : ChangeSpec := { name := "diskTorn", fn := fun _ => fun
  | [d1, d2, d3, d4, d5] => { results := [.lit (.bool false)], args := [d1, d2, d3, d4, d5] }
  | _ => none }
def DiskTornWrongFalsely : Prop := diskTornRow.holds Try.pinned (OpenSpec.ofChange diskTornWrong)

/-- 'shelflaw3.DiskDurable': WHATEVER THE INPUT: true; the input reads as it did. -/
def diskDurableSpec : ChangeSpec := { name := "diskDurable", fn := fun _ => fun
  | [d1, d2, d3, d4] => { results := [.lit (.bool true)], args := [d1, d2, d3, d4] }
  | _ => none }
def diskDurableRow : OpenClaim := { program := "ytodjgbmfmpbkjaa", sum := "91576a59a56a3510bd9fd943d4eaf5eb1505c66938db2c6434acb82aa3634435", func := "shelf/shelflaw3.DiskDurable", spec := "diskDurable", inPlace := ["internal/bytealg.IndexByteString", "internal/bytealg.IndexString", "internal/abi.NoEscape", "maps.clone"], recurses := true, named := ["internal/bytealg.MaxLen"], apart := false }
def DiskDurableSaid : Prop := diskDurableRow.holds Try.pinned (OpenSpec.ofChange diskDurableSpec)

/-- ITS FALSE NEIGHBOUR: 'it returns false'. Refute it at one input. -/
def diskDurableWrong : ChangeSpec := { name := "diskDurable", fn := fun _ => fun
  | [d1, d2, d3, d4] => { results := [.lit (.bool false)], args := [d1, d2, d3, d4] }
  | _ => none }
def DiskDurableWrongFalsely : Prop := diskDurableRow.holds Try.pinned (OpenSpec.ofChange diskDurableWrong)

/-- 'shelflaw3.DiskRefusals': WHATEVER THE INPUT: true; the input reads as it did. -/
def diskRefusalsSpec : ChangeSpec := { name := "diskRefusals", fn := fun _ => fun
  | [d1, d2, d3, d4] => { results := [.lit (.bool true)], args := [d1, d2, d3, d4] }
  | _ => none }
def diskRefusalsRow : OpenClaim := { program := "ytodjgbmfmpbkjaa", sum := "91576a59a56a3510bd9fd943d4eaf5eb1505c66938db2c6434acb82aa3634435", func := "shelf/shelflaw3.DiskRefusals", spec := "diskRefusals", inPlace := ["internal/bytealg.IndexByteString", "internal/bytealg.IndexString", "internal/abi.NoEscape", "maps.clone"], recurses := true, named := ["internal/bytealg.MaxLen"], apart := false }
def DiskRefusalsSaid : Prop := diskRefusalsRow.holds Try.pinned (OpenSpec.ofChange diskRefusalsSpec)

/-- ITS FALSE NEIGHBOUR: 'it returns false'. Refute it at one input. -/
def diskRefusalsWrong : ChangeSpec := { name := "diskRefusals", fn := fun _ => fun
  | [d1, d2, d3, d4] => { results := [.lit (.bool false)], args := [d1, d2, d3, d4] }
  | _ => none }
def DiskRefusalsWrongFalsely : Prop := diskRefusalsRow.holds Try.pinned (OpenSpec.ofChange diskRefusalsWrong)

/- THE SECOND FORM. 'bulk': how many values and letters a reading holds, each counted each time it is reached (what is shared counts as often as it is met; a slice's spare places count too). A statement '..UptoSaid' is the law's where the arguments, and the package variables that the reading takes, are together of bulk at most 1048576: NARROWER than '..Said'. Prove '..Said' where nothing that the law and all that it calls make is longer than what came in: it says more and counts as full. Else prove '..UptoSaid'. A law counts once. -/
mutual
def uptoBulk {H : Type} : DataW H → Nat
  | .lit (.string bytes) => bytes.length + 1
  | .lit _ => 1
  | .nil => 1
  | .ptr d => uptoBulk d + 1
  | .slice elems spare => uptoBulkAll elems + uptoBulkAll spare + 1
  | .agg parts => uptoBulkAll parts + 1
  | .iface _ d => uptoBulk d + 1
  | .map entries => uptoBulkEntries entries + 1
  | .held _ => 1
def uptoBulkAll {H : Type} : List (DataW H) → Nat
  | [] => 0
  | d :: r => uptoBulk d + uptoBulkAll r
def uptoBulkEntries {H : Type} : List (Lit × DataW H) → Nat
  | [] => 0
  | x :: r => uptoBulkEntry x + uptoBulkEntries r
def uptoBulkEntry {H : Type} : Lit × DataW H → Nat
  | (.string bytes, d) => bytes.length + uptoBulk d + 1
  | (_, d) => uptoBulk d + 1
 end
def uptoSmall : (H : Type) → List (DataW H) → Bool := fun _ ds => decide (uptoBulkAll ds ≤ 1048576)
def OpenSpec.upto (s : _root_.Go.ChangeSpec) : _root_.Go.OpenSpec := { _root_.Go.OpenSpec.ofChange s with cond := some uptoSmall }

/-- 'shelflaw3.DiskNew', WHERE WHAT IT READS IS OF BULK AT MOST 1048576: true; the input reads as it did. -/
def diskNewUptoRow : OpenClaim := { program := "ytodjgbmfmpbkjaa", sum := "91576a59a56a3510bd9fd943d4eaf5eb1505c66938db2c6434acb82aa3634435", func := "shelf/shelflaw3.DiskNew", spec := "diskNew", inPlace := ["internal/bytealg.IndexByteString", "internal/bytealg.IndexString", "internal/abi.NoEscape"], recurses := true, named := ["internal/bytealg.MaxLen"], apart := false, narrowed := true }
def DiskNewUptoSaid : Prop := diskNewUptoRow.holds Try.pinned (OpenSpec.upto diskNewSpec)

/-- 'shelflaw3.DiskRoom', WHERE WHAT IT READS IS OF BULK AT MOST 1048576: true; the input reads as it did. -/
def diskRoomUptoRow : OpenClaim := { program := "ytodjgbmfmpbkjaa", sum := "91576a59a56a3510bd9fd943d4eaf5eb1505c66938db2c6434acb82aa3634435", func := "shelf/shelflaw3.DiskRoom", spec := "diskRoom", inPlace := ["internal/bytealg.IndexByteString", "internal/bytealg.IndexString", "internal/abi.NoEscape", "maps.clone"], recurses := true, named := ["internal/bytealg.MaxLen"], apart := false, narrowed := true }
def DiskRoomUptoSaid : Prop := diskRoomUptoRow.holds Try.pinned (OpenSpec.upto diskRoomSpec)

/-- 'shelflaw3.DiskReplace', WHERE WHAT IT READS IS OF BULK AT MOST 1048576: true; the input reads as it did. -/
def diskReplaceUptoRow : OpenClaim := { program := "ytodjgbmfmpbkjaa", sum := "91576a59a56a3510bd9fd943d4eaf5eb1505c66938db2c6434acb82aa3634435", func := "shelf/shelflaw3.DiskReplace", spec := "diskReplace", inPlace := ["internal/bytealg.IndexByteString", "internal/bytealg.IndexString", "internal/abi.NoEscape", "maps.clone"], recurses := true, named := ["internal/bytealg.MaxLen"], apart := false, narrowed := true }
def DiskReplaceUptoSaid : Prop := diskReplaceUptoRow.holds Try.pinned (OpenSpec.upto diskReplaceSpec)

/-- 'shelflaw3.DiskTorn', WHERE WHAT IT READS IS OF BULK AT MOST 1048576: true; the input reads as it did. -/
def diskTornUptoRow : OpenClaim := { program := "ytodjgbmfmpbkjaa", sum := "91576a59a56a3510bd9fd943d4eaf5eb1505c66938db2c6434acb82aa3634435", func := "shelf/shelflaw3.DiskTorn", spec := "diskTorn", inPlace := ["internal/bytealg.IndexByteString", "internal/bytealg.IndexString", "internal/abi.NoEscape", "maps.clone"], recurses := true, named := ["internal/bytealg.MaxLen"], apart := false, narrowed := true }
def DiskTornUptoSaid : Prop := diskTornUptoRow.holds Try.pinned (OpenSpec.upto diskTornSpec)

/-- 'shelflaw3.DiskDurable', WHERE WHAT IT READS IS OF BULK AT MOST 1048576: true; the input reads as it did. -/
def diskDurableUptoRow : OpenClaim := { program := "ytodjgbmfmpbkjaa", sum := "91576a59a56a3510bd9fd943d4eaf5eb1505c66938db2c6434acb82aa3634435", func := "shelf/shelflaw3.DiskDurable", spec := "diskDurable", inPlace := ["internal/bytealg.IndexByteString", "internal/bytealg.IndexString", "internal/abi.NoEscape", "maps.clone"], recurses := true, named := ["internal/bytealg.MaxLen"], apart := false, narrowed := true }
def DiskDurableUptoSaid : Prop := diskDurableUptoRow.holds Try.pinned (OpenSpec.upto diskDurableSpec)

/-- 'shelflaw3.DiskRefusals', WHERE WHAT IT READS IS OF BULK AT MOST 1048576: true; the input reads as it did. -/
def diskRefusalsUptoRow : OpenClaim := { program := "ytodjgbmfmpbkjaa", sum := "91576a59a56a3510bd9fd943d4eaf5eb1505c66938db2c6434acb82aa3634435", func := "shelf/shelflaw3.DiskRefusals", spec := "diskRefusals", inPlace := ["internal/bytealg.IndexByteString", "internal/bytealg.IndexString", "internal/abi.NoEscape", "maps.clone"], recurses := true, named := ["internal/bytealg.MaxLen"], apart := false, narrowed := true }
def DiskRefusalsUptoSaid : Prop := diskRefusalsUptoRow.holds Try.pinned (OpenSpec.upto diskRefusalsSpec)

end Rows
end Go.Proofs.Ytodjgbmfmpbkjaa
