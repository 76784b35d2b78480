/-
  No cell of these rows narrows 'for every input' (looked for: loops, veiled, ifaces, maps, wideKeys, modest, calm, conditions, laid).
  DERIVED. THE GIVEN ROWS OF THIS SEAT. 5 by the template 'for every input the law returns true; each argument reads behind the call as it read before'; 0 by the template 'total and deterministic' (their statements: YthdgkghefjnfgabTotals.lean).
  GIVEN WITH THE SEED: the statements are not yours to turn. If you find one false, say at which input.
  Laid BY PROGRAM, IN A SANDBOX (cutbox-rows.mjs): the forced cells as the released guide's own fill.sh prints them over the translation fbad8915b8a76dde… (all of the seat's roots in one cut). By AI agents, Wed Nov 11 2026. No macro, syntax, notation, axiom, sorry.
-/
import Derived.Test.YthdgkghefjnfgabChecked
import GoSem.Claim
import GoSem.ClaimJoined
import GoSem.ClaimMapViews
import Derived.JoinedTies
import Derived.KernelRfl
namespace Go.Proofs.Ythdgkghefjnfgab
/- THE CELL 'sum', in the pinned program and in every row, IS THE sha256 OF THE DUMP (.gsa) THAT YthdgkghefjnfgabProg.lean LOADS. Nothing in Lean hashes anything: it is a label: what it is worth is what the hold of that sum in a sandbox is worth. -/
noncomputable def Try.pinned : Pinned := { name := "ythdgkghefjnfgab", sum := "fbad8915b8a76dded7a965ef780b4ed735ee367636f6ff7050930420162008a3", checked := Try.checked }
namespace Rows
def none {H : Type} : Left H := { results := [], args := [] }

/-- 'shelflaw2.TextQuoteApart': WHATEVER THE INPUT: true; the input reads as it did. -/
def textQuoteApartSpec : ChangeSpec := { name := "textQuoteApart", fn := fun _ => fun
  | [d1, d2] => { results := [.lit (.bool true)], args := [d1, d2] }
  | _ => none }
def textQuoteApartRow : OpenClaim := { program := "ythdgkghefjnfgab", sum := "fbad8915b8a76dded7a965ef780b4ed735ee367636f6ff7050930420162008a3", func := "shelf/shelflaw2.TextQuoteApart", spec := "textQuoteApart", inPlace := ["internal/abi.NoEscape"], apart := false }
def TextQuoteApartSaid : Prop := textQuoteApartRow.holds Try.pinned (OpenSpec.ofChange textQuoteApartSpec)

/-- ITS FALSE NEIGHBOUR: 'it returns false'. Refute it at one input. -/
def textQuoteApartWrong : ChangeSpec := { name := "textQuoteApart", fn := fun _ => fun
  | [d1, d2] => { results := [.lit (.bool false)], args := [d1, d2] }
  | _ => none }
def TextQuoteApartWrongFalsely : Prop := textQuoteApartRow.holds Try.pinned (OpenSpec.ofChange textQuoteApartWrong)

/-- 'shelflaw2.TextQuoteSplit': WHATEVER THE INPUT: true; the input reads as it did. -/
def textQuoteSplitSpec : ChangeSpec := { name := "textQuoteSplit", fn := fun _ => fun
  | [d1, d2] => { results := [.lit (.bool true)], args := [d1, d2] }
  | _ => none }
def textQuoteSplitRow : OpenClaim := { program := "ythdgkghefjnfgab", sum := "fbad8915b8a76dded7a965ef780b4ed735ee367636f6ff7050930420162008a3", func := "shelf/shelflaw2.TextQuoteSplit", spec := "textQuoteSplit", inPlace := ["internal/abi.NoEscape"], apart := false }
def TextQuoteSplitSaid : Prop := textQuoteSplitRow.holds Try.pinned (OpenSpec.ofChange textQuoteSplitSpec)

/-- ITS FALSE NEIGHBOUR: 'it returns false'. Refute it at one input. -/
def textQuoteSplitWrong : ChangeSpec := { name := "textQuoteSplit", fn := fun _ => fun
  | [d1, d2] => { results := [.lit (.bool false)], args := [d1, d2] }
  | _ => none }
def TextQuoteSplitWrongFalsely : Prop := textQuoteSplitRow.holds Try.pinned (OpenSpec.ofChange textQuoteSplitWrong)

/-- 'shelflaw2.TextQuote': WHATEVER THE INPUT: true; the input reads as it did. -/
def textQuoteSpec : ChangeSpec := { name := "textQuote", fn := fun _ => fun
  | [d] => { results := [.lit (.bool true)], args := [d] }
  | _ => none }
def textQuoteRow : OpenClaim := { program := "ythdgkghefjnfgab", sum := "fbad8915b8a76dded7a965ef780b4ed735ee367636f6ff7050930420162008a3", func := "shelf/shelflaw2.TextQuote", spec := "textQuote", inPlace := ["internal/abi.NoEscape"], apart := false }
def TextQuoteSaid : Prop := textQuoteRow.holds Try.pinned (OpenSpec.ofChange textQuoteSpec)

/-- ITS FALSE NEIGHBOUR: 'it returns false'. Refute it at one input. -/
def textQuoteWrong : ChangeSpec := { name := "textQuote", fn := fun _ => fun
  | [d] => { results := [.lit (.bool false)], args := [d] }
  | _ => none }
def TextQuoteWrongFalsely : Prop := textQuoteRow.holds Try.pinned (OpenSpec.ofChange textQuoteWrong)

/-- 'shelflaw2.TextQuoteOne': WHATEVER THE INPUT: true; the input reads as it did. -/
def textQuoteOneSpec : ChangeSpec := { name := "textQuoteOne", fn := fun _ => fun
  | [d] => { results := [.lit (.bool true)], args := [d] }
  | _ => none }
def textQuoteOneRow : OpenClaim := { program := "ythdgkghefjnfgab", sum := "fbad8915b8a76dded7a965ef780b4ed735ee367636f6ff7050930420162008a3", func := "shelf/shelflaw2.TextQuoteOne", spec := "textQuoteOne", inPlace := ["internal/abi.NoEscape", "internal/bytealg.IndexByteString"], apart := false }
def TextQuoteOneSaid : Prop := textQuoteOneRow.holds Try.pinned (OpenSpec.ofChange textQuoteOneSpec)

/-- ITS FALSE NEIGHBOUR: 'it returns false'. Refute it at one input. -/
def textQuoteOneWrong : ChangeSpec := { name := "textQuoteOne", fn := fun _ => fun
  | [d] => { results := [.lit (.bool false)], args := [d] }
  | _ => none }
def TextQuoteOneWrongFalsely : Prop := textQuoteOneRow.holds Try.pinned (OpenSpec.ofChange textQuoteOneWrong)

/-- 'shelflaw2.TextJoinBack': WHATEVER THE INPUT: true; the input reads as it did. -/
def textJoinBackSpec : ChangeSpec := { name := "textJoinBack", fn := fun _ => fun
  | [d] => { results := [.lit (.bool true)], args := [d] }
  | _ => none }
def textJoinBackRow : OpenClaim := { program := "ythdgkghefjnfgab", sum := "fbad8915b8a76dded7a965ef780b4ed735ee367636f6ff7050930420162008a3", func := "shelf/shelflaw2.TextJoinBack", spec := "textJoinBack", inPlace := ["internal/abi.NoEscape", "internal/bytealg.IndexByteString"], apart := false }
def TextJoinBackSaid : Prop := textJoinBackRow.holds Try.pinned (OpenSpec.ofChange textJoinBackSpec)

/-- ITS FALSE NEIGHBOUR: 'it returns false'. Refute it at one input. -/
def textJoinBackWrong : ChangeSpec := { name := "textJoinBack", fn := fun _ => fun
  | [d] => { results := [.lit (.bool false)], args := [d] }
  | _ => none }
def TextJoinBackWrongFalsely : Prop := textJoinBackRow.holds Try.pinned (OpenSpec.ofChange textJoinBackWrong)

/- THE SECOND FORM. 'bulk': how many values and letters a reading holds, each counted each time it is reached (what is shared counts as often as it is met; a slice's spare places count too). A statement '..UptoSaid' is the law's where the arguments, and the package variables that the reading takes, are together of bulk at most 1048576: NARROWER than '..Said'. Prove '..Said' where nothing that the law and all that it calls make is longer than what came in: it says more and counts as full. Else prove '..UptoSaid'. A law counts once. -/
mutual
def uptoBulk {H : Type} : DataW H → Nat
  | .lit (.string bytes) => bytes.length + 1
  | .lit _ => 1
  | .nil => 1
  | .ptr d => uptoBulk d + 1
  | .slice elems spare => uptoBulkAll elems + uptoBulkAll spare + 1
  | .agg parts => uptoBulkAll parts + 1
  | .iface _ d => uptoBulk d + 1
  | .map entries => uptoBulkEntries entries + 1
  | .held _ => 1
def uptoBulkAll {H : Type} : List (DataW H) → Nat
  | [] => 0
  | d :: r => uptoBulk d + uptoBulkAll r
def uptoBulkEntries {H : Type} : List (Lit × DataW H) → Nat
  | [] => 0
  | x :: r => uptoBulkEntry x + uptoBulkEntries r
def uptoBulkEntry {H : Type} : Lit × DataW H → Nat
  | (.string bytes, d) => bytes.length + uptoBulk d + 1
  | (_, d) => uptoBulk d + 1
 end
def uptoSmall : (H : Type) → List (DataW H) → Bool := fun _ ds => decide (uptoBulkAll ds ≤ 1048576)
def OpenSpec.upto (s : _root_.Go.ChangeSpec) : _root_.Go.OpenSpec := { _root_.Go.OpenSpec.ofChange s with cond := some uptoSmall }

/-- 'shelflaw2.TextQuoteApart', WHERE WHAT IT READS IS OF BULK AT MOST 1048576: true; the input reads as it did. -/
def textQuoteApartUptoRow : OpenClaim := { program := "ythdgkghefjnfgab", sum := "fbad8915b8a76dded7a965ef780b4ed735ee367636f6ff7050930420162008a3", func := "shelf/shelflaw2.TextQuoteApart", spec := "textQuoteApart", inPlace := ["internal/abi.NoEscape"], apart := false, narrowed := true }
def TextQuoteApartUptoSaid : Prop := textQuoteApartUptoRow.holds Try.pinned (OpenSpec.upto textQuoteApartSpec)

/-- 'shelflaw2.TextQuoteSplit', WHERE WHAT IT READS IS OF BULK AT MOST 1048576: true; the input reads as it did. -/
def textQuoteSplitUptoRow : OpenClaim := { program := "ythdgkghefjnfgab", sum := "fbad8915b8a76dded7a965ef780b4ed735ee367636f6ff7050930420162008a3", func := "shelf/shelflaw2.TextQuoteSplit", spec := "textQuoteSplit", inPlace := ["internal/abi.NoEscape"], apart := false, narrowed := true }
def TextQuoteSplitUptoSaid : Prop := textQuoteSplitUptoRow.holds Try.pinned (OpenSpec.upto textQuoteSplitSpec)

/-- 'shelflaw2.TextQuote', WHERE WHAT IT READS IS OF BULK AT MOST 1048576: true; the input reads as it did. -/
def textQuoteUptoRow : OpenClaim := { program := "ythdgkghefjnfgab", sum := "fbad8915b8a76dded7a965ef780b4ed735ee367636f6ff7050930420162008a3", func := "shelf/shelflaw2.TextQuote", spec := "textQuote", inPlace := ["internal/abi.NoEscape"], apart := false, narrowed := true }
def TextQuoteUptoSaid : Prop := textQuoteUptoRow.holds Try.pinned (OpenSpec.upto textQuoteSpec)

/-- 'shelflaw2.TextQuoteOne', WHERE WHAT IT READS IS OF BULK AT MOST 1048576: true; the input reads as it did. -/
def textQuoteOneUptoRow : OpenClaim := { program := "ythdgkghefjnfgab", sum := "fbad8915b8a76dded7a965ef780b4ed735ee367636f6ff7050930420162008a3", func := "shelf/shelflaw2.TextQuoteOne", spec := "textQuoteOne", inPlace := ["internal/abi.NoEscape", "internal/bytealg.IndexByteString"], apart := false, narrowed := true }
def TextQuoteOneUptoSaid : Prop := textQuoteOneUptoRow.holds Try.pinned (OpenSpec.upto textQuoteOneSpec)

/-- 'shelflaw2.TextJoinBack', WHERE WHAT IT READS IS OF BULK AT MOST 1048576: true; the input reads as it did. -/
def textJoinBackUptoRow : OpenClaim := { program := "ythdgkghefjnfgab", sum := "fbad8915b8a76dded7a965ef780b4ed735ee367636f6ff7050930420162008a3", func := "shelf/shelflaw2.TextJoinBack", spec := "textJoinBack", inPlace := ["internal/abi.NoEscape", "internal/bytealg.IndexByteString"], apart := false, narrowed := true }
def TextJoinBackUptoSaid : Prop := textJoinBackUptoRow.holds Try.pinned (OpenSpec.upto textJoinBackSpec)

end Rows
end Go.Proofs.Ythdgkghefjnfgab
