/-
  NARROWER THAN 'FOR EVERY INPUT', by the rows' own cells (each row's printed sentence says how): IndexSize: laid · IndexDecode: laid · IndexFind: laid · IndexFresh: laid.
  DERIVED. THE GIVEN ROWS OF THIS SEAT. 4 by the template 'for every input the law returns true; each argument reads behind the call as it read before'; 0 by the template 'total and deterministic' (their statements: YtcmldlcdgmmafaaDoorTotals.lean).
  GIVEN WITH THE SEED: the statements are not yours to turn. If you find one false, say at which input.
  Laid BY PROGRAM, IN A SANDBOX (cutbox-rows.mjs): the forced cells as the released guide's own fill.sh prints them over the translation 41e22afe9d2e9660… (all of the seat's roots in one cut). By AI agents, Wed Nov 11 2026. No macro, syntax, notation, axiom, sorry.
-/
import Derived.Test.YtcmldlcdgmmafaaDoorChecked
import GoSem.PinnedTables
import GoSem.Claim
import GoSem.ClaimJoined
import GoSem.ClaimMapViews
import Derived.JoinedTies
import Derived.KernelRfl
namespace Go.Proofs.YtcmldlcdgmmafaaDoor
/- THE CELL 'sum', in the pinned program and in every row, IS THE sha256 OF THE DUMP (.gsa) THAT YtcmldlcdgmmafaaDoorProg.lean LOADS. Nothing in Lean hashes anything: it is a label: what it is worth is what the hold of that sum in a sandbox is worth. -/
noncomputable def Tryd.pinned : Pinned := { name := "ytcmldlcdgmmafaadoor", sum := "41e22afe9d2e9660e72880d731fe22df390350e3012e9af50b7b19143126df44", checked := Tryd.checked }
namespace Rows
def none {H : Type} : Left H := { results := [], args := [] }

/- WHAT THE LISTED PACKAGE-LEVEL VARIABLES READ AS WHEN THE CALL BEGINS. Each datum BY PROGRAM (the guide's laid-datum.mjs) off the statement by which the dump's own 'gosem.cut.vars' lays the variable. In a bare row this is a premise. The card (YtcmldlcdgmmafaaDoorCards.lean) ties it to the program's text. -/
def laid_unicode_utf8_acceptRanges {H : Type} : DataW H := .agg [.agg [.lit (.int .u8 128), .lit (.int .u8 191)], .agg [.lit (.int .u8 160), .lit (.int .u8 191)], .agg [.lit (.int .u8 128), .lit (.int .u8 159)], .agg [.lit (.int .u8 144), .lit (.int .u8 191)], .agg [.lit (.int .u8 128), .lit (.int .u8 143)], .agg [.lit (.int .u8 0), .lit (.int .u8 0)], .agg [.lit (.int .u8 0), .lit (.int .u8 0)], .agg [.lit (.int .u8 0), .lit (.int .u8 0)], .agg [.lit (.int .u8 0), .lit (.int .u8 0)], .agg [.lit (.int .u8 0), .lit (.int .u8 0)], .agg [.lit (.int .u8 0), .lit (.int .u8 0)], .agg [.lit (.int .u8 0), .lit (.int .u8 0)], .agg [.lit (.int .u8 0), .lit (.int .u8 0)], .agg [.lit (.int .u8 0), .lit (.int .u8 0)], .agg [.lit (.int .u8 0), .lit (.int .u8 0)], .agg [.lit (.int .u8 0), .lit (.int .u8 0)]]
/-- One of Go's own tables, pinned by name: the form's constant. -/
def laid_unicode_utf8_first : DataW Unit := Go.Pinned.utf8First

/-- 'shelflaw11.IndexSize': WHATEVER THE INPUT: true; the input reads as it did. -/
def indexSizeSpec : ChangeSpec := { name := "indexSize", fn := fun _ => fun
  | [d1, d2] => { results := [.lit (.bool true)], args := [d1, d2] }
  | _ => none }
def indexSizeRow : OpenClaim := { program := "ytcmldlcdgmmafaadoor", sum := "41e22afe9d2e9660e72880d731fe22df390350e3012e9af50b7b19143126df44", func := "shelf/shelflaw11.IndexSize", spec := "indexSize", inPlace := ["internal/abi.NoEscape", "internal/bytealg.IndexByteString", "internal/bytealg.IndexString"], unfollowed := true, recurses := true, named := ["internal/bytealg.MaxLen", "unicode/utf8.first", "unicode/utf8.acceptRanges"], apart := false, laid := [("unicode/utf8.acceptRanges", laid_unicode_utf8_acceptRanges), ("unicode/utf8.first", laid_unicode_utf8_first)] }
def IndexSizeSaid : Prop := indexSizeRow.holds Tryd.pinned (OpenSpec.ofChange indexSizeSpec)

/-- ITS FALSE NEIGHBOUR: 'it returns false'. Refute it at one input. -/
def indexSizeWrong : ChangeSpec := { name := "indexSize", fn := fun _ => fun
  | [d1, d2] => { results := [.lit (.bool false)], args := [d1, d2] }
  | _ => none }
def IndexSizeWrongFalsely : Prop := indexSizeRow.holds Tryd.pinned (OpenSpec.ofChange indexSizeWrong)

/-- 'shelflaw11.IndexDecode': WHATEVER THE INPUT: true; the input reads as it did. -/
def indexDecodeSpec : ChangeSpec := { name := "indexDecode", fn := fun _ => fun
  | [d1, d2] => { results := [.lit (.bool true)], args := [d1, d2] }
  | _ => none }
def indexDecodeRow : OpenClaim := { program := "ytcmldlcdgmmafaadoor", sum := "41e22afe9d2e9660e72880d731fe22df390350e3012e9af50b7b19143126df44", func := "shelf/shelflaw11.IndexDecode", spec := "indexDecode", inPlace := ["internal/abi.NoEscape", "internal/bytealg.IndexByteString", "internal/bytealg.IndexString"], unfollowed := true, recurses := true, named := ["internal/bytealg.MaxLen", "unicode/utf8.first", "unicode/utf8.acceptRanges"], apart := false, laid := [("unicode/utf8.acceptRanges", laid_unicode_utf8_acceptRanges), ("unicode/utf8.first", laid_unicode_utf8_first)] }
def IndexDecodeSaid : Prop := indexDecodeRow.holds Tryd.pinned (OpenSpec.ofChange indexDecodeSpec)

/-- ITS FALSE NEIGHBOUR: 'it returns false'. Refute it at one input. -/
def indexDecodeWrong : ChangeSpec := { name := "indexDecode", fn := fun _ => fun
  | [d1, d2] => { results := [.lit (.bool false)], args := [d1, d2] }
  | _ => none }
def IndexDecodeWrongFalsely : Prop := indexDecodeRow.holds Tryd.pinned (OpenSpec.ofChange indexDecodeWrong)

/-- 'shelflaw11.IndexFind': WHATEVER THE INPUT: true; the input reads as it did. -/
def indexFindSpec : ChangeSpec := { name := "indexFind", fn := fun _ => fun
  | [d1, d2, d3] => { results := [.lit (.bool true)], args := [d1, d2, d3] }
  | _ => none }
def indexFindRow : OpenClaim := { program := "ytcmldlcdgmmafaadoor", sum := "41e22afe9d2e9660e72880d731fe22df390350e3012e9af50b7b19143126df44", func := "shelf/shelflaw11.IndexFind", spec := "indexFind", inPlace := ["internal/abi.NoEscape", "internal/bytealg.IndexByteString", "internal/bytealg.IndexString"], unfollowed := true, recurses := true, named := ["internal/bytealg.MaxLen", "unicode/utf8.first", "unicode/utf8.acceptRanges"], apart := false, laid := [("unicode/utf8.acceptRanges", laid_unicode_utf8_acceptRanges), ("unicode/utf8.first", laid_unicode_utf8_first)] }
def IndexFindSaid : Prop := indexFindRow.holds Tryd.pinned (OpenSpec.ofChange indexFindSpec)

/-- ITS FALSE NEIGHBOUR: 'it returns false'. Refute it at one input. -/
def indexFindWrong : ChangeSpec := { name := "indexFind", fn := fun _ => fun
  | [d1, d2, d3] => { results := [.lit (.bool false)], args := [d1, d2, d3] }
  | _ => none }
def IndexFindWrongFalsely : Prop := indexFindRow.holds Tryd.pinned (OpenSpec.ofChange indexFindWrong)

/-- 'shelflaw11.IndexFresh': WHATEVER THE INPUT: true; the input reads as it did. -/
def indexFreshSpec : ChangeSpec := { name := "indexFresh", fn := fun _ => fun
  | [d1, d2, d3] => { results := [.lit (.bool true)], args := [d1, d2, d3] }
  | _ => none }
def indexFreshRow : OpenClaim := { program := "ytcmldlcdgmmafaadoor", sum := "41e22afe9d2e9660e72880d731fe22df390350e3012e9af50b7b19143126df44", func := "shelf/shelflaw11.IndexFresh", spec := "indexFresh", inPlace := ["internal/abi.NoEscape", "internal/bytealg.IndexByteString", "internal/bytealg.IndexString"], unfollowed := true, recurses := true, named := ["internal/bytealg.MaxLen", "unicode/utf8.first", "unicode/utf8.acceptRanges"], apart := false, laid := [("unicode/utf8.acceptRanges", laid_unicode_utf8_acceptRanges), ("unicode/utf8.first", laid_unicode_utf8_first)] }
def IndexFreshSaid : Prop := indexFreshRow.holds Tryd.pinned (OpenSpec.ofChange indexFreshSpec)

/-- ITS FALSE NEIGHBOUR: 'it returns false'. Refute it at one input. -/
def indexFreshWrong : ChangeSpec := { name := "indexFresh", fn := fun _ => fun
  | [d1, d2, d3] => { results := [.lit (.bool false)], args := [d1, d2, d3] }
  | _ => none }
def IndexFreshWrongFalsely : Prop := indexFreshRow.holds Tryd.pinned (OpenSpec.ofChange indexFreshWrong)

/- THE SECOND FORM. 'bulk': how many values and letters a reading holds, each counted each time it is reached (what is shared counts as often as it is met; a slice's spare places count too). A statement '..UptoSaid' is the law's where the arguments, and the package variables that the reading takes, are together of bulk at most 1048576: NARROWER than '..Said'. Prove '..Said' where nothing that the law and all that it calls make is longer than what came in: it says more and counts as full. Else prove '..UptoSaid'. A law counts once. -/
mutual
def uptoBulk {H : Type} : DataW H → Nat
  | .lit (.string bytes) => bytes.length + 1
  | .lit _ => 1
  | .nil => 1
  | .ptr d => uptoBulk d + 1
  | .slice elems spare => uptoBulkAll elems + uptoBulkAll spare + 1
  | .agg parts => uptoBulkAll parts + 1
  | .iface _ d => uptoBulk d + 1
  | .map entries => uptoBulkEntries entries + 1
  | .held _ => 1
def uptoBulkAll {H : Type} : List (DataW H) → Nat
  | [] => 0
  | d :: r => uptoBulk d + uptoBulkAll r
def uptoBulkEntries {H : Type} : List (Lit × DataW H) → Nat
  | [] => 0
  | x :: r => uptoBulkEntry x + uptoBulkEntries r
def uptoBulkEntry {H : Type} : Lit × DataW H → Nat
  | (.string bytes, d) => bytes.length + uptoBulk d + 1
  | (_, d) => uptoBulk d + 1
 end
def uptoSmall : (H : Type) → List (DataW H) → Bool := fun _ ds => decide (uptoBulkAll ds ≤ 1048576)
def OpenSpec.upto (s : _root_.Go.ChangeSpec) : _root_.Go.OpenSpec := { _root_.Go.OpenSpec.ofChange s with cond := some uptoSmall }

/-- 'shelflaw11.IndexSize', WHERE WHAT IT READS IS OF BULK AT MOST 1048576: true; the input reads as it did. -/
def indexSizeUptoRow : OpenClaim := { program := "ytcmldlcdgmmafaadoor", sum := "41e22afe9d2e9660e72880d731fe22df390350e3012e9af50b7b19143126df44", func := "shelf/shelflaw11.IndexSize", spec := "indexSize", inPlace := ["internal/abi.NoEscape", "internal/bytealg.IndexByteString", "internal/bytealg.IndexString"], unfollowed := true, recurses := true, named := ["internal/bytealg.MaxLen", "unicode/utf8.first", "unicode/utf8.acceptRanges"], apart := false, laid := [("unicode/utf8.acceptRanges", laid_unicode_utf8_acceptRanges), ("unicode/utf8.first", laid_unicode_utf8_first)], narrowed := true }
def IndexSizeUptoSaid : Prop := indexSizeUptoRow.holds Tryd.pinned (OpenSpec.upto indexSizeSpec)

/-- 'shelflaw11.IndexDecode', WHERE WHAT IT READS IS OF BULK AT MOST 1048576: true; the input reads as it did. -/
def indexDecodeUptoRow : OpenClaim := { program := "ytcmldlcdgmmafaadoor", sum := "41e22afe9d2e9660e72880d731fe22df390350e3012e9af50b7b19143126df44", func := "shelf/shelflaw11.IndexDecode", spec := "indexDecode", inPlace := ["internal/abi.NoEscape", "internal/bytealg.IndexByteString", "internal/bytealg.IndexString"], unfollowed := true, recurses := true, named := ["internal/bytealg.MaxLen", "unicode/utf8.first", "unicode/utf8.acceptRanges"], apart := false, laid := [("unicode/utf8.acceptRanges", laid_unicode_utf8_acceptRanges), ("unicode/utf8.first", laid_unicode_utf8_first)], narrowed := true }
def IndexDecodeUptoSaid : Prop := indexDecodeUptoRow.holds Tryd.pinned (OpenSpec.upto indexDecodeSpec)

/-- 'shelflaw11.IndexFind', WHERE WHAT IT READS IS OF BULK AT MOST 1048576: true; the input reads as it did. -/
def indexFindUptoRow : OpenClaim := { program := "ytcmldlcdgmmafaadoor", sum := "41e22afe9d2e9660e72880d731fe22df390350e3012e9af50b7b19143126df44", func := "shelf/shelflaw11.IndexFind", spec := "indexFind", inPlace := ["internal/abi.NoEscape", "internal/bytealg.IndexByteString", "internal/bytealg.IndexString"], unfollowed := true, recurses := true, named := ["internal/bytealg.MaxLen", "unicode/utf8.first", "unicode/utf8.acceptRanges"], apart := false, laid := [("unicode/utf8.acceptRanges", laid_unicode_utf8_acceptRanges), ("unicode/utf8.first", laid_unicode_utf8_first)], narrowed := true }
def IndexFindUptoSaid : Prop := indexFindUptoRow.holds Tryd.pinned (OpenSpec.upto indexFindSpec)

/-- 'shelflaw11.IndexFresh', WHERE WHAT IT READS IS OF BULK AT MOST 1048576: true; the input reads as it did. -/
def indexFreshUptoRow : OpenClaim := { program := "ytcmldlcdgmmafaadoor", sum := "41e22afe9d2e9660e72880d731fe22df390350e3012e9af50b7b19143126df44", func := "shelf/shelflaw11.IndexFresh", spec := "indexFresh", inPlace := ["internal/abi.NoEscape", "internal/bytealg.IndexByteString", "internal/bytealg.IndexString"], unfollowed := true, recurses := true, named := ["internal/bytealg.MaxLen", "unicode/utf8.first", "unicode/utf8.acceptRanges"], apart := false, laid := [("unicode/utf8.acceptRanges", laid_unicode_utf8_acceptRanges), ("unicode/utf8.first", laid_unicode_utf8_first)], narrowed := true }
def IndexFreshUptoSaid : Prop := indexFreshUptoRow.holds Tryd.pinned (OpenSpec.upto indexFreshSpec)

end Rows
end Go.Proofs.YtcmldlcdgmmafaaDoor
