/-
  NARROWER THAN 'FOR EVERY INPUT', by the rows' own cells (each row's printed sentence says how): CmdProgram: laid · CmdSplit: laid · CmdMoreNames: laid · CmdForth: laid · CmdBack: laid.
  DERIVED. THE GIVEN ROWS OF THIS SEAT. 5 by the template 'for every input the law returns true; each argument reads behind the call as it read before'; 0 by the template 'total and deterministic' (their statements: YtmhamlhmmkbkaaaDoorTotals.lean).
  GIVEN WITH THE SEED: the statements are not yours to turn. If you find one false, say at which input.
  Laid BY PROGRAM, IN A SANDBOX (cutbox-rows.mjs): the forced cells as the released guide's own fill.sh prints them over the translation 38a04b3fe58ec56f… (all of the seat's roots in one cut). By AI agents, Wed Nov 11 2026. No macro, syntax, notation, axiom, sorry.
-/
import Derived.Test.YtmhamlhmmkbkaaaDoorChecked
import GoSem.PinnedTables
import GoSem.Claim
import GoSem.ClaimJoined
import GoSem.ClaimMapViews
import Derived.JoinedTies
import Derived.KernelRfl
namespace Go.Proofs.YtmhamlhmmkbkaaaDoor
/- THE CELL 'sum', in the pinned program and in every row, IS THE sha256 OF THE DUMP (.gsa) THAT YtmhamlhmmkbkaaaDoorProg.lean LOADS. Nothing in Lean hashes anything: it is a label: what it is worth is what the hold of that sum in a sandbox is worth. -/
noncomputable def Tryd.pinned : Pinned := { name := "ytmhamlhmmkbkaaadoor", sum := "38a04b3fe58ec56f829c80c3377d7d1b44e3ffebd7889c1df3ffa2de99ae05ab", checked := Tryd.checked }
namespace Rows
def none {H : Type} : Left H := { results := [], args := [] }

/- WHAT THE LISTED PACKAGE-LEVEL VARIABLES READ AS WHEN THE CALL BEGINS. Each datum BY PROGRAM (the guide's laid-datum.mjs) off the statement by which the dump's own 'gosem.cut.vars' lays the variable. In a bare row this is a premise. The card (YtmhamlhmmkbkaaaDoorCards.lean) ties it to the program's text. -/
def laid_unicode_utf8_acceptRanges {H : Type} : DataW H := .agg [.agg [.lit (.int .u8 128), .lit (.int .u8 191)], .agg [.lit (.int .u8 160), .lit (.int .u8 191)], .agg [.lit (.int .u8 128), .lit (.int .u8 159)], .agg [.lit (.int .u8 144), .lit (.int .u8 191)], .agg [.lit (.int .u8 128), .lit (.int .u8 143)], .agg [.lit (.int .u8 0), .lit (.int .u8 0)], .agg [.lit (.int .u8 0), .lit (.int .u8 0)], .agg [.lit (.int .u8 0), .lit (.int .u8 0)], .agg [.lit (.int .u8 0), .lit (.int .u8 0)], .agg [.lit (.int .u8 0), .lit (.int .u8 0)], .agg [.lit (.int .u8 0), .lit (.int .u8 0)], .agg [.lit (.int .u8 0), .lit (.int .u8 0)], .agg [.lit (.int .u8 0), .lit (.int .u8 0)], .agg [.lit (.int .u8 0), .lit (.int .u8 0)], .agg [.lit (.int .u8 0), .lit (.int .u8 0)], .agg [.lit (.int .u8 0), .lit (.int .u8 0)]]
/-- One of Go's own tables, pinned by name: the form's constant. -/
def laid_unicode_utf8_first : DataW Unit := Go.Pinned.utf8First

/-- 'shelflaw15.CmdProgram': WHATEVER THE INPUT: true; the input reads as it did. -/
def cmdProgramSpec : ChangeSpec := { name := "cmdProgram", fn := fun _ => fun
  | [d1, d2, d3] => { results := [.lit (.bool true)], args := [d1, d2, d3] }
  | _ => none }
def cmdProgramRow : OpenClaim := { program := "ytmhamlhmmkbkaaadoor", sum := "38a04b3fe58ec56f829c80c3377d7d1b44e3ffebd7889c1df3ffa2de99ae05ab", func := "shelf/shelflaw15.CmdProgram", spec := "cmdProgram", inPlace := ["internal/bytealg.IndexByteString"], unfollowed := true, recurses := true, named := ["unicode/utf8.first", "unicode/utf8.acceptRanges"], apart := false, laid := [("unicode/utf8.acceptRanges", laid_unicode_utf8_acceptRanges), ("unicode/utf8.first", laid_unicode_utf8_first)] }
def CmdProgramSaid : Prop := cmdProgramRow.holds Tryd.pinned (OpenSpec.ofChange cmdProgramSpec)

/-- ITS FALSE NEIGHBOUR: 'it returns false'. Refute it at one input. -/
def cmdProgramWrong : ChangeSpec := { name := "cmdProgram", fn := fun _ => fun
  | [d1, d2, d3] => { results := [.lit (.bool false)], args := [d1, d2, d3] }
  | _ => none }
def CmdProgramWrongFalsely : Prop := cmdProgramRow.holds Tryd.pinned (OpenSpec.ofChange cmdProgramWrong)

/-- 'shelflaw15.CmdSplit': WHATEVER THE INPUT: true; the input reads as it did. -/
def cmdSplitSpec : ChangeSpec := { name := "cmdSplit", fn := fun _ => fun
  | [d1, d2, d3] => { results := [.lit (.bool true)], args := [d1, d2, d3] }
  | _ => none }
def cmdSplitRow : OpenClaim := { program := "ytmhamlhmmkbkaaadoor", sum := "38a04b3fe58ec56f829c80c3377d7d1b44e3ffebd7889c1df3ffa2de99ae05ab", func := "shelf/shelflaw15.CmdSplit", spec := "cmdSplit", inPlace := ["internal/bytealg.IndexByteString"], unfollowed := true, recurses := true, named := ["unicode/utf8.first", "unicode/utf8.acceptRanges"], apart := false, laid := [("unicode/utf8.acceptRanges", laid_unicode_utf8_acceptRanges), ("unicode/utf8.first", laid_unicode_utf8_first)] }
def CmdSplitSaid : Prop := cmdSplitRow.holds Tryd.pinned (OpenSpec.ofChange cmdSplitSpec)

/-- ITS FALSE NEIGHBOUR: 'it returns false'. Refute it at one input. -/
def cmdSplitWrong : ChangeSpec := { name := "cmdSplit", fn := fun _ => fun
  | [d1, d2, d3] => { results := [.lit (.bool false)], args := [d1, d2, d3] }
  | _ => none }
def CmdSplitWrongFalsely : Prop := cmdSplitRow.holds Tryd.pinned (OpenSpec.ofChange cmdSplitWrong)

/-- 'shelflaw15.CmdMoreNames': WHATEVER THE INPUT: true; the input reads as it did. -/
def cmdMoreNamesSpec : ChangeSpec := { name := "cmdMoreNames", fn := fun _ => fun
  | [d1, d2] => { results := [.lit (.bool true)], args := [d1, d2] }
  | _ => none }
def cmdMoreNamesRow : OpenClaim := { program := "ytmhamlhmmkbkaaadoor", sum := "38a04b3fe58ec56f829c80c3377d7d1b44e3ffebd7889c1df3ffa2de99ae05ab", func := "shelf/shelflaw15.CmdMoreNames", spec := "cmdMoreNames", inPlace := ["internal/bytealg.IndexByteString"], unfollowed := true, recurses := true, named := ["unicode/utf8.first", "unicode/utf8.acceptRanges"], apart := false, laid := [("unicode/utf8.acceptRanges", laid_unicode_utf8_acceptRanges), ("unicode/utf8.first", laid_unicode_utf8_first)] }
def CmdMoreNamesSaid : Prop := cmdMoreNamesRow.holds Tryd.pinned (OpenSpec.ofChange cmdMoreNamesSpec)

/-- ITS FALSE NEIGHBOUR: 'it returns false'. Refute it at one input. -/
def cmdMoreNamesWrong : ChangeSpec := { name := "cmdMoreNames", fn := fun _ => fun
  | [d1, d2] => { results := [.lit (.bool false)], args := [d1, d2] }
  | _ => none }
def CmdMoreNamesWrongFalsely : Prop := cmdMoreNamesRow.holds Tryd.pinned (OpenSpec.ofChange cmdMoreNamesWrong)

/-- 'shelflaw15.CmdForth': WHATEVER THE INPUT: true; the input reads as it did. -/
def cmdForthSpec : ChangeSpec := { name := "cmdForth", fn := fun _ => fun
  | [d] => { results := [.lit (.bool true)], args := [d] }
  | _ => none }
def cmdForthRow : OpenClaim := { program := "ytmhamlhmmkbkaaadoor", sum := "38a04b3fe58ec56f829c80c3377d7d1b44e3ffebd7889c1df3ffa2de99ae05ab", func := "shelf/shelflaw15.CmdForth", spec := "cmdForth", inPlace := ["internal/bytealg.IndexByteString"], unfollowed := true, recurses := true, named := ["unicode/utf8.first", "unicode/utf8.acceptRanges"], apart := false, laid := [("unicode/utf8.acceptRanges", laid_unicode_utf8_acceptRanges), ("unicode/utf8.first", laid_unicode_utf8_first)] }
def CmdForthSaid : Prop := cmdForthRow.holds Tryd.pinned (OpenSpec.ofChange cmdForthSpec)

/-- ITS FALSE NEIGHBOUR: 'it returns false'. Refute it at one input. -/
def cmdForthWrong : ChangeSpec := { name := "cmdForth", fn := fun _ => fun
  | [d] => { results := [.lit (.bool false)], args := [d] }
  | _ => none }
def CmdForthWrongFalsely : Prop := cmdForthRow.holds Tryd.pinned (OpenSpec.ofChange cmdForthWrong)

/-- 'shelflaw15.CmdBack': WHATEVER THE INPUT: true; the input reads as it did. -/
def cmdBackSpec : ChangeSpec := { name := "cmdBack", fn := fun _ => fun
  | [d] => { results := [.lit (.bool true)], args := [d] }
  | _ => none }
def cmdBackRow : OpenClaim := { program := "ytmhamlhmmkbkaaadoor", sum := "38a04b3fe58ec56f829c80c3377d7d1b44e3ffebd7889c1df3ffa2de99ae05ab", func := "shelf/shelflaw15.CmdBack", spec := "cmdBack", inPlace := ["internal/bytealg.IndexByteString"], unfollowed := true, recurses := true, named := ["unicode/utf8.first", "unicode/utf8.acceptRanges"], apart := false, laid := [("unicode/utf8.acceptRanges", laid_unicode_utf8_acceptRanges), ("unicode/utf8.first", laid_unicode_utf8_first)] }
def CmdBackSaid : Prop := cmdBackRow.holds Tryd.pinned (OpenSpec.ofChange cmdBackSpec)

/-- ITS FALSE NEIGHBOUR: 'it returns false'. Refute it at one input. -/
def cmdBackWrong : ChangeSpec := { name := "cmdBack", fn := fun _ => fun
  | [d] => { results := [.lit (.bool false)], args := [d] }
  | _ => none }
def CmdBackWrongFalsely : Prop := cmdBackRow.holds Tryd.pinned (OpenSpec.ofChange cmdBackWrong)

/- THE SECOND FORM. 'bulk': how many values and letters a reading holds, each counted each time it is reached (what is shared counts as often as it is met; a slice's spare places count too). A statement '..UptoSaid' is the law's where the arguments, and the package variables that the reading takes, are together of bulk at most 1048576: NARROWER than '..Said'. Prove '..Said' where nothing that the law and all that it calls make is longer than what came in: it says more and counts as full. Else prove '..UptoSaid'. A law counts once. -/
mutual
def uptoBulk {H : Type} : DataW H → Nat
  | .lit (.string bytes) => bytes.length + 1
  | .lit _ => 1
  | .nil => 1
  | .ptr d => uptoBulk d + 1
  | .slice elems spare => uptoBulkAll elems + uptoBulkAll spare + 1
  | .agg parts => uptoBulkAll parts + 1
  | .iface _ d => uptoBulk d + 1
  | .map entries => uptoBulkEntries entries + 1
  | .held _ => 1
def uptoBulkAll {H : Type} : List (DataW H) → Nat
  | [] => 0
  | d :: r => uptoBulk d + uptoBulkAll r
def uptoBulkEntries {H : Type} : List (Lit × DataW H) → Nat
  | [] => 0
  | x :: r => uptoBulkEntry x + uptoBulkEntries r
def uptoBulkEntry {H : Type} : Lit × DataW H → Nat
  | (.string bytes, d) => bytes.length + uptoBulk d + 1
  | (_, d) => uptoBulk d + 1
 end
def uptoSmall : (H : Type) → List (DataW H) → Bool := fun _ ds => decide (uptoBulkAll ds ≤ 1048576)
def OpenSpec.upto (s : _root_.Go.ChangeSpec) : _root_.Go.OpenSpec := { _root_.Go.OpenSpec.ofChange s with cond := some uptoSmall }

/-- 'shelflaw15.CmdProgram', WHERE WHAT IT READS IS OF BULK AT MOST 1048576: true; the input reads as it did. -/
def cmdProgramUptoRow : OpenClaim := { program := "ytmhamlhmmkbkaaadoor", sum := "38a04b3fe58ec56f829c80c3377d7d1b44e3ffebd7889c1df3ffa2de99ae05ab", func := "shelf/shelflaw15.CmdProgram", spec := "cmdProgram", inPlace := ["internal/bytealg.IndexByteString"], unfollowed := true, recurses := true, named := ["unicode/utf8.first", "unicode/utf8.acceptRanges"], apart := false, laid := [("unicode/utf8.acceptRanges", laid_unicode_utf8_acceptRanges), ("unicode/utf8.first", laid_unicode_utf8_first)], narrowed := true }
def CmdProgramUptoSaid : Prop := cmdProgramUptoRow.holds Tryd.pinned (OpenSpec.upto cmdProgramSpec)

/-- 'shelflaw15.CmdSplit', WHERE WHAT IT READS IS OF BULK AT MOST 1048576: true; the input reads as it did. -/
def cmdSplitUptoRow : OpenClaim := { program := "ytmhamlhmmkbkaaadoor", sum := "38a04b3fe58ec56f829c80c3377d7d1b44e3ffebd7889c1df3ffa2de99ae05ab", func := "shelf/shelflaw15.CmdSplit", spec := "cmdSplit", inPlace := ["internal/bytealg.IndexByteString"], unfollowed := true, recurses := true, named := ["unicode/utf8.first", "unicode/utf8.acceptRanges"], apart := false, laid := [("unicode/utf8.acceptRanges", laid_unicode_utf8_acceptRanges), ("unicode/utf8.first", laid_unicode_utf8_first)], narrowed := true }
def CmdSplitUptoSaid : Prop := cmdSplitUptoRow.holds Tryd.pinned (OpenSpec.upto cmdSplitSpec)

/-- 'shelflaw15.CmdMoreNames', WHERE WHAT IT READS IS OF BULK AT MOST 1048576: true; the input reads as it did. -/
def cmdMoreNamesUptoRow : OpenClaim := { program := "ytmhamlhmmkbkaaadoor", sum := "38a04b3fe58ec56f829c80c3377d7d1b44e3ffebd7889c1df3ffa2de99ae05ab", func := "shelf/shelflaw15.CmdMoreNames", spec := "cmdMoreNames", inPlace := ["internal/bytealg.IndexByteString"], unfollowed := true, recurses := true, named := ["unicode/utf8.first", "unicode/utf8.acceptRanges"], apart := false, laid := [("unicode/utf8.acceptRanges", laid_unicode_utf8_acceptRanges), ("unicode/utf8.first", laid_unicode_utf8_first)], narrowed := true }
def CmdMoreNamesUptoSaid : Prop := cmdMoreNamesUptoRow.holds Tryd.pinned (OpenSpec.upto cmdMoreNamesSpec)

/-- 'shelflaw15.CmdForth', WHERE WHAT IT READS IS OF BULK AT MOST 1048576: true; the input reads as it did. -/
def cmdForthUptoRow : OpenClaim := { program := "ytmhamlhmmkbkaaadoor", sum := "38a04b3fe58ec56f829c80c3377d7d1b44e3ffebd7889c1df3ffa2de99ae05ab", func := "shelf/shelflaw15.CmdForth", spec := "cmdForth", inPlace := ["internal/bytealg.IndexByteString"], unfollowed := true, recurses := true, named := ["unicode/utf8.first", "unicode/utf8.acceptRanges"], apart := false, laid := [("unicode/utf8.acceptRanges", laid_unicode_utf8_acceptRanges), ("unicode/utf8.first", laid_unicode_utf8_first)], narrowed := true }
def CmdForthUptoSaid : Prop := cmdForthUptoRow.holds Tryd.pinned (OpenSpec.upto cmdForthSpec)

/-- 'shelflaw15.CmdBack', WHERE WHAT IT READS IS OF BULK AT MOST 1048576: true; the input reads as it did. -/
def cmdBackUptoRow : OpenClaim := { program := "ytmhamlhmmkbkaaadoor", sum := "38a04b3fe58ec56f829c80c3377d7d1b44e3ffebd7889c1df3ffa2de99ae05ab", func := "shelf/shelflaw15.CmdBack", spec := "cmdBack", inPlace := ["internal/bytealg.IndexByteString"], unfollowed := true, recurses := true, named := ["unicode/utf8.first", "unicode/utf8.acceptRanges"], apart := false, laid := [("unicode/utf8.acceptRanges", laid_unicode_utf8_acceptRanges), ("unicode/utf8.first", laid_unicode_utf8_first)], narrowed := true }
def CmdBackUptoSaid : Prop := cmdBackUptoRow.holds Tryd.pinned (OpenSpec.upto cmdBackSpec)

end Rows
end Go.Proofs.YtmhamlhmmkbkaaaDoor
