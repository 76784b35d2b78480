/-
  NARROWER THAN 'FOR EVERY INPUT', by the rows' own cells (each row's printed sentence says how): TextMode: laid · TextCalendar: laid · TextCivil: laid.
  DERIVED. THE GIVEN ROWS OF THIS SEAT. 3 by the template 'for every input the law returns true; each argument reads behind the call as it read before'; 0 by the template 'total and deterministic' (their statements: YthdgkghefjnfgaaDoorTotals.lean).
  GIVEN WITH THE SEED: the statements are not yours to turn. If you find one false, say at which input.
  Laid BY PROGRAM, IN A SANDBOX (cutbox-rows.mjs): the forced cells as the released guide's own fill.sh prints them over the translation 31ded51c48d4bfce… (all of the seat's roots in one cut). By AI agents, Wed Nov 11 2026. No macro, syntax, notation, axiom, sorry.
-/
import Derived.Test.YthdgkghefjnfgaaDoorChecked
import GoSem.Claim
import GoSem.ClaimJoined
import GoSem.ClaimMapViews
import Derived.JoinedTies
import Derived.KernelRfl
namespace Go.Proofs.YthdgkghefjnfgaaDoor
/- THE CELL 'sum', in the pinned program and in every row, IS THE sha256 OF THE DUMP (.gsa) THAT YthdgkghefjnfgaaDoorProg.lean LOADS. Nothing in Lean hashes anything: it is a label: what it is worth is what the hold of that sum in a sandbox is worth. -/
noncomputable def Tryd.pinned : Pinned := { name := "ythdgkghefjnfgaadoor", sum := "31ded51c48d4bfceebeefa0696d3d098fc353ef69bb3210c36d77d59b9c151c9", checked := Tryd.checked }
namespace Rows
def none {H : Type} : Left H := { results := [], args := [] }

/- WHAT THE LISTED PACKAGE-LEVEL VARIABLES READ AS WHEN THE CALL BEGINS. Each datum BY PROGRAM (the guide's laid-datum.mjs) off the statement by which the dump's own 'gosem.cut.vars' lays the variable. In a bare row this is a premise. The card (YthdgkghefjnfgaaDoorCards.lean) ties it to the program's text. -/
def laid_shelf_text_modeGroups {H : Type} : DataW H := .agg [.agg [.lit (.int .i64 256), .lit (.int .i64 128), .lit (.int .i64 64), .lit (.int .i64 2048), .lit (.int .u8 115)], .agg [.lit (.int .i64 32), .lit (.int .i64 16), .lit (.int .i64 8), .lit (.int .i64 1024), .lit (.int .u8 115)], .agg [.lit (.int .i64 4), .lit (.int .i64 2), .lit (.int .i64 1), .lit (.int .i64 512), .lit (.int .u8 116)]]
def laid_shelf_text_monthDays {H : Type} : DataW H := .agg [.lit (.int .i64 31), .lit (.int .i64 28), .lit (.int .i64 31), .lit (.int .i64 30), .lit (.int .i64 31), .lit (.int .i64 30), .lit (.int .i64 31), .lit (.int .i64 31), .lit (.int .i64 30), .lit (.int .i64 31), .lit (.int .i64 30), .lit (.int .i64 31)]

/-- 'shelflaw2.TextMode': WHATEVER THE INPUT: true; the input reads as it did. -/
def textModeSpec : ChangeSpec := { name := "textMode", fn := fun _ => fun
  | [d] => { results := [.lit (.bool true)], args := [d] }
  | _ => none }
def textModeRow : OpenClaim := { program := "ythdgkghefjnfgaadoor", sum := "31ded51c48d4bfceebeefa0696d3d098fc353ef69bb3210c36d77d59b9c151c9", func := "shelf/shelflaw2.TextMode", spec := "textMode", named := ["shelf/text.modeGroups"], apart := false, laid := [("shelf/text.modeGroups", laid_shelf_text_modeGroups)] }
def TextModeSaid : Prop := textModeRow.holds Tryd.pinned (OpenSpec.ofChange textModeSpec)

/-- ITS FALSE NEIGHBOUR: 'it returns false'. Refute it at one input. -/
def textModeWrong : ChangeSpec := { name := "textMode", fn := fun _ => fun
  | [d] => { results := [.lit (.bool false)], args := [d] }
  | _ => none }
def TextModeWrongFalsely : Prop := textModeRow.holds Tryd.pinned (OpenSpec.ofChange textModeWrong)

/-- 'shelflaw2.TextCalendar': WHATEVER THE INPUT: true; the input reads as it did. -/
def textCalendarSpec : ChangeSpec := { name := "textCalendar", fn := fun _ => fun
  | [d] => { results := [.lit (.bool true)], args := [d] }
  | _ => none }
def textCalendarRow : OpenClaim := { program := "ythdgkghefjnfgaadoor", sum := "31ded51c48d4bfceebeefa0696d3d098fc353ef69bb3210c36d77d59b9c151c9", func := "shelf/shelflaw2.TextCalendar", spec := "textCalendar", named := ["shelf/text.monthDays"], apart := false, laid := [("shelf/text.monthDays", laid_shelf_text_monthDays)] }
def TextCalendarSaid : Prop := textCalendarRow.holds Tryd.pinned (OpenSpec.ofChange textCalendarSpec)

/-- ITS FALSE NEIGHBOUR: 'it returns false'. Refute it at one input. -/
def textCalendarWrong : ChangeSpec := { name := "textCalendar", fn := fun _ => fun
  | [d] => { results := [.lit (.bool false)], args := [d] }
  | _ => none }
def TextCalendarWrongFalsely : Prop := textCalendarRow.holds Tryd.pinned (OpenSpec.ofChange textCalendarWrong)

/-- 'shelflaw2.TextCivil': WHATEVER THE INPUT: true; the input reads as it did. -/
def textCivilSpec : ChangeSpec := { name := "textCivil", fn := fun _ => fun
  | [d] => { results := [.lit (.bool true)], args := [d] }
  | _ => none }
def textCivilRow : OpenClaim := { program := "ythdgkghefjnfgaadoor", sum := "31ded51c48d4bfceebeefa0696d3d098fc353ef69bb3210c36d77d59b9c151c9", func := "shelf/shelflaw2.TextCivil", spec := "textCivil", named := ["shelf/text.monthDays"], apart := false, laid := [("shelf/text.monthDays", laid_shelf_text_monthDays)] }
def TextCivilSaid : Prop := textCivilRow.holds Tryd.pinned (OpenSpec.ofChange textCivilSpec)

/-- ITS FALSE NEIGHBOUR: 'it returns false'. Refute it at one input. -/
def textCivilWrong : ChangeSpec := { name := "textCivil", fn := fun _ => fun
  | [d] => { results := [.lit (.bool false)], args := [d] }
  | _ => none }
def TextCivilWrongFalsely : Prop := textCivilRow.holds Tryd.pinned (OpenSpec.ofChange textCivilWrong)

/- THE SECOND FORM. 'bulk': how many values and letters a reading holds, each counted each time it is reached (what is shared counts as often as it is met; a slice's spare places count too). A statement '..UptoSaid' is the law's where the arguments, and the package variables that the reading takes, are together of bulk at most 1048576: NARROWER than '..Said'. Prove '..Said' where nothing that the law and all that it calls make is longer than what came in: it says more and counts as full. Else prove '..UptoSaid'. A law counts once. -/
mutual
def uptoBulk {H : Type} : DataW H → Nat
  | .lit (.string bytes) => bytes.length + 1
  | .lit _ => 1
  | .nil => 1
  | .ptr d => uptoBulk d + 1
  | .slice elems spare => uptoBulkAll elems + uptoBulkAll spare + 1
  | .agg parts => uptoBulkAll parts + 1
  | .iface _ d => uptoBulk d + 1
  | .map entries => uptoBulkEntries entries + 1
  | .held _ => 1
def uptoBulkAll {H : Type} : List (DataW H) → Nat
  | [] => 0
  | d :: r => uptoBulk d + uptoBulkAll r
def uptoBulkEntries {H : Type} : List (Lit × DataW H) → Nat
  | [] => 0
  | x :: r => uptoBulkEntry x + uptoBulkEntries r
def uptoBulkEntry {H : Type} : Lit × DataW H → Nat
  | (.string bytes, d) => bytes.length + uptoBulk d + 1
  | (_, d) => uptoBulk d + 1
 end
def uptoSmall : (H : Type) → List (DataW H) → Bool := fun _ ds => decide (uptoBulkAll ds ≤ 1048576)
def OpenSpec.upto (s : _root_.Go.ChangeSpec) : _root_.Go.OpenSpec := { _root_.Go.OpenSpec.ofChange s with cond := some uptoSmall }

/-- 'shelflaw2.TextMode', WHERE WHAT IT READS IS OF BULK AT MOST 1048576: true; the input reads as it did. -/
def textModeUptoRow : OpenClaim := { program := "ythdgkghefjnfgaadoor", sum := "31ded51c48d4bfceebeefa0696d3d098fc353ef69bb3210c36d77d59b9c151c9", func := "shelf/shelflaw2.TextMode", spec := "textMode", named := ["shelf/text.modeGroups"], apart := false, laid := [("shelf/text.modeGroups", laid_shelf_text_modeGroups)], narrowed := true }
def TextModeUptoSaid : Prop := textModeUptoRow.holds Tryd.pinned (OpenSpec.upto textModeSpec)

/-- 'shelflaw2.TextCalendar', WHERE WHAT IT READS IS OF BULK AT MOST 1048576: true; the input reads as it did. -/
def textCalendarUptoRow : OpenClaim := { program := "ythdgkghefjnfgaadoor", sum := "31ded51c48d4bfceebeefa0696d3d098fc353ef69bb3210c36d77d59b9c151c9", func := "shelf/shelflaw2.TextCalendar", spec := "textCalendar", named := ["shelf/text.monthDays"], apart := false, laid := [("shelf/text.monthDays", laid_shelf_text_monthDays)], narrowed := true }
def TextCalendarUptoSaid : Prop := textCalendarUptoRow.holds Tryd.pinned (OpenSpec.upto textCalendarSpec)

/-- 'shelflaw2.TextCivil', WHERE WHAT IT READS IS OF BULK AT MOST 1048576: true; the input reads as it did. -/
def textCivilUptoRow : OpenClaim := { program := "ythdgkghefjnfgaadoor", sum := "31ded51c48d4bfceebeefa0696d3d098fc353ef69bb3210c36d77d59b9c151c9", func := "shelf/shelflaw2.TextCivil", spec := "textCivil", named := ["shelf/text.monthDays"], apart := false, laid := [("shelf/text.monthDays", laid_shelf_text_monthDays)], narrowed := true }
def TextCivilUptoSaid : Prop := textCivilUptoRow.holds Tryd.pinned (OpenSpec.upto textCivilSpec)

end Rows
end Go.Proofs.YthdgkghefjnfgaaDoor
