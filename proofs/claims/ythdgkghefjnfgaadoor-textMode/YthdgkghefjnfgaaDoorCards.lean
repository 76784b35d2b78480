/-
  DERIVED. GIVEN WITH THE SEED: THE CARDS: each row of YthdgkghefjnfgaaDoorRows.lean that lists a variable, with what it lists TIED to the program's text (the seventh form; the later family's looks); each row that meets fmt, with fmt's text TOLD by the authors' own Lean function (tested against real Go, not proved from fmt's source: count such statements apart). THE CARD IS WHAT COUNTS. Prove the row's statement (the work); the ties are given (YthdgkghefjnfgaaDoorTie.lean); close each card by the builder's one call (the guide's Derived/Test/ToyasCard.lean, 'card_holds'). Laid BY PROGRAM, IN A SANDBOX (cutbox-door.mjs). By AI agents, Wed Nov 11 2026. No macro, syntax, notation, axiom, sorry.
-/
import Derived.Test.YthdgkghefjnfgaaDoorRows
import GoSem.ClaimSeven
namespace Go.Proofs.YthdgkghefjnfgaaDoor
namespace Rows

/-- THE TIED CARD OF 'shelflaw2.TextMode'. -/
def textModeCard : Claim7 := { stood := { row := textModeRow, standIns := [], harness := (true, "d24f80bb0ab1900a429a0ae0a0de7b38d1fa60c845c14543776850d66a8022a4"), looks := false }, kinds := [], alts := [], laidByText := true, laidKinds := [.data], laidTests := true, laidLooks := .later }
def TextModeCardSaid : Prop := Claim7.holds Tryd.pinned (.plain (OpenSpec.ofChange textModeSpec)) textModeCard

/-- THE TIED CARD OF 'shelflaw2.TextCalendar'. -/
def textCalendarCard : Claim7 := { stood := { row := textCalendarRow, standIns := [], harness := (true, "d24f80bb0ab1900a429a0ae0a0de7b38d1fa60c845c14543776850d66a8022a4"), looks := false }, kinds := [], alts := [], laidByText := true, laidKinds := [.data], laidTests := true, laidLooks := .later }
def TextCalendarCardSaid : Prop := Claim7.holds Tryd.pinned (.plain (OpenSpec.ofChange textCalendarSpec)) textCalendarCard

/-- THE TIED CARD OF 'shelflaw2.TextCivil'. -/
def textCivilCard : Claim7 := { stood := { row := textCivilRow, standIns := [], harness := (true, "d24f80bb0ab1900a429a0ae0a0de7b38d1fa60c845c14543776850d66a8022a4"), looks := false }, kinds := [], alts := [], laidByText := true, laidKinds := [.data], laidTests := true, laidLooks := .later }
def TextCivilCardSaid : Prop := Claim7.holds Tryd.pinned (.plain (OpenSpec.ofChange textCivilSpec)) textCivilCard

/-- THE SECOND FORM's CARD OF 'shelflaw2.TextMode'. -/
def textModeUptoCard : Claim7 := { stood := { row := textModeUptoRow, standIns := [], harness := (true, "d24f80bb0ab1900a429a0ae0a0de7b38d1fa60c845c14543776850d66a8022a4"), looks := false }, kinds := [], alts := [], laidByText := true, laidKinds := [.data], laidTests := true, laidLooks := .later }
def TextModeUptoCardSaid : Prop := Claim7.holds Tryd.pinned (.plain (OpenSpec.upto textModeSpec)) textModeUptoCard

/-- THE SECOND FORM's CARD OF 'shelflaw2.TextCalendar'. -/
def textCalendarUptoCard : Claim7 := { stood := { row := textCalendarUptoRow, standIns := [], harness := (true, "d24f80bb0ab1900a429a0ae0a0de7b38d1fa60c845c14543776850d66a8022a4"), looks := false }, kinds := [], alts := [], laidByText := true, laidKinds := [.data], laidTests := true, laidLooks := .later }
def TextCalendarUptoCardSaid : Prop := Claim7.holds Tryd.pinned (.plain (OpenSpec.upto textCalendarSpec)) textCalendarUptoCard

/-- THE SECOND FORM's CARD OF 'shelflaw2.TextCivil'. -/
def textCivilUptoCard : Claim7 := { stood := { row := textCivilUptoRow, standIns := [], harness := (true, "d24f80bb0ab1900a429a0ae0a0de7b38d1fa60c845c14543776850d66a8022a4"), looks := false }, kinds := [], alts := [], laidByText := true, laidKinds := [.data], laidTests := true, laidLooks := .later }
def TextCivilUptoCardSaid : Prop := Claim7.holds Tryd.pinned (.plain (OpenSpec.upto textCivilSpec)) textCivilUptoCard
end Rows
end Go.Proofs.YthdgkghefjnfgaaDoor
