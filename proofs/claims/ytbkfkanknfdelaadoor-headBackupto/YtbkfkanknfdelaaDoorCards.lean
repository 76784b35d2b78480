/-
  DERIVED. GIVEN WITH THE SEED: THE CARDS: each row of YtbkfkanknfdelaaDoorRows.lean that lists a variable, with what it lists TIED to the program's text (the seventh form; the later family's looks); each row that meets fmt, with fmt's text TOLD by the authors' own Lean function (tested against real Go, not proved from fmt's source: count such statements apart). THE CARD IS WHAT COUNTS. Prove the row's statement (the work); the ties are given (YtbkfkanknfdelaaDoorTie.lean); close each card by the builder's one call (the guide's Derived/Test/ToyasCard.lean, 'card_holds'). Laid BY PROGRAM, IN A SANDBOX (cutbox-door.mjs). By AI agents, Wed Nov 11 2026. No macro, syntax, notation, axiom, sorry.
-/
import Derived.Test.YtbkfkanknfdelaaDoorRows
import GoSem.ClaimSeven
namespace Go.Proofs.YtbkfkanknfdelaaDoor
namespace Rows

/-- THE TIED CARD OF 'shelflaw7.HeadLocal'. -/
def headLocalCard : Claim7 := { stood := { row := headLocalRow, standIns := [], harness := (true, "cd845e885dab3c1bbacea3deaafeb0c4a68af9818cfda1d182f86bf8bbc59c8c"), looks := false }, kinds := [], alts := [], laidByText := true, laidKinds := [.data, .data, .pinned], laidTests := true, laidLooks := .later }
def HeadLocalCardSaid : Prop := Claim7.holds Tryd.pinned (.plain (OpenSpec.ofChange headLocalSpec)) headLocalCard

/-- THE TIED CARD OF 'shelflaw7.HeadColumns'. -/
def headColumnsCard : Claim7 := { stood := { row := headColumnsRow, standIns := [], harness := (true, "cd845e885dab3c1bbacea3deaafeb0c4a68af9818cfda1d182f86bf8bbc59c8c"), looks := false }, kinds := [], alts := [], laidByText := true, laidKinds := [.data, .data, .pinned], laidTests := true, laidLooks := .later }
def HeadColumnsCardSaid : Prop := Claim7.holds Tryd.pinned (.plain (OpenSpec.ofChange headColumnsSpec)) headColumnsCard

/-- THE TIED CARD OF 'shelflaw7.HeadParse'. -/
def headParseCard : Claim7 := { stood := { row := headParseRow, standIns := [], harness := (true, "cd845e885dab3c1bbacea3deaafeb0c4a68af9818cfda1d182f86bf8bbc59c8c"), looks := false }, kinds := [], alts := [], laidByText := true, laidKinds := [.data, .data, .pinned], laidTests := true, laidLooks := .later }
def HeadParseCardSaid : Prop := Claim7.holds Tryd.pinned (.plain (OpenSpec.ofChange headParseSpec)) headParseCard

/-- THE TIED CARD OF 'shelflaw7.HeadBuilt'. -/
def headBuiltCard : Claim7 := { stood := { row := headBuiltRow, standIns := [], harness := (true, "cd845e885dab3c1bbacea3deaafeb0c4a68af9818cfda1d182f86bf8bbc59c8c"), looks := false }, kinds := [], alts := [], laidByText := true, laidKinds := [.data, .data, .data, .data], laidTests := true, laidLooks := .later }
def HeadBuiltCardSaid : Prop := Claim7.holds Tryd.pinned (.plain (OpenSpec.ofChange headBuiltSpec)) headBuiltCard

/-- THE TIED CARD OF 'shelflaw7.HeadFormat'. -/
def headFormatCard : Claim7 := { stood := { row := headFormatRow, standIns := [], harness := (true, "cd845e885dab3c1bbacea3deaafeb0c4a68af9818cfda1d182f86bf8bbc59c8c"), looks := false }, kinds := [], alts := [], laidByText := true, laidKinds := [.data, .data, .data, .data], laidTests := true, laidLooks := .later }
def HeadFormatCardSaid : Prop := Claim7.holds Tryd.pinned (.plain (OpenSpec.ofChange headFormatSpec)) headFormatCard

/-- THE TIED CARD OF 'shelflaw7.HeadBack'. -/
def headBackCard : Claim7 := { stood := { row := headBackRow, standIns := [], harness := (true, "cd845e885dab3c1bbacea3deaafeb0c4a68af9818cfda1d182f86bf8bbc59c8c"), looks := false }, kinds := [], alts := [], laidByText := true, laidKinds := [.data, .data, .data, .data, .data, .pinned], laidTests := true, laidLooks := .later }
def HeadBackCardSaid : Prop := Claim7.holds Tryd.pinned (.plain (OpenSpec.ofChange headBackSpec)) headBackCard

/-- THE SECOND FORM's CARD OF 'shelflaw7.HeadLocal'. -/
def headLocalUptoCard : Claim7 := { stood := { row := headLocalUptoRow, standIns := [], harness := (true, "cd845e885dab3c1bbacea3deaafeb0c4a68af9818cfda1d182f86bf8bbc59c8c"), looks := false }, kinds := [], alts := [], laidByText := true, laidKinds := [.data, .data, .pinned], laidTests := true, laidLooks := .later }
def HeadLocalUptoCardSaid : Prop := Claim7.holds Tryd.pinned (.plain (OpenSpec.upto headLocalSpec)) headLocalUptoCard

/-- THE SECOND FORM's CARD OF 'shelflaw7.HeadColumns'. -/
def headColumnsUptoCard : Claim7 := { stood := { row := headColumnsUptoRow, standIns := [], harness := (true, "cd845e885dab3c1bbacea3deaafeb0c4a68af9818cfda1d182f86bf8bbc59c8c"), looks := false }, kinds := [], alts := [], laidByText := true, laidKinds := [.data, .data, .pinned], laidTests := true, laidLooks := .later }
def HeadColumnsUptoCardSaid : Prop := Claim7.holds Tryd.pinned (.plain (OpenSpec.upto headColumnsSpec)) headColumnsUptoCard

/-- THE SECOND FORM's CARD OF 'shelflaw7.HeadParse'. -/
def headParseUptoCard : Claim7 := { stood := { row := headParseUptoRow, standIns := [], harness := (true, "cd845e885dab3c1bbacea3deaafeb0c4a68af9818cfda1d182f86bf8bbc59c8c"), looks := false }, kinds := [], alts := [], laidByText := true, laidKinds := [.data, .data, .pinned], laidTests := true, laidLooks := .later }
def HeadParseUptoCardSaid : Prop := Claim7.holds Tryd.pinned (.plain (OpenSpec.upto headParseSpec)) headParseUptoCard

/-- THE SECOND FORM's CARD OF 'shelflaw7.HeadBuilt'. -/
def headBuiltUptoCard : Claim7 := { stood := { row := headBuiltUptoRow, standIns := [], harness := (true, "cd845e885dab3c1bbacea3deaafeb0c4a68af9818cfda1d182f86bf8bbc59c8c"), looks := false }, kinds := [], alts := [], laidByText := true, laidKinds := [.data, .data, .data, .data], laidTests := true, laidLooks := .later }
def HeadBuiltUptoCardSaid : Prop := Claim7.holds Tryd.pinned (.plain (OpenSpec.upto headBuiltSpec)) headBuiltUptoCard

/-- THE SECOND FORM's CARD OF 'shelflaw7.HeadFormat'. -/
def headFormatUptoCard : Claim7 := { stood := { row := headFormatUptoRow, standIns := [], harness := (true, "cd845e885dab3c1bbacea3deaafeb0c4a68af9818cfda1d182f86bf8bbc59c8c"), looks := false }, kinds := [], alts := [], laidByText := true, laidKinds := [.data, .data, .data, .data], laidTests := true, laidLooks := .later }
def HeadFormatUptoCardSaid : Prop := Claim7.holds Tryd.pinned (.plain (OpenSpec.upto headFormatSpec)) headFormatUptoCard

/-- THE SECOND FORM's CARD OF 'shelflaw7.HeadBack'. -/
def headBackUptoCard : Claim7 := { stood := { row := headBackUptoRow, standIns := [], harness := (true, "cd845e885dab3c1bbacea3deaafeb0c4a68af9818cfda1d182f86bf8bbc59c8c"), looks := false }, kinds := [], alts := [], laidByText := true, laidKinds := [.data, .data, .data, .data, .data, .pinned], laidTests := true, laidLooks := .later }
def HeadBackUptoCardSaid : Prop := Claim7.holds Tryd.pinned (.plain (OpenSpec.upto headBackSpec)) headBackUptoCard
end Rows
end Go.Proofs.YtbkfkanknfdelaaDoor
