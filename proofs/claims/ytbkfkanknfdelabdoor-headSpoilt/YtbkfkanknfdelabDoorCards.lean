/-
  DERIVED. GIVEN WITH THE SEED: THE CARDS: each row of YtbkfkanknfdelabDoorRows.lean that lists a variable, with what it lists TIED to the program's text (the seventh form; the later family's looks); each row that meets fmt, with fmt's text TOLD by the authors' own Lean function (tested against real Go, not proved from fmt's source: count such statements apart). THE CARD IS WHAT COUNTS. Prove the row's statement (the work); the ties are given (YtbkfkanknfdelabDoorTie.lean); close each card by the builder's one call (the guide's Derived/Test/ToyasCard.lean, 'card_holds'). Laid BY PROGRAM, IN A SANDBOX (cutbox-door.mjs). By AI agents, Wed Nov 11 2026. No macro, syntax, notation, axiom, sorry.
-/
import Derived.Test.YtbkfkanknfdelabDoorRows
import GoSem.ClaimSeven
namespace Go.Proofs.YtbkfkanknfdelabDoor
namespace Rows

/-- THE TIED CARD OF 'shelflaw7.HeadAgain'. -/
def headAgainCard : Claim7 := { stood := { row := headAgainRow, standIns := [], harness := (true, "45f787c24e845b55f76eb1da57ccafbcec89ff62a192633b577b9c43aebe8232"), looks := false }, kinds := [], alts := [], laidByText := true, laidKinds := [.data, .data, .data, .data, .data, .pinned], laidTests := true, laidLooks := .later }
def HeadAgainCardSaid : Prop := Claim7.holds Tryd.pinned (.plain (OpenSpec.ofChange headAgainSpec)) headAgainCard

/-- THE TIED CARD OF 'shelflaw7.HeadSpoilt'. -/
def headSpoiltCard : Claim7 := { stood := { row := headSpoiltRow, standIns := [], harness := (true, "45f787c24e845b55f76eb1da57ccafbcec89ff62a192633b577b9c43aebe8232"), looks := false }, kinds := [], alts := [], laidByText := true, laidKinds := [.data, .data, .data, .data, .data, .pinned], laidTests := true, laidLooks := .later }
def HeadSpoiltCardSaid : Prop := Claim7.holds Tryd.pinned (.plain (OpenSpec.ofChange headSpoiltSpec)) headSpoiltCard

/-- THE SECOND FORM's CARD OF 'shelflaw7.HeadAgain'. -/
def headAgainUptoCard : Claim7 := { stood := { row := headAgainUptoRow, standIns := [], harness := (true, "45f787c24e845b55f76eb1da57ccafbcec89ff62a192633b577b9c43aebe8232"), looks := false }, kinds := [], alts := [], laidByText := true, laidKinds := [.data, .data, .data, .data, .data, .pinned], laidTests := true, laidLooks := .later }
def HeadAgainUptoCardSaid : Prop := Claim7.holds Tryd.pinned (.plain (OpenSpec.upto headAgainSpec)) headAgainUptoCard

/-- THE SECOND FORM's CARD OF 'shelflaw7.HeadSpoilt'. -/
def headSpoiltUptoCard : Claim7 := { stood := { row := headSpoiltUptoRow, standIns := [], harness := (true, "45f787c24e845b55f76eb1da57ccafbcec89ff62a192633b577b9c43aebe8232"), looks := false }, kinds := [], alts := [], laidByText := true, laidKinds := [.data, .data, .data, .data, .data, .pinned], laidTests := true, laidLooks := .later }
def HeadSpoiltUptoCardSaid : Prop := Claim7.holds Tryd.pinned (.plain (OpenSpec.upto headSpoiltSpec)) headSpoiltUptoCard
end Rows
end Go.Proofs.YtbkfkanknfdelabDoor
