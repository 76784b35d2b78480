/-
  DERIVED. GIVEN WITH THE SEED: THE CARDS: each row of YtfjmjgnifbgneabDoorRows.lean that lists a variable, with what it lists TIED to the program's text (the seventh form; the later family's looks); each row that meets fmt, with fmt's text TOLD by the authors' own Lean function (tested against real Go, not proved from fmt's source: count such statements apart). THE CARD IS WHAT COUNTS. Prove the row's statement (the work); the ties are given (YtfjmjgnifbgneabDoorTie.lean); close each card by the builder's one call (the guide's Derived/Test/ToyasCard.lean, 'card_holds'). Laid BY PROGRAM, IN A SANDBOX (cutbox-door.mjs). By AI agents, Wed Nov 11 2026. No macro, syntax, notation, axiom, sorry.
-/
import Derived.Test.YtfjmjgnifbgneabDoorRows
import GoSem.ClaimSeven
namespace Go.Proofs.YtfjmjgnifbgneabDoor
namespace Rows

/-- THE TIED CARD OF 'shelflaw1.NumPutDec'. -/
def numPutDecCard : Claim7 := { stood := { row := numPutDecRow, standIns := [], harness := (true, "d95b390a3340379a18d78afdffddaa1efddaf06bf1664bdd423ce054ab606f6c"), looks := false }, kinds := [], alts := [], laidByText := true, laidKinds := [.data, .data, .data], laidTests := true, laidLooks := .later }
def NumPutDecCardSaid : Prop := Claim7.holds Tryd.pinned (.plain (OpenSpec.ofChange numPutDecSpec)) numPutDecCard

/-- THE TIED CARD OF 'shelflaw1.NumPutOct'. -/
def numPutOctCard : Claim7 := { stood := { row := numPutOctRow, standIns := [], harness := (true, "d95b390a3340379a18d78afdffddaa1efddaf06bf1664bdd423ce054ab606f6c"), looks := false }, kinds := [], alts := [], laidByText := true, laidKinds := [.data, .data, .data], laidTests := true, laidLooks := .later }
def NumPutOctCardSaid : Prop := Claim7.holds Tryd.pinned (.plain (OpenSpec.ofChange numPutOctSpec)) numPutOctCard

/-- THE TIED CARD OF 'shelflaw1.NumPutReads'. -/
def numPutReadsCard : Claim7 := { stood := { row := numPutReadsRow, standIns := [], harness := (true, "d95b390a3340379a18d78afdffddaa1efddaf06bf1664bdd423ce054ab606f6c"), looks := false }, kinds := [], alts := [], laidByText := true, laidKinds := [.data, .data, .data], laidTests := true, laidLooks := .later }
def NumPutReadsCardSaid : Prop := Claim7.holds Tryd.pinned (.plain (OpenSpec.ofChange numPutReadsSpec)) numPutReadsCard

/-- THE SECOND FORM's CARD OF 'shelflaw1.NumPutDec'. -/
def numPutDecUptoCard : Claim7 := { stood := { row := numPutDecUptoRow, standIns := [], harness := (true, "d95b390a3340379a18d78afdffddaa1efddaf06bf1664bdd423ce054ab606f6c"), looks := false }, kinds := [], alts := [], laidByText := true, laidKinds := [.data, .data, .data], laidTests := true, laidLooks := .later }
def NumPutDecUptoCardSaid : Prop := Claim7.holds Tryd.pinned (.plain (OpenSpec.upto numPutDecSpec)) numPutDecUptoCard

/-- THE SECOND FORM's CARD OF 'shelflaw1.NumPutOct'. -/
def numPutOctUptoCard : Claim7 := { stood := { row := numPutOctUptoRow, standIns := [], harness := (true, "d95b390a3340379a18d78afdffddaa1efddaf06bf1664bdd423ce054ab606f6c"), looks := false }, kinds := [], alts := [], laidByText := true, laidKinds := [.data, .data, .data], laidTests := true, laidLooks := .later }
def NumPutOctUptoCardSaid : Prop := Claim7.holds Tryd.pinned (.plain (OpenSpec.upto numPutOctSpec)) numPutOctUptoCard

/-- THE SECOND FORM's CARD OF 'shelflaw1.NumPutReads'. -/
def numPutReadsUptoCard : Claim7 := { stood := { row := numPutReadsUptoRow, standIns := [], harness := (true, "d95b390a3340379a18d78afdffddaa1efddaf06bf1664bdd423ce054ab606f6c"), looks := false }, kinds := [], alts := [], laidByText := true, laidKinds := [.data, .data, .data], laidTests := true, laidLooks := .later }
def NumPutReadsUptoCardSaid : Prop := Claim7.holds Tryd.pinned (.plain (OpenSpec.upto numPutReadsSpec)) numPutReadsUptoCard
end Rows
end Go.Proofs.YtfjmjgnifbgneabDoor
