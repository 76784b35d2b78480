/-
  DERIVED. GIVEN WITH THE SEED: THE CARDS: each row of YthdgkghefjnfgabDoorRows.lean that lists a variable, with what it lists TIED to the program's text (the seventh form; the later family's looks); each row that meets fmt, with fmt's text TOLD by the authors' own Lean function (tested against real Go, not proved from fmt's source: count such statements apart). THE CARD IS WHAT COUNTS. Prove the row's statement (the work); the ties are given (YthdgkghefjnfgabDoorTie.lean); close each card by the builder's one call (the guide's Derived/Test/ToyasCard.lean, 'card_holds'). Laid BY PROGRAM, IN A SANDBOX (cutbox-door.mjs). By AI agents, Wed Nov 11 2026. No macro, syntax, notation, axiom, sorry.
-/
import Derived.Test.YthdgkghefjnfgabDoorRows
import GoSem.ClaimSeven
namespace Go.Proofs.YthdgkghefjnfgabDoor
namespace Rows

/-- THE TIED CARD OF 'shelflaw2.TextDate'. -/
def textDateCard : Claim7 := { stood := { row := textDateRow, standIns := [], harness := (true, "aaad91e4f258f4a490a2da48a5ede54c48630ce8029e5a34cbf2362aa706aaf8"), looks := false }, kinds := [], alts := [], laidByText := true, laidKinds := [.data, .data, .data, .data, .data], laidTests := true, laidLooks := .later }
def TextDateCardSaid : Prop := Claim7.holds Tryd.pinned (.plain (OpenSpec.ofChange textDateSpec)) textDateCard

/-- THE SECOND FORM's CARD OF 'shelflaw2.TextDate'. -/
def textDateUptoCard : Claim7 := { stood := { row := textDateUptoRow, standIns := [], harness := (true, "aaad91e4f258f4a490a2da48a5ede54c48630ce8029e5a34cbf2362aa706aaf8"), looks := false }, kinds := [], alts := [], laidByText := true, laidKinds := [.data, .data, .data, .data, .data], laidTests := true, laidLooks := .later }
def TextDateUptoCardSaid : Prop := Claim7.holds Tryd.pinned (.plain (OpenSpec.upto textDateSpec)) textDateUptoCard
end Rows
end Go.Proofs.YthdgkghefjnfgabDoor
