/-
  DERIVED. GIVEN WITH THE SEED: THE CARDS: each row of YtjpoifoejbabiabDoorRows.lean that lists a variable, with what it lists TIED to the program's text (the seventh form; the later family's looks); each row that meets fmt, with fmt's text TOLD by the authors' own Lean function (tested against real Go, not proved from fmt's source: count such statements apart). THE CARD IS WHAT COUNTS. Prove the row's statement (the work); the ties are given (YtjpoifoejbabiabDoorTie.lean); close each card by the builder's one call (the guide's Derived/Test/ToyasCard.lean, 'card_holds'). Laid BY PROGRAM, IN A SANDBOX (cutbox-door.mjs). By AI agents, Wed Nov 11 2026. No macro, syntax, notation, axiom, sorry.
-/
import Derived.Test.YtjpoifoejbabiabDoorRows
import GoSem.ClaimSeven
namespace Go.Proofs.YtjpoifoejbabiabDoor
namespace Rows

/-- THE TIED CARD OF 'shelflaw14.ShowLineReads'. -/
def showLineReadsCard : Claim7 := { stood := { row := showLineReadsRow, standIns := [], harness := (true, "b613104f76b3920841a9811cb8dfa16897a8a6b198de41a3656561169621147c"), looks := false }, kinds := [], alts := [], laidByText := true, laidKinds := [.data, .data, .data, .data, .data, .data], laidTests := true, laidLooks := .later }
def ShowLineReadsCardSaid : Prop := Claim7.holds Tryd.pinned (.plain (OpenSpec.ofChange showLineReadsSpec)) showLineReadsCard

/-- THE TIED CARD OF 'shelflaw14.ShowListBack'. -/
def showListBackCard : Claim7 := { stood := { row := showListBackRow, standIns := [], harness := (true, "b613104f76b3920841a9811cb8dfa16897a8a6b198de41a3656561169621147c"), looks := false }, kinds := [], alts := [], laidByText := true, laidKinds := [.data, .data, .data, .data, .data, .data], laidTests := true, laidLooks := .later }
def ShowListBackCardSaid : Prop := Claim7.holds Tryd.pinned (.plain (OpenSpec.ofChange showListBackSpec)) showListBackCard

/-- THE TIED CARD OF 'shelflaw14.ShowLine'. -/
def showLineCard : Claim7 := { stood := { row := showLineRow, standIns := [], harness := (true, "b613104f76b3920841a9811cb8dfa16897a8a6b198de41a3656561169621147c"), looks := false }, kinds := [], alts := [], laidByText := true, laidKinds := [.data, .data, .data, .data, .data, .data], laidTests := true, laidLooks := .later }
def ShowLineCardSaid : Prop := Claim7.holds Tryd.pinned (.plain (OpenSpec.ofChange showLineSpec)) showLineCard

/-- THE TIED CARD OF 'shelflaw14.ShowList'. -/
def showListCard : Claim7 := { stood := { row := showListRow, standIns := [], harness := (true, "b613104f76b3920841a9811cb8dfa16897a8a6b198de41a3656561169621147c"), looks := false }, kinds := [], alts := [], laidByText := true, laidKinds := [.data, .data, .data, .data, .data, .data], laidTests := true, laidLooks := .later }
def ShowListCardSaid : Prop := Claim7.holds Tryd.pinned (.plain (OpenSpec.ofChange showListSpec)) showListCard

/-- THE SECOND FORM's CARD OF 'shelflaw14.ShowLineReads'. -/
def showLineReadsUptoCard : Claim7 := { stood := { row := showLineReadsUptoRow, standIns := [], harness := (true, "b613104f76b3920841a9811cb8dfa16897a8a6b198de41a3656561169621147c"), looks := false }, kinds := [], alts := [], laidByText := true, laidKinds := [.data, .data, .data, .data, .data, .data], laidTests := true, laidLooks := .later }
def ShowLineReadsUptoCardSaid : Prop := Claim7.holds Tryd.pinned (.plain (OpenSpec.upto showLineReadsSpec)) showLineReadsUptoCard

/-- THE SECOND FORM's CARD OF 'shelflaw14.ShowListBack'. -/
def showListBackUptoCard : Claim7 := { stood := { row := showListBackUptoRow, standIns := [], harness := (true, "b613104f76b3920841a9811cb8dfa16897a8a6b198de41a3656561169621147c"), looks := false }, kinds := [], alts := [], laidByText := true, laidKinds := [.data, .data, .data, .data, .data, .data], laidTests := true, laidLooks := .later }
def ShowListBackUptoCardSaid : Prop := Claim7.holds Tryd.pinned (.plain (OpenSpec.upto showListBackSpec)) showListBackUptoCard

/-- THE SECOND FORM's CARD OF 'shelflaw14.ShowLine'. -/
def showLineUptoCard : Claim7 := { stood := { row := showLineUptoRow, standIns := [], harness := (true, "b613104f76b3920841a9811cb8dfa16897a8a6b198de41a3656561169621147c"), looks := false }, kinds := [], alts := [], laidByText := true, laidKinds := [.data, .data, .data, .data, .data, .data], laidTests := true, laidLooks := .later }
def ShowLineUptoCardSaid : Prop := Claim7.holds Tryd.pinned (.plain (OpenSpec.upto showLineSpec)) showLineUptoCard

/-- THE SECOND FORM's CARD OF 'shelflaw14.ShowList'. -/
def showListUptoCard : Claim7 := { stood := { row := showListUptoRow, standIns := [], harness := (true, "b613104f76b3920841a9811cb8dfa16897a8a6b198de41a3656561169621147c"), looks := false }, kinds := [], alts := [], laidByText := true, laidKinds := [.data, .data, .data, .data, .data, .data], laidTests := true, laidLooks := .later }
def ShowListUptoCardSaid : Prop := Claim7.holds Tryd.pinned (.plain (OpenSpec.upto showListSpec)) showListUptoCard
end Rows
end Go.Proofs.YtjpoifoejbabiabDoor
