/-
  DERIVED. GIVEN WITH THE SEED: THE CARDS: each row of YtcmldlcdgmmafabGreatDoorRows.lean that lists a variable, with what it lists TIED to the program's text (the seventh form; the later family's looks); each row that meets fmt, with fmt's text TOLD by the authors' own Lean function (tested against real Go, not proved from fmt's source: count such statements apart). THE CARD IS WHAT COUNTS. Prove the row's statement (the work); the ties are given (YtcmldlcdgmmafabGreatDoorTie.lean); close each card by the builder's one call (the guide's Derived/Test/ToyasCard.lean, 'card_holds'). Laid BY PROGRAM, IN A SANDBOX (cutbox-door.mjs). By AI agents, Wed Nov 11 2026. No macro, syntax, notation, axiom, sorry.
-/
import Derived.Test.YtcmldlcdgmmafabGreatDoorRows
import GoSem.ClaimSeven
namespace Go.Proofs.YtcmldlcdgmmafabGreatDoor
namespace Rows

/-- THE TIED CARD OF 'shelflaw11.IndexCut'. -/
def indexCutCard : Claim7 := { stood := { row := indexCutRow, standIns := [], harness := (true, "1f6681dbd44a5586204bc652a218c2486def77624aee4013b6a1805cc03a7c23"), looks := false }, kinds := [], alts := [], laidByText := true, laidKinds := [.data, .pinned], laidTests := true, laidLooks := .later }
def IndexCutCardSaid : Prop := Claim7.holds Tryz.pinned (.plain (OpenSpec.ofChange indexCutSpec)) indexCutCard

/-- THE TIED CARD OF 'shelflaw11.IndexEncode'. -/
def indexEncodeCard : Claim7 := { stood := { row := indexEncodeRow, standIns := [], harness := (true, "1f6681dbd44a5586204bc652a218c2486def77624aee4013b6a1805cc03a7c23"), looks := false }, kinds := [], alts := [], laidByText := true, laidKinds := [.data, .pinned], laidTests := true, laidLooks := .later }
def IndexEncodeCardSaid : Prop := Claim7.holds Tryz.pinned (.plain (OpenSpec.ofChange indexEncodeSpec)) indexEncodeCard

/-- THE TIED CARD OF 'shelflaw11.IndexBack'. -/
def indexBackCard : Claim7 := { stood := { row := indexBackRow, standIns := [], harness := (true, "1f6681dbd44a5586204bc652a218c2486def77624aee4013b6a1805cc03a7c23"), looks := false }, kinds := [], alts := [], laidByText := true, laidKinds := [.data, .pinned], laidTests := true, laidLooks := .later }
def IndexBackCardSaid : Prop := Claim7.holds Tryz.pinned (.plain (OpenSpec.ofChange indexBackSpec)) indexBackCard

/-- THE SECOND FORM's CARD OF 'shelflaw11.IndexCut'. -/
def indexCutUptoCard : Claim7 := { stood := { row := indexCutUptoRow, standIns := [], harness := (true, "1f6681dbd44a5586204bc652a218c2486def77624aee4013b6a1805cc03a7c23"), looks := false }, kinds := [], alts := [], laidByText := true, laidKinds := [.data, .pinned], laidTests := true, laidLooks := .later }
def IndexCutUptoCardSaid : Prop := Claim7.holds Tryz.pinned (.plain (OpenSpec.upto indexCutSpec)) indexCutUptoCard

/-- THE SECOND FORM's CARD OF 'shelflaw11.IndexEncode'. -/
def indexEncodeUptoCard : Claim7 := { stood := { row := indexEncodeUptoRow, standIns := [], harness := (true, "1f6681dbd44a5586204bc652a218c2486def77624aee4013b6a1805cc03a7c23"), looks := false }, kinds := [], alts := [], laidByText := true, laidKinds := [.data, .pinned], laidTests := true, laidLooks := .later }
def IndexEncodeUptoCardSaid : Prop := Claim7.holds Tryz.pinned (.plain (OpenSpec.upto indexEncodeSpec)) indexEncodeUptoCard

/-- THE SECOND FORM's CARD OF 'shelflaw11.IndexBack'. -/
def indexBackUptoCard : Claim7 := { stood := { row := indexBackUptoRow, standIns := [], harness := (true, "1f6681dbd44a5586204bc652a218c2486def77624aee4013b6a1805cc03a7c23"), looks := false }, kinds := [], alts := [], laidByText := true, laidKinds := [.data, .pinned], laidTests := true, laidLooks := .later }
def IndexBackUptoCardSaid : Prop := Claim7.holds Tryz.pinned (.plain (OpenSpec.upto indexBackSpec)) indexBackUptoCard
end Rows
end Go.Proofs.YtcmldlcdgmmafabGreatDoor
