/-
  DERIVED. GIVEN WITH THE SEED: THE CARDS: each row of YtcmldlcdgmmafaaDoorRows.lean that lists a variable, with what it lists TIED to the program's text (the seventh form; the later family's looks); each row that meets fmt, with fmt's text TOLD by the authors' own Lean function (tested against real Go, not proved from fmt's source: count such statements apart). THE CARD IS WHAT COUNTS. Prove the row's statement (the work); the ties are given (YtcmldlcdgmmafaaDoorTie.lean); close each card by the builder's one call (the guide's Derived/Test/ToyasCard.lean, 'card_holds'). Laid BY PROGRAM, IN A SANDBOX (cutbox-door.mjs). By AI agents, Wed Nov 11 2026. No macro, syntax, notation, axiom, sorry.
-/
import Derived.Test.YtcmldlcdgmmafaaDoorRows
import GoSem.ClaimSeven
namespace Go.Proofs.YtcmldlcdgmmafaaDoor
namespace Rows

/-- THE TIED CARD OF 'shelflaw11.IndexSize'. -/
def indexSizeCard : Claim7 := { stood := { row := indexSizeRow, standIns := [], harness := (true, "f890a81db95d024e79a51d0f5a7b928314879cb424523af8f41b81ad75be5ee3"), looks := false }, kinds := [], alts := [], laidByText := true, laidKinds := [.data, .pinned], laidTests := true, laidLooks := .later }
def IndexSizeCardSaid : Prop := Claim7.holds Tryd.pinned (.plain (OpenSpec.ofChange indexSizeSpec)) indexSizeCard

/-- THE TIED CARD OF 'shelflaw11.IndexDecode'. -/
def indexDecodeCard : Claim7 := { stood := { row := indexDecodeRow, standIns := [], harness := (true, "f890a81db95d024e79a51d0f5a7b928314879cb424523af8f41b81ad75be5ee3"), looks := false }, kinds := [], alts := [], laidByText := true, laidKinds := [.data, .pinned], laidTests := true, laidLooks := .later }
def IndexDecodeCardSaid : Prop := Claim7.holds Tryd.pinned (.plain (OpenSpec.ofChange indexDecodeSpec)) indexDecodeCard

/-- THE TIED CARD OF 'shelflaw11.IndexFind'. -/
def indexFindCard : Claim7 := { stood := { row := indexFindRow, standIns := [], harness := (true, "f890a81db95d024e79a51d0f5a7b928314879cb424523af8f41b81ad75be5ee3"), looks := false }, kinds := [], alts := [], laidByText := true, laidKinds := [.data, .pinned], laidTests := true, laidLooks := .later }
def IndexFindCardSaid : Prop := Claim7.holds Tryd.pinned (.plain (OpenSpec.ofChange indexFindSpec)) indexFindCard

/-- THE TIED CARD OF 'shelflaw11.IndexFresh'. -/
def indexFreshCard : Claim7 := { stood := { row := indexFreshRow, standIns := [], harness := (true, "f890a81db95d024e79a51d0f5a7b928314879cb424523af8f41b81ad75be5ee3"), looks := false }, kinds := [], alts := [], laidByText := true, laidKinds := [.data, .pinned], laidTests := true, laidLooks := .later }
def IndexFreshCardSaid : Prop := Claim7.holds Tryd.pinned (.plain (OpenSpec.ofChange indexFreshSpec)) indexFreshCard

/-- THE SECOND FORM's CARD OF 'shelflaw11.IndexSize'. -/
def indexSizeUptoCard : Claim7 := { stood := { row := indexSizeUptoRow, standIns := [], harness := (true, "f890a81db95d024e79a51d0f5a7b928314879cb424523af8f41b81ad75be5ee3"), looks := false }, kinds := [], alts := [], laidByText := true, laidKinds := [.data, .pinned], laidTests := true, laidLooks := .later }
def IndexSizeUptoCardSaid : Prop := Claim7.holds Tryd.pinned (.plain (OpenSpec.upto indexSizeSpec)) indexSizeUptoCard

/-- THE SECOND FORM's CARD OF 'shelflaw11.IndexDecode'. -/
def indexDecodeUptoCard : Claim7 := { stood := { row := indexDecodeUptoRow, standIns := [], harness := (true, "f890a81db95d024e79a51d0f5a7b928314879cb424523af8f41b81ad75be5ee3"), looks := false }, kinds := [], alts := [], laidByText := true, laidKinds := [.data, .pinned], laidTests := true, laidLooks := .later }
def IndexDecodeUptoCardSaid : Prop := Claim7.holds Tryd.pinned (.plain (OpenSpec.upto indexDecodeSpec)) indexDecodeUptoCard

/-- THE SECOND FORM's CARD OF 'shelflaw11.IndexFind'. -/
def indexFindUptoCard : Claim7 := { stood := { row := indexFindUptoRow, standIns := [], harness := (true, "f890a81db95d024e79a51d0f5a7b928314879cb424523af8f41b81ad75be5ee3"), looks := false }, kinds := [], alts := [], laidByText := true, laidKinds := [.data, .pinned], laidTests := true, laidLooks := .later }
def IndexFindUptoCardSaid : Prop := Claim7.holds Tryd.pinned (.plain (OpenSpec.upto indexFindSpec)) indexFindUptoCard

/-- THE SECOND FORM's CARD OF 'shelflaw11.IndexFresh'. -/
def indexFreshUptoCard : Claim7 := { stood := { row := indexFreshUptoRow, standIns := [], harness := (true, "f890a81db95d024e79a51d0f5a7b928314879cb424523af8f41b81ad75be5ee3"), looks := false }, kinds := [], alts := [], laidByText := true, laidKinds := [.data, .pinned], laidTests := true, laidLooks := .later }
def IndexFreshUptoCardSaid : Prop := Claim7.holds Tryd.pinned (.plain (OpenSpec.upto indexFreshSpec)) indexFreshUptoCard
end Rows
end Go.Proofs.YtcmldlcdgmmafaaDoor
