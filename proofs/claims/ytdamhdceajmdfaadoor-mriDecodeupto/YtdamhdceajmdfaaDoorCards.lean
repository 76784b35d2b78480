/-
  DERIVED. GIVEN WITH THE SEED: THE CARDS: each row of YtdamhdceajmdfaaDoorRows.lean that lists a variable, with what it lists TIED to the program's text (the seventh form; the later family's looks); each row that meets fmt, with fmt's text TOLD by the authors' own Lean function (tested against real Go, not proved from fmt's source: count such statements apart). THE CARD IS WHAT COUNTS. Prove the row's statement (the work); the ties are given (YtdamhdceajmdfaaDoorTie.lean); close each card by the builder's one call (the guide's Derived/Test/ToyasCard.lean, 'card_holds'). Laid BY PROGRAM, IN A SANDBOX (cutbox-door.mjs). By AI agents, Wed Nov 11 2026. No macro, syntax, notation, axiom, sorry.
-/
import Derived.Test.YtdamhdceajmdfaaDoorRows
import GoSem.ClaimSeven
namespace Go.Proofs.YtdamhdceajmdfaaDoor
namespace Rows

/-- THE TIED CARD OF 'shelflaw19.MriText'. -/
def mriTextCard : Claim7 := { stood := { row := mriTextRow, standIns := [], harness := (true, "d4bec4f858c0066fc7cf8d72dd1bb43acd947ddea85a42a09909096435423e9b"), looks := false }, kinds := [], alts := [], laidByText := true, laidKinds := [.data, .data], laidTests := true, laidLooks := .later }
def MriTextCardSaid : Prop := Claim7.holds Tryd.pinned (.plain (OpenSpec.ofChange mriTextSpec)) mriTextCard

/-- THE TIED CARD OF 'shelflaw19.MriBack'. -/
def mriBackCard : Claim7 := { stood := { row := mriBackRow, standIns := [], harness := (true, "d4bec4f858c0066fc7cf8d72dd1bb43acd947ddea85a42a09909096435423e9b"), looks := false }, kinds := [], alts := [], laidByText := true, laidKinds := [.data], laidTests := true, laidLooks := .later }
def MriBackCardSaid : Prop := Claim7.holds Tryd.pinned (.plain (OpenSpec.ofChange mriBackSpec)) mriBackCard

/-- THE TIED CARD OF 'shelflaw19.MriSpelled'. -/
def mriSpelledCard : Claim7 := { stood := { row := mriSpelledRow, standIns := [], harness := (true, "d4bec4f858c0066fc7cf8d72dd1bb43acd947ddea85a42a09909096435423e9b"), looks := false }, kinds := [], alts := [], laidByText := true, laidKinds := [.data, .data], laidTests := true, laidLooks := .later }
def MriSpelledCardSaid : Prop := Claim7.holds Tryd.pinned (.plain (OpenSpec.ofChange mriSpelledSpec)) mriSpelledCard

/-- THE TIED CARD OF 'shelflaw19.MriDecode'. -/
def mriDecodeCard : Claim7 := { stood := { row := mriDecodeRow, standIns := [], harness := (true, "d4bec4f858c0066fc7cf8d72dd1bb43acd947ddea85a42a09909096435423e9b"), looks := false }, kinds := [], alts := [], laidByText := true, laidKinds := [.data, .data], laidTests := true, laidLooks := .later }
def MriDecodeCardSaid : Prop := Claim7.holds Tryd.pinned (.plain (OpenSpec.ofChange mriDecodeSpec)) mriDecodeCard

/-- THE TIED CARD OF 'shelflaw19.MriLists'. -/
def mriListsCard : Claim7 := { stood := { row := mriListsRow, standIns := [], harness := (true, "d4bec4f858c0066fc7cf8d72dd1bb43acd947ddea85a42a09909096435423e9b"), looks := false }, kinds := [], alts := [], laidByText := true, laidKinds := [.data, .data], laidTests := true, laidLooks := .later }
def MriListsCardSaid : Prop := Claim7.holds Tryd.pinned (.plain (OpenSpec.ofChange mriListsSpec)) mriListsCard

/-- THE SECOND FORM's CARD OF 'shelflaw19.MriText'. -/
def mriTextUptoCard : Claim7 := { stood := { row := mriTextUptoRow, standIns := [], harness := (true, "d4bec4f858c0066fc7cf8d72dd1bb43acd947ddea85a42a09909096435423e9b"), looks := false }, kinds := [], alts := [], laidByText := true, laidKinds := [.data, .data], laidTests := true, laidLooks := .later }
def MriTextUptoCardSaid : Prop := Claim7.holds Tryd.pinned (.plain (OpenSpec.upto mriTextSpec)) mriTextUptoCard

/-- THE SECOND FORM's CARD OF 'shelflaw19.MriBack'. -/
def mriBackUptoCard : Claim7 := { stood := { row := mriBackUptoRow, standIns := [], harness := (true, "d4bec4f858c0066fc7cf8d72dd1bb43acd947ddea85a42a09909096435423e9b"), looks := false }, kinds := [], alts := [], laidByText := true, laidKinds := [.data], laidTests := true, laidLooks := .later }
def MriBackUptoCardSaid : Prop := Claim7.holds Tryd.pinned (.plain (OpenSpec.upto mriBackSpec)) mriBackUptoCard

/-- THE SECOND FORM's CARD OF 'shelflaw19.MriSpelled'. -/
def mriSpelledUptoCard : Claim7 := { stood := { row := mriSpelledUptoRow, standIns := [], harness := (true, "d4bec4f858c0066fc7cf8d72dd1bb43acd947ddea85a42a09909096435423e9b"), looks := false }, kinds := [], alts := [], laidByText := true, laidKinds := [.data, .data], laidTests := true, laidLooks := .later }
def MriSpelledUptoCardSaid : Prop := Claim7.holds Tryd.pinned (.plain (OpenSpec.upto mriSpelledSpec)) mriSpelledUptoCard

/-- THE SECOND FORM's CARD OF 'shelflaw19.MriDecode'. -/
def mriDecodeUptoCard : Claim7 := { stood := { row := mriDecodeUptoRow, standIns := [], harness := (true, "d4bec4f858c0066fc7cf8d72dd1bb43acd947ddea85a42a09909096435423e9b"), looks := false }, kinds := [], alts := [], laidByText := true, laidKinds := [.data, .data], laidTests := true, laidLooks := .later }
def MriDecodeUptoCardSaid : Prop := Claim7.holds Tryd.pinned (.plain (OpenSpec.upto mriDecodeSpec)) mriDecodeUptoCard

/-- THE SECOND FORM's CARD OF 'shelflaw19.MriLists'. -/
def mriListsUptoCard : Claim7 := { stood := { row := mriListsUptoRow, standIns := [], harness := (true, "d4bec4f858c0066fc7cf8d72dd1bb43acd947ddea85a42a09909096435423e9b"), looks := false }, kinds := [], alts := [], laidByText := true, laidKinds := [.data, .data], laidTests := true, laidLooks := .later }
def MriListsUptoCardSaid : Prop := Claim7.holds Tryd.pinned (.plain (OpenSpec.upto mriListsSpec)) mriListsUptoCard
end Rows
end Go.Proofs.YtdamhdceajmdfaaDoor
