/-
  DERIVED. GIVEN WITH THE SEED: THE CARDS: each row of YtmppfpkcnhcfbabDoorRows.lean that lists a variable, with what it lists TIED to the program's text (the seventh form; the later family's looks); each row that meets fmt, with fmt's text TOLD by the authors' own Lean function (tested against real Go, not proved from fmt's source: count such statements apart). THE CARD IS WHAT COUNTS. Prove the row's statement (the work); the ties are given (YtmppfpkcnhcfbabDoorTie.lean); close each card by the builder's one call (the guide's Derived/Test/ToyasCard.lean, 'card_holds'). Laid BY PROGRAM, IN A SANDBOX (cutbox-door.mjs). By AI agents, Wed Nov 11 2026. No macro, syntax, notation, axiom, sorry.
-/
import Derived.Test.YtmppfpkcnhcfbabDoorRows
import GoSem.ClaimSeven
namespace Go.Proofs.YtmppfpkcnhcfbabDoor
namespace Rows

/-- THE TIED CARD OF 'shelflaw8.NamesEncode'. -/
def namesEncodeCard : Claim7 := { stood := { row := namesEncodeRow, standIns := [], harness := (true, "96563f7a88953ffd13e64d3c1c0d66b002e12b713b86c597551d57e06ccf65c6"), looks := true }, kinds := [], alts := [], laidByText := true, laidKinds := [.data, .data, .data, .data, .pinned], laidTests := true, laidLooks := .later }
def NamesEncodeCardSaid : Prop := Claim7.holds Tryd.pinned (.plain (OpenSpec.ofChange namesEncodeSpec)) namesEncodeCard

/-- THE TIED CARD OF 'shelflaw8.NamesForms'. -/
def namesFormsCard : Claim7 := { stood := { row := namesFormsRow, standIns := [], harness := (true, "96563f7a88953ffd13e64d3c1c0d66b002e12b713b86c597551d57e06ccf65c6"), looks := true }, kinds := [], alts := [], laidByText := true, laidKinds := [.data, .data, .data], laidTests := true, laidLooks := .later }
def NamesFormsCardSaid : Prop := Claim7.holds Tryd.pinned (.plain (OpenSpec.ofChange namesFormsSpec)) namesFormsCard

/-- THE TIED CARD OF 'shelflaw8.NamesFresh'. -/
def namesFreshCard : Claim7 := { stood := { row := namesFreshRow, standIns := [], harness := (true, "96563f7a88953ffd13e64d3c1c0d66b002e12b713b86c597551d57e06ccf65c6"), looks := true }, kinds := [], alts := [], laidByText := true, laidKinds := [.data, .data, .data, .data, .pinned], laidTests := true, laidLooks := .later }
def NamesFreshCardSaid : Prop := Claim7.holds Tryd.pinned (.plain (OpenSpec.ofChange namesFreshSpec)) namesFreshCard

/-- THE TIED CARD OF 'shelflaw8.NamesBack'. -/
def namesBackCard : Claim7 := { stood := { row := namesBackRow, standIns := [], harness := (true, "96563f7a88953ffd13e64d3c1c0d66b002e12b713b86c597551d57e06ccf65c6"), looks := true }, kinds := [], alts := [], laidByText := true, laidKinds := [.data, .data, .data, .data, .pinned], laidTests := true, laidLooks := .later }
def NamesBackCardSaid : Prop := Claim7.holds Tryd.pinned (.plain (OpenSpec.ofChange namesBackSpec)) namesBackCard

/-- THE SECOND FORM's CARD OF 'shelflaw8.NamesEncode'. -/
def namesEncodeUptoCard : Claim7 := { stood := { row := namesEncodeUptoRow, standIns := [], harness := (true, "96563f7a88953ffd13e64d3c1c0d66b002e12b713b86c597551d57e06ccf65c6"), looks := true }, kinds := [], alts := [], laidByText := true, laidKinds := [.data, .data, .data, .data, .pinned], laidTests := true, laidLooks := .later }
def NamesEncodeUptoCardSaid : Prop := Claim7.holds Tryd.pinned (.plain (OpenSpec.upto namesEncodeSpec)) namesEncodeUptoCard

/-- THE SECOND FORM's CARD OF 'shelflaw8.NamesForms'. -/
def namesFormsUptoCard : Claim7 := { stood := { row := namesFormsUptoRow, standIns := [], harness := (true, "96563f7a88953ffd13e64d3c1c0d66b002e12b713b86c597551d57e06ccf65c6"), looks := true }, kinds := [], alts := [], laidByText := true, laidKinds := [.data, .data, .data], laidTests := true, laidLooks := .later }
def NamesFormsUptoCardSaid : Prop := Claim7.holds Tryd.pinned (.plain (OpenSpec.upto namesFormsSpec)) namesFormsUptoCard

/-- THE SECOND FORM's CARD OF 'shelflaw8.NamesFresh'. -/
def namesFreshUptoCard : Claim7 := { stood := { row := namesFreshUptoRow, standIns := [], harness := (true, "96563f7a88953ffd13e64d3c1c0d66b002e12b713b86c597551d57e06ccf65c6"), looks := true }, kinds := [], alts := [], laidByText := true, laidKinds := [.data, .data, .data, .data, .pinned], laidTests := true, laidLooks := .later }
def NamesFreshUptoCardSaid : Prop := Claim7.holds Tryd.pinned (.plain (OpenSpec.upto namesFreshSpec)) namesFreshUptoCard

/-- THE SECOND FORM's CARD OF 'shelflaw8.NamesBack'. -/
def namesBackUptoCard : Claim7 := { stood := { row := namesBackUptoRow, standIns := [], harness := (true, "96563f7a88953ffd13e64d3c1c0d66b002e12b713b86c597551d57e06ccf65c6"), looks := true }, kinds := [], alts := [], laidByText := true, laidKinds := [.data, .data, .data, .data, .pinned], laidTests := true, laidLooks := .later }
def NamesBackUptoCardSaid : Prop := Claim7.holds Tryd.pinned (.plain (OpenSpec.upto namesBackSpec)) namesBackUptoCard
end Rows
end Go.Proofs.YtmppfpkcnhcfbabDoor
