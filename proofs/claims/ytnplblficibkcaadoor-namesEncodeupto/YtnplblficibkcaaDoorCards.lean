/-
  DERIVED. GIVEN WITH THE SEED: THE CARDS: each row of YtnplblficibkcaaDoorRows.lean that lists a variable, with what it lists TIED to the program's text (the seventh form; the later family's looks); each row that meets fmt, with fmt's text TOLD by the authors' own Lean function (tested against real Go, not proved from fmt's source: count such statements apart). THE CARD IS WHAT COUNTS. Prove the row's statement (the work); the ties are given (YtnplblficibkcaaDoorTie.lean); close each card by the builder's one call (the guide's Derived/Test/ToyasCard.lean, 'card_holds'). Laid BY PROGRAM, IN A SANDBOX (cutbox-door.mjs). By AI agents, Wed Nov 11 2026. No macro, syntax, notation, axiom, sorry.
-/
import Derived.Test.YtnplblficibkcaaDoorRows
import GoSem.ClaimSeven
namespace Go.Proofs.YtnplblficibkcaaDoor
namespace Rows

/-- THE TIED CARD OF 'shelflaw8.NamesEncode'. -/
def namesEncodeCard : Claim7 := { stood := { row := namesEncodeRow, standIns := [], harness := (true, "34d66118f2b1bf782ae7e0183e8fb75629c56678eef3bcdbb56d0b867c0f4ec5"), looks := true }, kinds := [], alts := [], laidByText := true, laidKinds := [.data, .data, .data, .data, .pinned], laidTests := true, laidLooks := .later }
def NamesEncodeCardSaid : Prop := Claim7.holds Tryd.pinned (.plain (OpenSpec.ofChange namesEncodeSpec)) namesEncodeCard

/-- THE TIED CARD OF 'shelflaw8.NamesFresh'. -/
def namesFreshCard : Claim7 := { stood := { row := namesFreshRow, standIns := [], harness := (true, "34d66118f2b1bf782ae7e0183e8fb75629c56678eef3bcdbb56d0b867c0f4ec5"), looks := true }, kinds := [], alts := [], laidByText := true, laidKinds := [.data, .data, .data, .data, .pinned], laidTests := true, laidLooks := .later }
def NamesFreshCardSaid : Prop := Claim7.holds Tryd.pinned (.plain (OpenSpec.ofChange namesFreshSpec)) namesFreshCard

/-- THE SECOND FORM's CARD OF 'shelflaw8.NamesEncode'. -/
def namesEncodeUptoCard : Claim7 := { stood := { row := namesEncodeUptoRow, standIns := [], harness := (true, "34d66118f2b1bf782ae7e0183e8fb75629c56678eef3bcdbb56d0b867c0f4ec5"), looks := true }, kinds := [], alts := [], laidByText := true, laidKinds := [.data, .data, .data, .data, .pinned], laidTests := true, laidLooks := .later }
def NamesEncodeUptoCardSaid : Prop := Claim7.holds Tryd.pinned (.plain (OpenSpec.upto namesEncodeSpec)) namesEncodeUptoCard

/-- THE SECOND FORM's CARD OF 'shelflaw8.NamesFresh'. -/
def namesFreshUptoCard : Claim7 := { stood := { row := namesFreshUptoRow, standIns := [], harness := (true, "34d66118f2b1bf782ae7e0183e8fb75629c56678eef3bcdbb56d0b867c0f4ec5"), looks := true }, kinds := [], alts := [], laidByText := true, laidKinds := [.data, .data, .data, .data, .pinned], laidTests := true, laidLooks := .later }
def NamesFreshUptoCardSaid : Prop := Claim7.holds Tryd.pinned (.plain (OpenSpec.upto namesFreshSpec)) namesFreshUptoCard
end Rows
end Go.Proofs.YtnplblficibkcaaDoor
