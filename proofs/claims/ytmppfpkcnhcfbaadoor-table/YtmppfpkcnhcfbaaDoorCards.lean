/-
  DERIVED. GIVEN WITH THE SEED: THE CARDS: each row of YtmppfpkcnhcfbaaDoorRows.lean that lists a variable, with what it lists TIED to the program's text (the seventh form; the later family's looks); each row that meets fmt, with fmt's text TOLD by the authors' own Lean function (tested against real Go, not proved from fmt's source: count such statements apart). THE CARD IS WHAT COUNTS. Prove the row's statement (the work); the ties are given (YtmppfpkcnhcfbaaDoorTie.lean); close each card by the builder's one call (the guide's Derived/Test/ToyasCard.lean, 'card_holds'). Laid BY PROGRAM, IN A SANDBOX (cutbox-door.mjs). By AI agents, Wed Nov 11 2026. No macro, syntax, notation, axiom, sorry.
-/
import Derived.Test.YtmppfpkcnhcfbaaDoorRows
import GoSem.ClaimSeven
namespace Go.Proofs.YtmppfpkcnhcfbaaDoor
namespace Rows

/-- THE TIED CARD OF 'shelflaw8.NamesInline'. -/
def namesInlineCard : Claim7 := { stood := { row := namesInlineRow, standIns := [], harness := (true, "f1ce0f5cfe25d508698ee449c9ad9bbc7c2200e90d459bb06937656ef1162640"), looks := true }, kinds := [], alts := [], laidByText := true, laidKinds := [.data, .pinned], laidTests := true, laidLooks := .later }
def NamesInlineCardSaid : Prop := Claim7.holds Tryd.pinned (.plain (OpenSpec.ofChange namesInlineSpec)) namesInlineCard

/-- THE TIED CARD OF 'shelflaw8.NamesTable'. -/
def namesTableCard : Claim7 := { stood := { row := namesTableRow, standIns := [], harness := (true, "f1ce0f5cfe25d508698ee449c9ad9bbc7c2200e90d459bb06937656ef1162640"), looks := true }, kinds := [], alts := [], laidByText := true, laidKinds := [.data, .data, .data, .data, .pinned], laidTests := true, laidLooks := .later }
def NamesTableCardSaid : Prop := Claim7.holds Tryd.pinned (.plain (OpenSpec.ofChange namesTableSpec)) namesTableCard

/-- THE SECOND FORM's CARD OF 'shelflaw8.NamesInline'. -/
def namesInlineUptoCard : Claim7 := { stood := { row := namesInlineUptoRow, standIns := [], harness := (true, "f1ce0f5cfe25d508698ee449c9ad9bbc7c2200e90d459bb06937656ef1162640"), looks := true }, kinds := [], alts := [], laidByText := true, laidKinds := [.data, .pinned], laidTests := true, laidLooks := .later }
def NamesInlineUptoCardSaid : Prop := Claim7.holds Tryd.pinned (.plain (OpenSpec.upto namesInlineSpec)) namesInlineUptoCard

/-- THE SECOND FORM's CARD OF 'shelflaw8.NamesTable'. -/
def namesTableUptoCard : Claim7 := { stood := { row := namesTableUptoRow, standIns := [], harness := (true, "f1ce0f5cfe25d508698ee449c9ad9bbc7c2200e90d459bb06937656ef1162640"), looks := true }, kinds := [], alts := [], laidByText := true, laidKinds := [.data, .data, .data, .data, .pinned], laidTests := true, laidLooks := .later }
def NamesTableUptoCardSaid : Prop := Claim7.holds Tryd.pinned (.plain (OpenSpec.upto namesTableSpec)) namesTableUptoCard
end Rows
end Go.Proofs.YtmppfpkcnhcfbaaDoor
