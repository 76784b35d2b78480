/-
  DERIVED. GIVEN WITH THE SEED: THE CARDS: each row of YtmhamlhmmkbkaaaDoorRows.lean that lists a variable, with what it lists TIED to the program's text (the seventh form; the later family's looks); each row that meets fmt, with fmt's text TOLD by the authors' own Lean function (tested against real Go, not proved from fmt's source: count such statements apart). THE CARD IS WHAT COUNTS. Prove the row's statement (the work); the ties are given (YtmhamlhmmkbkaaaDoorTie.lean); close each card by the builder's one call (the guide's Derived/Test/ToyasCard.lean, 'card_holds'). Laid BY PROGRAM, IN A SANDBOX (cutbox-door.mjs). By AI agents, Wed Nov 11 2026. No macro, syntax, notation, axiom, sorry.
-/
import Derived.Test.YtmhamlhmmkbkaaaDoorRows
import GoSem.ClaimSeven
namespace Go.Proofs.YtmhamlhmmkbkaaaDoor
namespace Rows

/-- THE TIED CARD OF 'shelflaw15.CmdProgram'. -/
def cmdProgramCard : Claim7 := { stood := { row := cmdProgramRow, standIns := [], harness := (true, "9fdc0ae81f8fe877e3e8b92db3deeaafcfb0299aa123b61646faff96c1945f61"), looks := false }, kinds := [], alts := [], laidByText := true, laidKinds := [.data, .pinned], laidTests := true, laidLooks := .later }
def CmdProgramCardSaid : Prop := Claim7.holds Tryd.pinned (.plain (OpenSpec.ofChange cmdProgramSpec)) cmdProgramCard

/-- THE TIED CARD OF 'shelflaw15.CmdSplit'. -/
def cmdSplitCard : Claim7 := { stood := { row := cmdSplitRow, standIns := [], harness := (true, "9fdc0ae81f8fe877e3e8b92db3deeaafcfb0299aa123b61646faff96c1945f61"), looks := false }, kinds := [], alts := [], laidByText := true, laidKinds := [.data, .pinned], laidTests := true, laidLooks := .later }
def CmdSplitCardSaid : Prop := Claim7.holds Tryd.pinned (.plain (OpenSpec.ofChange cmdSplitSpec)) cmdSplitCard

/-- THE TIED CARD OF 'shelflaw15.CmdMoreNames'. -/
def cmdMoreNamesCard : Claim7 := { stood := { row := cmdMoreNamesRow, standIns := [], harness := (true, "9fdc0ae81f8fe877e3e8b92db3deeaafcfb0299aa123b61646faff96c1945f61"), looks := false }, kinds := [], alts := [], laidByText := true, laidKinds := [.data, .pinned], laidTests := true, laidLooks := .later }
def CmdMoreNamesCardSaid : Prop := Claim7.holds Tryd.pinned (.plain (OpenSpec.ofChange cmdMoreNamesSpec)) cmdMoreNamesCard

/-- THE TIED CARD OF 'shelflaw15.CmdForth'. -/
def cmdForthCard : Claim7 := { stood := { row := cmdForthRow, standIns := [], harness := (true, "9fdc0ae81f8fe877e3e8b92db3deeaafcfb0299aa123b61646faff96c1945f61"), looks := false }, kinds := [], alts := [], laidByText := true, laidKinds := [.data, .pinned], laidTests := true, laidLooks := .later }
def CmdForthCardSaid : Prop := Claim7.holds Tryd.pinned (.plain (OpenSpec.ofChange cmdForthSpec)) cmdForthCard

/-- THE TIED CARD OF 'shelflaw15.CmdBack'. -/
def cmdBackCard : Claim7 := { stood := { row := cmdBackRow, standIns := [], harness := (true, "9fdc0ae81f8fe877e3e8b92db3deeaafcfb0299aa123b61646faff96c1945f61"), looks := false }, kinds := [], alts := [], laidByText := true, laidKinds := [.data, .pinned], laidTests := true, laidLooks := .later }
def CmdBackCardSaid : Prop := Claim7.holds Tryd.pinned (.plain (OpenSpec.ofChange cmdBackSpec)) cmdBackCard

/-- THE SECOND FORM's CARD OF 'shelflaw15.CmdProgram'. -/
def cmdProgramUptoCard : Claim7 := { stood := { row := cmdProgramUptoRow, standIns := [], harness := (true, "9fdc0ae81f8fe877e3e8b92db3deeaafcfb0299aa123b61646faff96c1945f61"), looks := false }, kinds := [], alts := [], laidByText := true, laidKinds := [.data, .pinned], laidTests := true, laidLooks := .later }
def CmdProgramUptoCardSaid : Prop := Claim7.holds Tryd.pinned (.plain (OpenSpec.upto cmdProgramSpec)) cmdProgramUptoCard

/-- THE SECOND FORM's CARD OF 'shelflaw15.CmdSplit'. -/
def cmdSplitUptoCard : Claim7 := { stood := { row := cmdSplitUptoRow, standIns := [], harness := (true, "9fdc0ae81f8fe877e3e8b92db3deeaafcfb0299aa123b61646faff96c1945f61"), looks := false }, kinds := [], alts := [], laidByText := true, laidKinds := [.data, .pinned], laidTests := true, laidLooks := .later }
def CmdSplitUptoCardSaid : Prop := Claim7.holds Tryd.pinned (.plain (OpenSpec.upto cmdSplitSpec)) cmdSplitUptoCard

/-- THE SECOND FORM's CARD OF 'shelflaw15.CmdMoreNames'. -/
def cmdMoreNamesUptoCard : Claim7 := { stood := { row := cmdMoreNamesUptoRow, standIns := [], harness := (true, "9fdc0ae81f8fe877e3e8b92db3deeaafcfb0299aa123b61646faff96c1945f61"), looks := false }, kinds := [], alts := [], laidByText := true, laidKinds := [.data, .pinned], laidTests := true, laidLooks := .later }
def CmdMoreNamesUptoCardSaid : Prop := Claim7.holds Tryd.pinned (.plain (OpenSpec.upto cmdMoreNamesSpec)) cmdMoreNamesUptoCard

/-- THE SECOND FORM's CARD OF 'shelflaw15.CmdForth'. -/
def cmdForthUptoCard : Claim7 := { stood := { row := cmdForthUptoRow, standIns := [], harness := (true, "9fdc0ae81f8fe877e3e8b92db3deeaafcfb0299aa123b61646faff96c1945f61"), looks := false }, kinds := [], alts := [], laidByText := true, laidKinds := [.data, .pinned], laidTests := true, laidLooks := .later }
def CmdForthUptoCardSaid : Prop := Claim7.holds Tryd.pinned (.plain (OpenSpec.upto cmdForthSpec)) cmdForthUptoCard

/-- THE SECOND FORM's CARD OF 'shelflaw15.CmdBack'. -/
def cmdBackUptoCard : Claim7 := { stood := { row := cmdBackUptoRow, standIns := [], harness := (true, "9fdc0ae81f8fe877e3e8b92db3deeaafcfb0299aa123b61646faff96c1945f61"), looks := false }, kinds := [], alts := [], laidByText := true, laidKinds := [.data, .pinned], laidTests := true, laidLooks := .later }
def CmdBackUptoCardSaid : Prop := Claim7.holds Tryd.pinned (.plain (OpenSpec.upto cmdBackSpec)) cmdBackUptoCard
end Rows
end Go.Proofs.YtmhamlhmmkbkaaaDoor
