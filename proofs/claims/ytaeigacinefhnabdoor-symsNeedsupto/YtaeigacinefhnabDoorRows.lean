/-
  NARROWER THAN 'FOR EVERY INPUT', by the rows' own cells (each row's printed sentence says how): SymsMade: laid · SymsGlobals: laid · SymsNeeds: laid · SymsLists: laid.
  DERIVED. THE GIVEN ROWS OF THIS SEAT. 4 by the template 'for every input the law returns true; each argument reads behind the call as it read before'; 0 by the template 'total and deterministic' (their statements: YtaeigacinefhnabDoorTotals.lean).
  GIVEN WITH THE SEED: the statements are not yours to turn. If you find one false, say at which input.
  Laid BY PROGRAM, IN A SANDBOX (cutbox-rows.mjs): the forced cells as the released guide's own fill.sh prints them over the translation 28b5c51785e3a51b… (all of the seat's roots in one cut). By AI agents, Wed Nov 11 2026. No macro, syntax, notation, axiom, sorry.
-/
import Derived.Test.YtaeigacinefhnabDoorChecked
import GoSem.Claim
import GoSem.ClaimJoined
import GoSem.ClaimMapViews
import Derived.JoinedTies
import Derived.KernelRfl
namespace Go.Proofs.YtaeigacinefhnabDoor
/- THE CELL 'sum', in the pinned program and in every row, IS THE sha256 OF THE DUMP (.gsa) THAT YtaeigacinefhnabDoorProg.lean LOADS. Nothing in Lean hashes anything: it is a label: what it is worth is what the hold of that sum in a sandbox is worth. -/
noncomputable def Tryd.pinned : Pinned := { name := "ytaeigacinefhnabdoor", sum := "28b5c51785e3a51b16f6ed0edc95536b2b3a78199247e7a46e03253425b655e9", checked := Tryd.checked }
namespace Rows
def none {H : Type} : Left H := { results := [], args := [] }

/- WHAT THE LISTED PACKAGE-LEVEL VARIABLES READ AS WHEN THE CALL BEGINS. Each datum BY PROGRAM (the guide's laid-datum.mjs) off the statement by which the dump's own 'gosem.cut.vars' lays the variable. In a bare row this is a premise. The card (YtaeigacinefhnabDoorCards.lean) ties it to the program's text. -/
def laid_shelf_elf_magic {H : Type} : DataW H := .agg [.lit (.int .u8 127), .lit (.int .u8 69), .lit (.int .u8 76), .lit (.int .u8 70)]

/-- 'shelflaw6.SymsMade': WHATEVER THE INPUT: true; the input reads as it did. -/
def symsMadeSpec : ChangeSpec := { name := "symsMade", fn := fun _ => fun
  | [d1, d2, d3] => { results := [.lit (.bool true)], args := [d1, d2, d3] }
  | _ => none }
def symsMadeRow : OpenClaim := { program := "ytaeigacinefhnabdoor", sum := "28b5c51785e3a51b16f6ed0edc95536b2b3a78199247e7a46e03253425b655e9", func := "shelf/shelflaw6.SymsMade", spec := "symsMade", inPlace := ["internal/bytealg.IndexByteString"], unfollowed := true, recurses := true, named := ["shelf/elf.magic"], apart := false, laid := [("shelf/elf.magic", laid_shelf_elf_magic)] }
def SymsMadeSaid : Prop := symsMadeRow.holds Tryd.pinned (OpenSpec.ofChange symsMadeSpec)

/-- ITS FALSE NEIGHBOUR: 'it returns false'. Refute it at one input. -/
def symsMadeWrong : ChangeSpec := { name := "symsMade", fn := fun _ => fun
  | [d1, d2, d3] => { results := [.lit (.bool false)], args := [d1, d2, d3] }
  | _ => none }
def SymsMadeWrongFalsely : Prop := symsMadeRow.holds Tryd.pinned (OpenSpec.ofChange symsMadeWrong)

/-- 'shelflaw6.SymsGlobals': WHATEVER THE INPUT: true; the input reads as it did. -/
def symsGlobalsSpec : ChangeSpec := { name := "symsGlobals", fn := fun _ => fun
  | [d] => { results := [.lit (.bool true)], args := [d] }
  | _ => none }
def symsGlobalsRow : OpenClaim := { program := "ytaeigacinefhnabdoor", sum := "28b5c51785e3a51b16f6ed0edc95536b2b3a78199247e7a46e03253425b655e9", func := "shelf/shelflaw6.SymsGlobals", spec := "symsGlobals", inPlace := ["internal/bytealg.IndexByteString"], unfollowed := true, recurses := true, named := ["shelf/elf.magic"], apart := false, laid := [("shelf/elf.magic", laid_shelf_elf_magic)] }
def SymsGlobalsSaid : Prop := symsGlobalsRow.holds Tryd.pinned (OpenSpec.ofChange symsGlobalsSpec)

/-- ITS FALSE NEIGHBOUR: 'it returns false'. Refute it at one input. -/
def symsGlobalsWrong : ChangeSpec := { name := "symsGlobals", fn := fun _ => fun
  | [d] => { results := [.lit (.bool false)], args := [d] }
  | _ => none }
def SymsGlobalsWrongFalsely : Prop := symsGlobalsRow.holds Tryd.pinned (OpenSpec.ofChange symsGlobalsWrong)

/-- 'shelflaw6.SymsNeeds': WHATEVER THE INPUT: true; the input reads as it did. -/
def symsNeedsSpec : ChangeSpec := { name := "symsNeeds", fn := fun _ => fun
  | [d] => { results := [.lit (.bool true)], args := [d] }
  | _ => none }
def symsNeedsRow : OpenClaim := { program := "ytaeigacinefhnabdoor", sum := "28b5c51785e3a51b16f6ed0edc95536b2b3a78199247e7a46e03253425b655e9", func := "shelf/shelflaw6.SymsNeeds", spec := "symsNeeds", inPlace := ["internal/bytealg.IndexByteString"], unfollowed := true, recurses := true, named := ["shelf/elf.magic"], apart := false, laid := [("shelf/elf.magic", laid_shelf_elf_magic)] }
def SymsNeedsSaid : Prop := symsNeedsRow.holds Tryd.pinned (OpenSpec.ofChange symsNeedsSpec)

/-- ITS FALSE NEIGHBOUR: 'it returns false'. Refute it at one input. -/
def symsNeedsWrong : ChangeSpec := { name := "symsNeeds", fn := fun _ => fun
  | [d] => { results := [.lit (.bool false)], args := [d] }
  | _ => none }
def SymsNeedsWrongFalsely : Prop := symsNeedsRow.holds Tryd.pinned (OpenSpec.ofChange symsNeedsWrong)

/-- 'shelflaw6.SymsLists': WHATEVER THE INPUT: true; the input reads as it did. -/
def symsListsSpec : ChangeSpec := { name := "symsLists", fn := fun _ => fun
  | [d] => { results := [.lit (.bool true)], args := [d] }
  | _ => none }
def symsListsRow : OpenClaim := { program := "ytaeigacinefhnabdoor", sum := "28b5c51785e3a51b16f6ed0edc95536b2b3a78199247e7a46e03253425b655e9", func := "shelf/shelflaw6.SymsLists", spec := "symsLists", inPlace := ["internal/bytealg.IndexByteString"], unfollowed := true, recurses := true, named := ["shelf/elf.magic"], apart := false, laid := [("shelf/elf.magic", laid_shelf_elf_magic)] }
def SymsListsSaid : Prop := symsListsRow.holds Tryd.pinned (OpenSpec.ofChange symsListsSpec)

/-- ITS FALSE NEIGHBOUR: 'it returns false'. Refute it at one input. -/
def symsListsWrong : ChangeSpec := { name := "symsLists", fn := fun _ => fun
  | [d] => { results := [.lit (.bool false)], args := [d] }
  | _ => none }
def SymsListsWrongFalsely : Prop := symsListsRow.holds Tryd.pinned (OpenSpec.ofChange symsListsWrong)

/- THE SECOND FORM. 'bulk': how many values and letters a reading holds, each counted each time it is reached (what is shared counts as often as it is met; a slice's spare places count too). A statement '..UptoSaid' is the law's where the arguments, and the package variables that the reading takes, are together of bulk at most 1048576: NARROWER than '..Said'. Prove '..Said' where nothing that the law and all that it calls make is longer than what came in: it says more and counts as full. Else prove '..UptoSaid'. A law counts once. -/
mutual
def uptoBulk {H : Type} : DataW H → Nat
  | .lit (.string bytes) => bytes.length + 1
  | .lit _ => 1
  | .nil => 1
  | .ptr d => uptoBulk d + 1
  | .slice elems spare => uptoBulkAll elems + uptoBulkAll spare + 1
  | .agg parts => uptoBulkAll parts + 1
  | .iface _ d => uptoBulk d + 1
  | .map entries => uptoBulkEntries entries + 1
  | .held _ => 1
def uptoBulkAll {H : Type} : List (DataW H) → Nat
  | [] => 0
  | d :: r => uptoBulk d + uptoBulkAll r
def uptoBulkEntries {H : Type} : List (Lit × DataW H) → Nat
  | [] => 0
  | x :: r => uptoBulkEntry x + uptoBulkEntries r
def uptoBulkEntry {H : Type} : Lit × DataW H → Nat
  | (.string bytes, d) => bytes.length + uptoBulk d + 1
  | (_, d) => uptoBulk d + 1
 end
def uptoSmall : (H : Type) → List (DataW H) → Bool := fun _ ds => decide (uptoBulkAll ds ≤ 1048576)
def OpenSpec.upto (s : _root_.Go.ChangeSpec) : _root_.Go.OpenSpec := { _root_.Go.OpenSpec.ofChange s with cond := some uptoSmall }

/-- 'shelflaw6.SymsMade', WHERE WHAT IT READS IS OF BULK AT MOST 1048576: true; the input reads as it did. -/
def symsMadeUptoRow : OpenClaim := { program := "ytaeigacinefhnabdoor", sum := "28b5c51785e3a51b16f6ed0edc95536b2b3a78199247e7a46e03253425b655e9", func := "shelf/shelflaw6.SymsMade", spec := "symsMade", inPlace := ["internal/bytealg.IndexByteString"], unfollowed := true, recurses := true, named := ["shelf/elf.magic"], apart := false, laid := [("shelf/elf.magic", laid_shelf_elf_magic)], narrowed := true }
def SymsMadeUptoSaid : Prop := symsMadeUptoRow.holds Tryd.pinned (OpenSpec.upto symsMadeSpec)

/-- 'shelflaw6.SymsGlobals', WHERE WHAT IT READS IS OF BULK AT MOST 1048576: true; the input reads as it did. -/
def symsGlobalsUptoRow : OpenClaim := { program := "ytaeigacinefhnabdoor", sum := "28b5c51785e3a51b16f6ed0edc95536b2b3a78199247e7a46e03253425b655e9", func := "shelf/shelflaw6.SymsGlobals", spec := "symsGlobals", inPlace := ["internal/bytealg.IndexByteString"], unfollowed := true, recurses := true, named := ["shelf/elf.magic"], apart := false, laid := [("shelf/elf.magic", laid_shelf_elf_magic)], narrowed := true }
def SymsGlobalsUptoSaid : Prop := symsGlobalsUptoRow.holds Tryd.pinned (OpenSpec.upto symsGlobalsSpec)

/-- 'shelflaw6.SymsNeeds', WHERE WHAT IT READS IS OF BULK AT MOST 1048576: true; the input reads as it did. -/
def symsNeedsUptoRow : OpenClaim := { program := "ytaeigacinefhnabdoor", sum := "28b5c51785e3a51b16f6ed0edc95536b2b3a78199247e7a46e03253425b655e9", func := "shelf/shelflaw6.SymsNeeds", spec := "symsNeeds", inPlace := ["internal/bytealg.IndexByteString"], unfollowed := true, recurses := true, named := ["shelf/elf.magic"], apart := false, laid := [("shelf/elf.magic", laid_shelf_elf_magic)], narrowed := true }
def SymsNeedsUptoSaid : Prop := symsNeedsUptoRow.holds Tryd.pinned (OpenSpec.upto symsNeedsSpec)

/-- 'shelflaw6.SymsLists', WHERE WHAT IT READS IS OF BULK AT MOST 1048576: true; the input reads as it did. -/
def symsListsUptoRow : OpenClaim := { program := "ytaeigacinefhnabdoor", sum := "28b5c51785e3a51b16f6ed0edc95536b2b3a78199247e7a46e03253425b655e9", func := "shelf/shelflaw6.SymsLists", spec := "symsLists", inPlace := ["internal/bytealg.IndexByteString"], unfollowed := true, recurses := true, named := ["shelf/elf.magic"], apart := false, laid := [("shelf/elf.magic", laid_shelf_elf_magic)], narrowed := true }
def SymsListsUptoSaid : Prop := symsListsUptoRow.holds Tryd.pinned (OpenSpec.upto symsListsSpec)

end Rows
end Go.Proofs.YtaeigacinefhnabDoor
