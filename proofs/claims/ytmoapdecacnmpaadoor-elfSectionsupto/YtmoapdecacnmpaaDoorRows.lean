/-
  NARROWER THAN 'FOR EVERY INPUT', by the rows' own cells (each row's printed sentence says how): ElfIdent: laid · ElfHeader: laid · ElfSections: laid.
  DERIVED. THE GIVEN ROWS OF THIS SEAT. 3 by the template 'for every input the law returns true; each argument reads behind the call as it read before'; 0 by the template 'total and deterministic' (their statements: YtmoapdecacnmpaaDoorTotals.lean).
  GIVEN WITH THE SEED: the statements are not yours to turn. If you find one false, say at which input.
  Laid BY PROGRAM, IN A SANDBOX (cutbox-rows.mjs): the forced cells as the released guide's own fill.sh prints them over the translation 04592f84ab98fe8e… (all of the seat's roots in one cut). By AI agents, Wed Nov 11 2026. No macro, syntax, notation, axiom, sorry.
-/
import Derived.Test.YtmoapdecacnmpaaDoorChecked
import GoSem.Claim
import GoSem.ClaimJoined
import GoSem.ClaimMapViews
import Derived.JoinedTies
import Derived.KernelRfl
namespace Go.Proofs.YtmoapdecacnmpaaDoor
/- THE CELL 'sum', in the pinned program and in every row, IS THE sha256 OF THE DUMP (.gsa) THAT YtmoapdecacnmpaaDoorProg.lean LOADS. Nothing in Lean hashes anything: it is a label: what it is worth is what the hold of that sum in a sandbox is worth. -/
noncomputable def Tryd.pinned : Pinned := { name := "ytmoapdecacnmpaadoor", sum := "04592f84ab98fe8ef74a4bc92022e5cd2d3de37e514beb8f4fa6cdeceb8b78c6", checked := Tryd.checked }
namespace Rows
def none {H : Type} : Left H := { results := [], args := [] }

/- WHAT THE LISTED PACKAGE-LEVEL VARIABLES READ AS WHEN THE CALL BEGINS. Each datum BY PROGRAM (the guide's laid-datum.mjs) off the statement by which the dump's own 'gosem.cut.vars' lays the variable. In a bare row this is a premise. The card (YtmoapdecacnmpaaDoorCards.lean) ties it to the program's text. -/
def laid_shelf_elf_magic {H : Type} : DataW H := .agg [.lit (.int .u8 127), .lit (.int .u8 69), .lit (.int .u8 76), .lit (.int .u8 70)]

/-- 'shelflaw5.ElfIdent': WHATEVER THE INPUT: true; the input reads as it did. -/
def elfIdentSpec : ChangeSpec := { name := "elfIdent", fn := fun _ => fun
  | [d] => { results := [.lit (.bool true)], args := [d] }
  | _ => none }
def elfIdentRow : OpenClaim := { program := "ytmoapdecacnmpaadoor", sum := "04592f84ab98fe8ef74a4bc92022e5cd2d3de37e514beb8f4fa6cdeceb8b78c6", func := "shelf/shelflaw5.ElfIdent", spec := "elfIdent", unfollowed := true, recurses := true, named := ["shelf/elf.magic"], apart := false, laid := [("shelf/elf.magic", laid_shelf_elf_magic)] }
def ElfIdentSaid : Prop := elfIdentRow.holds Tryd.pinned (OpenSpec.ofChange elfIdentSpec)

/-- ITS FALSE NEIGHBOUR: 'it returns false'. Refute it at one input. -/
def elfIdentWrong : ChangeSpec := { name := "elfIdent", fn := fun _ => fun
  | [d] => { results := [.lit (.bool false)], args := [d] }
  | _ => none }
def ElfIdentWrongFalsely : Prop := elfIdentRow.holds Tryd.pinned (OpenSpec.ofChange elfIdentWrong)

/-- 'shelflaw5.ElfHeader': WHATEVER THE INPUT: true; the input reads as it did. -/
def elfHeaderSpec : ChangeSpec := { name := "elfHeader", fn := fun _ => fun
  | [d] => { results := [.lit (.bool true)], args := [d] }
  | _ => none }
def elfHeaderRow : OpenClaim := { program := "ytmoapdecacnmpaadoor", sum := "04592f84ab98fe8ef74a4bc92022e5cd2d3de37e514beb8f4fa6cdeceb8b78c6", func := "shelf/shelflaw5.ElfHeader", spec := "elfHeader", unfollowed := true, recurses := true, named := ["shelf/elf.magic"], apart := false, laid := [("shelf/elf.magic", laid_shelf_elf_magic)] }
def ElfHeaderSaid : Prop := elfHeaderRow.holds Tryd.pinned (OpenSpec.ofChange elfHeaderSpec)

/-- ITS FALSE NEIGHBOUR: 'it returns false'. Refute it at one input. -/
def elfHeaderWrong : ChangeSpec := { name := "elfHeader", fn := fun _ => fun
  | [d] => { results := [.lit (.bool false)], args := [d] }
  | _ => none }
def ElfHeaderWrongFalsely : Prop := elfHeaderRow.holds Tryd.pinned (OpenSpec.ofChange elfHeaderWrong)

/-- 'shelflaw5.ElfSections': WHATEVER THE INPUT: true; the input reads as it did. -/
def elfSectionsSpec : ChangeSpec := { name := "elfSections", fn := fun _ => fun
  | [d] => { results := [.lit (.bool true)], args := [d] }
  | _ => none }
def elfSectionsRow : OpenClaim := { program := "ytmoapdecacnmpaadoor", sum := "04592f84ab98fe8ef74a4bc92022e5cd2d3de37e514beb8f4fa6cdeceb8b78c6", func := "shelf/shelflaw5.ElfSections", spec := "elfSections", unfollowed := true, recurses := true, named := ["shelf/elf.magic"], apart := false, laid := [("shelf/elf.magic", laid_shelf_elf_magic)] }
def ElfSectionsSaid : Prop := elfSectionsRow.holds Tryd.pinned (OpenSpec.ofChange elfSectionsSpec)

/-- ITS FALSE NEIGHBOUR: 'it returns false'. Refute it at one input. -/
def elfSectionsWrong : ChangeSpec := { name := "elfSections", fn := fun _ => fun
  | [d] => { results := [.lit (.bool false)], args := [d] }
  | _ => none }
def ElfSectionsWrongFalsely : Prop := elfSectionsRow.holds Tryd.pinned (OpenSpec.ofChange elfSectionsWrong)

/- THE SECOND FORM. 'bulk': how many values and letters a reading holds, each counted each time it is reached (what is shared counts as often as it is met; a slice's spare places count too). A statement '..UptoSaid' is the law's where the arguments, and the package variables that the reading takes, are together of bulk at most 1048576: NARROWER than '..Said'. Prove '..Said' where nothing that the law and all that it calls make is longer than what came in: it says more and counts as full. Else prove '..UptoSaid'. A law counts once. -/
mutual
def uptoBulk {H : Type} : DataW H → Nat
  | .lit (.string bytes) => bytes.length + 1
  | .lit _ => 1
  | .nil => 1
  | .ptr d => uptoBulk d + 1
  | .slice elems spare => uptoBulkAll elems + uptoBulkAll spare + 1
  | .agg parts => uptoBulkAll parts + 1
  | .iface _ d => uptoBulk d + 1
  | .map entries => uptoBulkEntries entries + 1
  | .held _ => 1
def uptoBulkAll {H : Type} : List (DataW H) → Nat
  | [] => 0
  | d :: r => uptoBulk d + uptoBulkAll r
def uptoBulkEntries {H : Type} : List (Lit × DataW H) → Nat
  | [] => 0
  | x :: r => uptoBulkEntry x + uptoBulkEntries r
def uptoBulkEntry {H : Type} : Lit × DataW H → Nat
  | (.string bytes, d) => bytes.length + uptoBulk d + 1
  | (_, d) => uptoBulk d + 1
 end
def uptoSmall : (H : Type) → List (DataW H) → Bool := fun _ ds => decide (uptoBulkAll ds ≤ 1048576)
def OpenSpec.upto (s : _root_.Go.ChangeSpec) : _root_.Go.OpenSpec := { _root_.Go.OpenSpec.ofChange s with cond := some uptoSmall }

/-- 'shelflaw5.ElfIdent', WHERE WHAT IT READS IS OF BULK AT MOST 1048576: true; the input reads as it did. -/
def elfIdentUptoRow : OpenClaim := { program := "ytmoapdecacnmpaadoor", sum := "04592f84ab98fe8ef74a4bc92022e5cd2d3de37e514beb8f4fa6cdeceb8b78c6", func := "shelf/shelflaw5.ElfIdent", spec := "elfIdent", unfollowed := true, recurses := true, named := ["shelf/elf.magic"], apart := false, laid := [("shelf/elf.magic", laid_shelf_elf_magic)], narrowed := true }
def ElfIdentUptoSaid : Prop := elfIdentUptoRow.holds Tryd.pinned (OpenSpec.upto elfIdentSpec)

/-- 'shelflaw5.ElfHeader', WHERE WHAT IT READS IS OF BULK AT MOST 1048576: true; the input reads as it did. -/
def elfHeaderUptoRow : OpenClaim := { program := "ytmoapdecacnmpaadoor", sum := "04592f84ab98fe8ef74a4bc92022e5cd2d3de37e514beb8f4fa6cdeceb8b78c6", func := "shelf/shelflaw5.ElfHeader", spec := "elfHeader", unfollowed := true, recurses := true, named := ["shelf/elf.magic"], apart := false, laid := [("shelf/elf.magic", laid_shelf_elf_magic)], narrowed := true }
def ElfHeaderUptoSaid : Prop := elfHeaderUptoRow.holds Tryd.pinned (OpenSpec.upto elfHeaderSpec)

/-- 'shelflaw5.ElfSections', WHERE WHAT IT READS IS OF BULK AT MOST 1048576: true; the input reads as it did. -/
def elfSectionsUptoRow : OpenClaim := { program := "ytmoapdecacnmpaadoor", sum := "04592f84ab98fe8ef74a4bc92022e5cd2d3de37e514beb8f4fa6cdeceb8b78c6", func := "shelf/shelflaw5.ElfSections", spec := "elfSections", unfollowed := true, recurses := true, named := ["shelf/elf.magic"], apart := false, laid := [("shelf/elf.magic", laid_shelf_elf_magic)], narrowed := true }
def ElfSectionsUptoSaid : Prop := elfSectionsUptoRow.holds Tryd.pinned (OpenSpec.upto elfSectionsSpec)

end Rows
end Go.Proofs.YtmoapdecacnmpaaDoor
