/-
  NARROWER THAN 'FOR EVERY INPUT', by the rows' own cells (each row's printed sentence says how): SymsCut: laid · SymsBroken: laid · SymsFilter: laid · SymsTable: laid · SymsBehind: laid · SymsTables: laid.
  DERIVED. THE GIVEN ROWS OF THIS SEAT. 6 by the template 'for every input the law returns true; each argument reads behind the call as it read before'; 0 by the template 'total and deterministic' (their statements: YtaeigacinefhnaaDoorTotals.lean).
  GIVEN WITH THE SEED: the statements are not yours to turn. If you find one false, say at which input.
  Laid BY PROGRAM, IN A SANDBOX (cutbox-rows.mjs): the forced cells as the released guide's own fill.sh prints them over the translation 2e004665e8d425a3… (all of the seat's roots in one cut). By AI agents, Wed Nov 11 2026. No macro, syntax, notation, axiom, sorry.
-/
import Derived.Test.YtaeigacinefhnaaDoorChecked
import GoSem.Claim
import GoSem.ClaimJoined
import GoSem.ClaimMapViews
import Derived.JoinedTies
import Derived.KernelRfl
namespace Go.Proofs.YtaeigacinefhnaaDoor
/- THE CELL 'sum', in the pinned program and in every row, IS THE sha256 OF THE DUMP (.gsa) THAT YtaeigacinefhnaaDoorProg.lean LOADS. Nothing in Lean hashes anything: it is a label: what it is worth is what the hold of that sum in a sandbox is worth. -/
noncomputable def Tryd.pinned : Pinned := { name := "ytaeigacinefhnaadoor", sum := "2e004665e8d425a3306592085a471245b4bdbde8d27b6b7c03d5c19777d46fe6", checked := Tryd.checked }
namespace Rows
def none {H : Type} : Left H := { results := [], args := [] }

/- WHAT THE LISTED PACKAGE-LEVEL VARIABLES READ AS WHEN THE CALL BEGINS. Each datum BY PROGRAM (the guide's laid-datum.mjs) off the statement by which the dump's own 'gosem.cut.vars' lays the variable. In a bare row this is a premise. The card (YtaeigacinefhnaaDoorCards.lean) ties it to the program's text. -/
def laid_shelf_elf_magic {H : Type} : DataW H := .agg [.lit (.int .u8 127), .lit (.int .u8 69), .lit (.int .u8 76), .lit (.int .u8 70)]

/-- 'shelflaw6.SymsCut': WHATEVER THE INPUT: true; the input reads as it did. -/
def symsCutSpec : ChangeSpec := { name := "symsCut", fn := fun _ => fun
  | [d1, d2, d3] => { results := [.lit (.bool true)], args := [d1, d2, d3] }
  | _ => none }
def symsCutRow : OpenClaim := { program := "ytaeigacinefhnaadoor", sum := "2e004665e8d425a3306592085a471245b4bdbde8d27b6b7c03d5c19777d46fe6", func := "shelf/shelflaw6.SymsCut", spec := "symsCut", inPlace := ["internal/bytealg.IndexByteString"], unfollowed := true, recurses := true, named := ["shelf/elf.magic"], apart := false, laid := [("shelf/elf.magic", laid_shelf_elf_magic)] }
def SymsCutSaid : Prop := symsCutRow.holds Tryd.pinned (OpenSpec.ofChange symsCutSpec)

/-- ITS FALSE NEIGHBOUR: 'it returns false'. Refute it at one input. -/
def symsCutWrong : ChangeSpec := { name := "symsCut", fn := fun _ => fun
  | [d1, d2, d3] => { results := [.lit (.bool false)], args := [d1, d2, d3] }
  | _ => none }
def SymsCutWrongFalsely : Prop := symsCutRow.holds Tryd.pinned (OpenSpec.ofChange symsCutWrong)

/-- 'shelflaw6.SymsBroken': WHATEVER THE INPUT: true; the input reads as it did. -/
def symsBrokenSpec : ChangeSpec := { name := "symsBroken", fn := fun _ => fun
  | [d1, d2, d3] => { results := [.lit (.bool true)], args := [d1, d2, d3] }
  | _ => none }
def symsBrokenRow : OpenClaim := { program := "ytaeigacinefhnaadoor", sum := "2e004665e8d425a3306592085a471245b4bdbde8d27b6b7c03d5c19777d46fe6", func := "shelf/shelflaw6.SymsBroken", spec := "symsBroken", inPlace := ["internal/bytealg.IndexByteString"], unfollowed := true, recurses := true, named := ["shelf/elf.magic"], apart := false, laid := [("shelf/elf.magic", laid_shelf_elf_magic)] }
def SymsBrokenSaid : Prop := symsBrokenRow.holds Tryd.pinned (OpenSpec.ofChange symsBrokenSpec)

/-- ITS FALSE NEIGHBOUR: 'it returns false'. Refute it at one input. -/
def symsBrokenWrong : ChangeSpec := { name := "symsBroken", fn := fun _ => fun
  | [d1, d2, d3] => { results := [.lit (.bool false)], args := [d1, d2, d3] }
  | _ => none }
def SymsBrokenWrongFalsely : Prop := symsBrokenRow.holds Tryd.pinned (OpenSpec.ofChange symsBrokenWrong)

/-- 'shelflaw6.SymsFilter': WHATEVER THE INPUT: true; the input reads as it did. -/
def symsFilterSpec : ChangeSpec := { name := "symsFilter", fn := fun _ => fun
  | [d] => { results := [.lit (.bool true)], args := [d] }
  | _ => none }
def symsFilterRow : OpenClaim := { program := "ytaeigacinefhnaadoor", sum := "2e004665e8d425a3306592085a471245b4bdbde8d27b6b7c03d5c19777d46fe6", func := "shelf/shelflaw6.SymsFilter", spec := "symsFilter", inPlace := ["internal/bytealg.IndexByteString"], unfollowed := true, recurses := true, named := ["shelf/elf.magic"], apart := false, laid := [("shelf/elf.magic", laid_shelf_elf_magic)] }
def SymsFilterSaid : Prop := symsFilterRow.holds Tryd.pinned (OpenSpec.ofChange symsFilterSpec)

/-- ITS FALSE NEIGHBOUR: 'it returns false'. Refute it at one input. -/
def symsFilterWrong : ChangeSpec := { name := "symsFilter", fn := fun _ => fun
  | [d] => { results := [.lit (.bool false)], args := [d] }
  | _ => none }
def SymsFilterWrongFalsely : Prop := symsFilterRow.holds Tryd.pinned (OpenSpec.ofChange symsFilterWrong)

/-- 'shelflaw6.SymsTable': WHATEVER THE INPUT: true; the input reads as it did. -/
def symsTableSpec : ChangeSpec := { name := "symsTable", fn := fun _ => fun
  | [d] => { results := [.lit (.bool true)], args := [d] }
  | _ => none }
def symsTableRow : OpenClaim := { program := "ytaeigacinefhnaadoor", sum := "2e004665e8d425a3306592085a471245b4bdbde8d27b6b7c03d5c19777d46fe6", func := "shelf/shelflaw6.SymsTable", spec := "symsTable", inPlace := ["internal/bytealg.IndexByteString"], unfollowed := true, recurses := true, named := ["shelf/elf.magic"], apart := false, laid := [("shelf/elf.magic", laid_shelf_elf_magic)] }
def SymsTableSaid : Prop := symsTableRow.holds Tryd.pinned (OpenSpec.ofChange symsTableSpec)

/-- ITS FALSE NEIGHBOUR: 'it returns false'. Refute it at one input. -/
def symsTableWrong : ChangeSpec := { name := "symsTable", fn := fun _ => fun
  | [d] => { results := [.lit (.bool false)], args := [d] }
  | _ => none }
def SymsTableWrongFalsely : Prop := symsTableRow.holds Tryd.pinned (OpenSpec.ofChange symsTableWrong)

/-- 'shelflaw6.SymsBehind': WHATEVER THE INPUT: true; the input reads as it did. -/
def symsBehindSpec : ChangeSpec := { name := "symsBehind", fn := fun _ => fun
  | [d1, d2, d3, d4, d5] => { results := [.lit (.bool true)], args := [d1, d2, d3, d4, d5] }
  | _ => none }
def symsBehindRow : OpenClaim := { program := "ytaeigacinefhnaadoor", sum := "2e004665e8d425a3306592085a471245b4bdbde8d27b6b7c03d5c19777d46fe6", func := "shelf/shelflaw6.SymsBehind", spec := "symsBehind", inPlace := ["internal/bytealg.IndexByteString"], unfollowed := true, recurses := true, named := ["shelf/elf.magic"], apart := false, laid := [("shelf/elf.magic", laid_shelf_elf_magic)] }
def SymsBehindSaid : Prop := symsBehindRow.holds Tryd.pinned (OpenSpec.ofChange symsBehindSpec)

/-- ITS FALSE NEIGHBOUR: 'it returns false'. Refute it at one input. -/
def symsBehindWrong : ChangeSpec := { name := "symsBehind", fn := fun _ => fun
  | [d1, d2, d3, d4, d5] => { results := [.lit (.bool false)], args := [d1, d2, d3, d4, d5] }
  | _ => none }
def SymsBehindWrongFalsely : Prop := symsBehindRow.holds Tryd.pinned (OpenSpec.ofChange symsBehindWrong)

/-- 'shelflaw6.SymsTables': WHATEVER THE INPUT: true; the input reads as it did. -/
def symsTablesSpec : ChangeSpec := { name := "symsTables", fn := fun _ => fun
  | [d1, d2, d3] => { results := [.lit (.bool true)], args := [d1, d2, d3] }
  | _ => none }
def symsTablesRow : OpenClaim := { program := "ytaeigacinefhnaadoor", sum := "2e004665e8d425a3306592085a471245b4bdbde8d27b6b7c03d5c19777d46fe6", func := "shelf/shelflaw6.SymsTables", spec := "symsTables", inPlace := ["internal/bytealg.IndexByteString"], unfollowed := true, recurses := true, named := ["shelf/elf.magic"], apart := false, laid := [("shelf/elf.magic", laid_shelf_elf_magic)] }
def SymsTablesSaid : Prop := symsTablesRow.holds Tryd.pinned (OpenSpec.ofChange symsTablesSpec)

/-- ITS FALSE NEIGHBOUR: 'it returns false'. Refute it at one input. -/
def symsTablesWrong : ChangeSpec := { name := "symsTables", fn := fun _ => fun
  | [d1, d2, d3] => { results := [.lit (.bool false)], args := [d1, d2, d3] }
  | _ => none }
def SymsTablesWrongFalsely : Prop := symsTablesRow.holds Tryd.pinned (OpenSpec.ofChange symsTablesWrong)

/- THE SECOND FORM. 'bulk': how many values and letters a reading holds, each counted each time it is reached (what is shared counts as often as it is met; a slice's spare places count too). A statement '..UptoSaid' is the law's where the arguments, and the package variables that the reading takes, are together of bulk at most 1048576: NARROWER than '..Said'. Prove '..Said' where nothing that the law and all that it calls make is longer than what came in: it says more and counts as full. Else prove '..UptoSaid'. A law counts once. -/
mutual
def uptoBulk {H : Type} : DataW H → Nat
  | .lit (.string bytes) => bytes.length + 1
  | .lit _ => 1
  | .nil => 1
  | .ptr d => uptoBulk d + 1
  | .slice elems spare => uptoBulkAll elems + uptoBulkAll spare + 1
  | .agg parts => uptoBulkAll parts + 1
  | .iface _ d => uptoBulk d + 1
  | .map entries => uptoBulkEntries entries + 1
  | .held _ => 1
def uptoBulkAll {H : Type} : List (DataW H) → Nat
  | [] => 0
  | d :: r => uptoBulk d + uptoBulkAll r
def uptoBulkEntries {H : Type} : List (Lit × DataW H) → Nat
  | [] => 0
  | x :: r => uptoBulkEntry x + uptoBulkEntries r
def uptoBulkEntry {H : Type} : Lit × DataW H → Nat
  | (.string bytes, d) => bytes.length + uptoBulk d + 1
  | (_, d) => uptoBulk d + 1
 end
def uptoSmall : (H : Type) → List (DataW H) → Bool := fun _ ds => decide (uptoBulkAll ds ≤ 1048576)
def OpenSpec.upto (s : _root_.Go.ChangeSpec) : _root_.Go.OpenSpec := { _root_.Go.OpenSpec.ofChange s with cond := some uptoSmall }

/-- 'shelflaw6.SymsCut', WHERE WHAT IT READS IS OF BULK AT MOST 1048576: true; the input reads as it did. -/
def symsCutUptoRow : OpenClaim := { program := "ytaeigacinefhnaadoor", sum := "2e004665e8d425a3306592085a471245b4bdbde8d27b6b7c03d5c19777d46fe6", func := "shelf/shelflaw6.SymsCut", spec := "symsCut", inPlace := ["internal/bytealg.IndexByteString"], unfollowed := true, recurses := true, named := ["shelf/elf.magic"], apart := false, laid := [("shelf/elf.magic", laid_shelf_elf_magic)], narrowed := true }
def SymsCutUptoSaid : Prop := symsCutUptoRow.holds Tryd.pinned (OpenSpec.upto symsCutSpec)

/-- 'shelflaw6.SymsBroken', WHERE WHAT IT READS IS OF BULK AT MOST 1048576: true; the input reads as it did. -/
def symsBrokenUptoRow : OpenClaim := { program := "ytaeigacinefhnaadoor", sum := "2e004665e8d425a3306592085a471245b4bdbde8d27b6b7c03d5c19777d46fe6", func := "shelf/shelflaw6.SymsBroken", spec := "symsBroken", inPlace := ["internal/bytealg.IndexByteString"], unfollowed := true, recurses := true, named := ["shelf/elf.magic"], apart := false, laid := [("shelf/elf.magic", laid_shelf_elf_magic)], narrowed := true }
def SymsBrokenUptoSaid : Prop := symsBrokenUptoRow.holds Tryd.pinned (OpenSpec.upto symsBrokenSpec)

/-- 'shelflaw6.SymsFilter', WHERE WHAT IT READS IS OF BULK AT MOST 1048576: true; the input reads as it did. -/
def symsFilterUptoRow : OpenClaim := { program := "ytaeigacinefhnaadoor", sum := "2e004665e8d425a3306592085a471245b4bdbde8d27b6b7c03d5c19777d46fe6", func := "shelf/shelflaw6.SymsFilter", spec := "symsFilter", inPlace := ["internal/bytealg.IndexByteString"], unfollowed := true, recurses := true, named := ["shelf/elf.magic"], apart := false, laid := [("shelf/elf.magic", laid_shelf_elf_magic)], narrowed := true }
def SymsFilterUptoSaid : Prop := symsFilterUptoRow.holds Tryd.pinned (OpenSpec.upto symsFilterSpec)

/-- 'shelflaw6.SymsTable', WHERE WHAT IT READS IS OF BULK AT MOST 1048576: true; the input reads as it did. -/
def symsTableUptoRow : OpenClaim := { program := "ytaeigacinefhnaadoor", sum := "2e004665e8d425a3306592085a471245b4bdbde8d27b6b7c03d5c19777d46fe6", func := "shelf/shelflaw6.SymsTable", spec := "symsTable", inPlace := ["internal/bytealg.IndexByteString"], unfollowed := true, recurses := true, named := ["shelf/elf.magic"], apart := false, laid := [("shelf/elf.magic", laid_shelf_elf_magic)], narrowed := true }
def SymsTableUptoSaid : Prop := symsTableUptoRow.holds Tryd.pinned (OpenSpec.upto symsTableSpec)

/-- 'shelflaw6.SymsBehind', WHERE WHAT IT READS IS OF BULK AT MOST 1048576: true; the input reads as it did. -/
def symsBehindUptoRow : OpenClaim := { program := "ytaeigacinefhnaadoor", sum := "2e004665e8d425a3306592085a471245b4bdbde8d27b6b7c03d5c19777d46fe6", func := "shelf/shelflaw6.SymsBehind", spec := "symsBehind", inPlace := ["internal/bytealg.IndexByteString"], unfollowed := true, recurses := true, named := ["shelf/elf.magic"], apart := false, laid := [("shelf/elf.magic", laid_shelf_elf_magic)], narrowed := true }
def SymsBehindUptoSaid : Prop := symsBehindUptoRow.holds Tryd.pinned (OpenSpec.upto symsBehindSpec)

/-- 'shelflaw6.SymsTables', WHERE WHAT IT READS IS OF BULK AT MOST 1048576: true; the input reads as it did. -/
def symsTablesUptoRow : OpenClaim := { program := "ytaeigacinefhnaadoor", sum := "2e004665e8d425a3306592085a471245b4bdbde8d27b6b7c03d5c19777d46fe6", func := "shelf/shelflaw6.SymsTables", spec := "symsTables", inPlace := ["internal/bytealg.IndexByteString"], unfollowed := true, recurses := true, named := ["shelf/elf.magic"], apart := false, laid := [("shelf/elf.magic", laid_shelf_elf_magic)], narrowed := true }
def SymsTablesUptoSaid : Prop := symsTablesUptoRow.holds Tryd.pinned (OpenSpec.upto symsTablesSpec)

end Rows
end Go.Proofs.YtaeigacinefhnaaDoor
