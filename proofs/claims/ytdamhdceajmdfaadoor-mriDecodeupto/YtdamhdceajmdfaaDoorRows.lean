/-
  NARROWER THAN 'FOR EVERY INPUT', by the rows' own cells (each row's printed sentence says how): MriText: laid · MriBack: laid · MriSpelled: laid · MriDecode: laid · MriLists: laid.
  DERIVED. THE GIVEN ROWS OF THIS SEAT. 5 by the template 'for every input the law returns true; each argument reads behind the call as it read before'; 0 by the template 'total and deterministic' (their statements: YtdamhdceajmdfaaDoorTotals.lean).
  GIVEN WITH THE SEED: the statements are not yours to turn. If you find one false, say at which input.
  Laid BY PROGRAM, IN A SANDBOX (cutbox-rows.mjs): the forced cells as the released guide's own fill.sh prints them over the translation 6d91069dce004980… (all of the seat's roots in one cut). By AI agents, Wed Nov 11 2026. No macro, syntax, notation, axiom, sorry.
-/
import Derived.Test.YtdamhdceajmdfaaDoorChecked
import GoSem.Claim
import GoSem.ClaimJoined
import GoSem.ClaimMapViews
import Derived.JoinedTies
import Derived.KernelRfl
namespace Go.Proofs.YtdamhdceajmdfaaDoor
/- THE CELL 'sum', in the pinned program and in every row, IS THE sha256 OF THE DUMP (.gsa) THAT YtdamhdceajmdfaaDoorProg.lean LOADS. Nothing in Lean hashes anything: it is a label: what it is worth is what the hold of that sum in a sandbox is worth. -/
noncomputable def Tryd.pinned : Pinned := { name := "ytdamhdceajmdfaadoor", sum := "6d91069dce0049803ecae8da16ad70300356724e039dcf67b606cb1aaa69fc16", checked := Tryd.checked }
namespace Rows
def none {H : Type} : Left H := { results := [], args := [] }

/- WHAT THE LISTED PACKAGE-LEVEL VARIABLES READ AS WHEN THE CALL BEGINS. Each datum BY PROGRAM (the guide's laid-datum.mjs) off the statement by which the dump's own 'gosem.cut.vars' lays the variable. In a bare row this is a premise. The card (YtdamhdceajmdfaaDoorCards.lean) ties it to the program's text. -/
def laid_shelf_shelfref19_words {H : Type} : DataW H := .agg [.lit (.string []), .lit (.string [67, 82, 69, 65, 84, 69]), .lit (.string [79, 80, 69, 78]), .lit (.string [65, 68, 68, 77, 79, 68]), .lit (.string [65, 68, 68, 76, 73, 66]), .lit (.string [68, 69, 76, 69, 84, 69]), .lit (.string [82, 69, 80, 76, 65, 67, 69]), .lit (.string [69, 88, 84, 82, 65, 67, 84]), .lit (.string [76, 73, 83, 84]), .lit (.string [68, 73, 82, 69, 67, 84, 79, 82, 89]), .lit (.string [86, 69, 82, 66, 79, 83, 69]), .lit (.string [67, 76, 69, 65, 82]), .lit (.string [83, 65, 86, 69]), .lit (.string [69, 78, 68])]
def laid_shelf_mri_verbs {H : Type} : DataW H := .agg [.agg [.lit (.string []), .lit (.bool false), .lit (.int .i64 0)], .agg [.lit (.string [67, 82, 69, 65, 84, 69]), .lit (.bool true), .lit (.int .i64 0)], .agg [.lit (.string [79, 80, 69, 78]), .lit (.bool true), .lit (.int .i64 0)], .agg [.lit (.string [65, 68, 68, 77, 79, 68]), .lit (.bool false), .lit (.int .i64 1)], .agg [.lit (.string [65, 68, 68, 76, 73, 66]), .lit (.bool true), .lit (.int .i64 2)], .agg [.lit (.string [68, 69, 76, 69, 84, 69]), .lit (.bool false), .lit (.int .i64 1)], .agg [.lit (.string [82, 69, 80, 76, 65, 67, 69]), .lit (.bool false), .lit (.int .i64 1)], .agg [.lit (.string [69, 88, 84, 82, 65, 67, 84]), .lit (.bool false), .lit (.int .i64 1)], .agg [.lit (.string [76, 73, 83, 84]), .lit (.bool false), .lit (.int .i64 0)], .agg [.lit (.string [68, 73, 82, 69, 67, 84, 79, 82, 89]), .lit (.bool true), .lit (.int .i64 2)], .agg [.lit (.string [86, 69, 82, 66, 79, 83, 69]), .lit (.bool false), .lit (.int .i64 0)], .agg [.lit (.string [67, 76, 69, 65, 82]), .lit (.bool false), .lit (.int .i64 0)], .agg [.lit (.string [83, 65, 86, 69]), .lit (.bool false), .lit (.int .i64 0)], .agg [.lit (.string [69, 78, 68]), .lit (.bool false), .lit (.int .i64 0)]]
def laid_shelf_shelflaw19_verbs {H : Type} : DataW H := .agg [.lit (.string []), .lit (.string [99, 114, 101, 97, 116, 101]), .lit (.string [79, 112, 101, 110]), .lit (.string [97, 100, 100, 77, 79, 68]), .lit (.string [97, 68, 68, 76, 73, 66]), .lit (.string [100, 101, 108, 101, 116, 101]), .lit (.string [82, 101, 112, 108, 97, 99, 101]), .lit (.string [69, 88, 84, 82, 65, 67, 84]), .lit (.string [108, 105, 115, 116]), .lit (.string [100, 105, 114, 101, 99, 116, 111, 114, 121]), .lit (.string [118, 69, 114, 66, 111, 83, 101]), .lit (.string [67, 108, 101, 97, 114]), .lit (.string [83, 65, 86, 69]), .lit (.string [101, 110, 68])]

/-- 'shelflaw19.MriText': WHATEVER THE INPUT: true; the input reads as it did. -/
def mriTextSpec : ChangeSpec := { name := "mriText", fn := fun _ => fun
  | [d] => { results := [.lit (.bool true)], args := [d] }
  | _ => none }
def mriTextRow : OpenClaim := { program := "ytdamhdceajmdfaadoor", sum := "6d91069dce0049803ecae8da16ad70300356724e039dcf67b606cb1aaa69fc16", func := "shelf/shelflaw19.MriText", spec := "mriText", inPlace := ["internal/abi.NoEscape", "internal/bytealg.MakeNoZero"], named := ["shelf/mri.verbs", "shelf/shelfref19.words"], apart := false, laid := [("shelf/shelfref19.words", laid_shelf_shelfref19_words), ("shelf/mri.verbs", laid_shelf_mri_verbs)] }
def MriTextSaid : Prop := mriTextRow.holds Tryd.pinned (OpenSpec.ofChange mriTextSpec)

/-- ITS FALSE NEIGHBOUR: 'it returns false'. Refute it at one input. -/
def mriTextWrong : ChangeSpec := { name := "mriText", fn := fun _ => fun
  | [d] => { results := [.lit (.bool false)], args := [d] }
  | _ => none }
def MriTextWrongFalsely : Prop := mriTextRow.holds Tryd.pinned (OpenSpec.ofChange mriTextWrong)

/-- 'shelflaw19.MriBack': WHATEVER THE INPUT: true; the input reads as it did. -/
def mriBackSpec : ChangeSpec := { name := "mriBack", fn := fun _ => fun
  | [d1, d2, d3] => { results := [.lit (.bool true)], args := [d1, d2, d3] }
  | _ => none }
def mriBackRow : OpenClaim := { program := "ytdamhdceajmdfaadoor", sum := "6d91069dce0049803ecae8da16ad70300356724e039dcf67b606cb1aaa69fc16", func := "shelf/shelflaw19.MriBack", spec := "mriBack", inPlace := ["internal/abi.NoEscape", "internal/bytealg.MakeNoZero", "internal/bytealg.IndexByteString"], unfollowed := true, recurses := true, named := ["shelf/mri.verbs"], apart := false, laid := [("shelf/mri.verbs", laid_shelf_mri_verbs)] }
def MriBackSaid : Prop := mriBackRow.holds Tryd.pinned (OpenSpec.ofChange mriBackSpec)

/-- ITS FALSE NEIGHBOUR: 'it returns false'. Refute it at one input. -/
def mriBackWrong : ChangeSpec := { name := "mriBack", fn := fun _ => fun
  | [d1, d2, d3] => { results := [.lit (.bool false)], args := [d1, d2, d3] }
  | _ => none }
def MriBackWrongFalsely : Prop := mriBackRow.holds Tryd.pinned (OpenSpec.ofChange mriBackWrong)

/-- 'shelflaw19.MriSpelled': WHATEVER THE INPUT: true; the input reads as it did. -/
def mriSpelledSpec : ChangeSpec := { name := "mriSpelled", fn := fun _ => fun
  | [d1, d2] => { results := [.lit (.bool true)], args := [d1, d2] }
  | _ => none }
def mriSpelledRow : OpenClaim := { program := "ytdamhdceajmdfaadoor", sum := "6d91069dce0049803ecae8da16ad70300356724e039dcf67b606cb1aaa69fc16", func := "shelf/shelflaw19.MriSpelled", spec := "mriSpelled", inPlace := ["internal/bytealg.IndexByteString"], unfollowed := true, recurses := true, named := ["shelf/shelflaw19.verbs", "shelf/mri.verbs"], apart := false, laid := [("shelf/mri.verbs", laid_shelf_mri_verbs), ("shelf/shelflaw19.verbs", laid_shelf_shelflaw19_verbs)] }
def MriSpelledSaid : Prop := mriSpelledRow.holds Tryd.pinned (OpenSpec.ofChange mriSpelledSpec)

/-- ITS FALSE NEIGHBOUR: 'it returns false'. Refute it at one input. -/
def mriSpelledWrong : ChangeSpec := { name := "mriSpelled", fn := fun _ => fun
  | [d1, d2] => { results := [.lit (.bool false)], args := [d1, d2] }
  | _ => none }
def MriSpelledWrongFalsely : Prop := mriSpelledRow.holds Tryd.pinned (OpenSpec.ofChange mriSpelledWrong)

/-- 'shelflaw19.MriDecode': WHATEVER THE INPUT: true; the input reads as it did. -/
def mriDecodeSpec : ChangeSpec := { name := "mriDecode", fn := fun _ => fun
  | [d] => { results := [.lit (.bool true)], args := [d] }
  | _ => none }
def mriDecodeRow : OpenClaim := { program := "ytdamhdceajmdfaadoor", sum := "6d91069dce0049803ecae8da16ad70300356724e039dcf67b606cb1aaa69fc16", func := "shelf/shelflaw19.MriDecode", spec := "mriDecode", inPlace := ["internal/bytealg.IndexByteString"], unfollowed := true, recurses := true, named := ["shelf/mri.verbs", "shelf/shelfref19.words"], apart := false, laid := [("shelf/shelfref19.words", laid_shelf_shelfref19_words), ("shelf/mri.verbs", laid_shelf_mri_verbs)] }
def MriDecodeSaid : Prop := mriDecodeRow.holds Tryd.pinned (OpenSpec.ofChange mriDecodeSpec)

/-- ITS FALSE NEIGHBOUR: 'it returns false'. Refute it at one input. -/
def mriDecodeWrong : ChangeSpec := { name := "mriDecode", fn := fun _ => fun
  | [d] => { results := [.lit (.bool false)], args := [d] }
  | _ => none }
def MriDecodeWrongFalsely : Prop := mriDecodeRow.holds Tryd.pinned (OpenSpec.ofChange mriDecodeWrong)

/-- 'shelflaw19.MriLists': WHATEVER THE INPUT: true; the input reads as it did. -/
def mriListsSpec : ChangeSpec := { name := "mriLists", fn := fun _ => fun
  | [d1, d2] => { results := [.lit (.bool true)], args := [d1, d2] }
  | _ => none }
def mriListsRow : OpenClaim := { program := "ytdamhdceajmdfaadoor", sum := "6d91069dce0049803ecae8da16ad70300356724e039dcf67b606cb1aaa69fc16", func := "shelf/shelflaw19.MriLists", spec := "mriLists", inPlace := ["internal/bytealg.IndexByteString", "internal/abi.NoEscape", "internal/bytealg.MakeNoZero"], unfollowed := true, recurses := true, named := ["shelf/shelflaw19.verbs", "shelf/mri.verbs"], apart := false, laid := [("shelf/mri.verbs", laid_shelf_mri_verbs), ("shelf/shelflaw19.verbs", laid_shelf_shelflaw19_verbs)] }
def MriListsSaid : Prop := mriListsRow.holds Tryd.pinned (OpenSpec.ofChange mriListsSpec)

/-- ITS FALSE NEIGHBOUR: 'it returns false'. Refute it at one input. -/
def mriListsWrong : ChangeSpec := { name := "mriLists", fn := fun _ => fun
  | [d1, d2] => { results := [.lit (.bool false)], args := [d1, d2] }
  | _ => none }
def MriListsWrongFalsely : Prop := mriListsRow.holds Tryd.pinned (OpenSpec.ofChange mriListsWrong)

/- THE SECOND FORM. 'bulk': how many values and letters a reading holds, each counted each time it is reached (what is shared counts as often as it is met; a slice's spare places count too). A statement '..UptoSaid' is the law's where the arguments, and the package variables that the reading takes, are together of bulk at most 1048576: NARROWER than '..Said'. Prove '..Said' where nothing that the law and all that it calls make is longer than what came in: it says more and counts as full. Else prove '..UptoSaid'. A law counts once. -/
mutual
def uptoBulk {H : Type} : DataW H → Nat
  | .lit (.string bytes) => bytes.length + 1
  | .lit _ => 1
  | .nil => 1
  | .ptr d => uptoBulk d + 1
  | .slice elems spare => uptoBulkAll elems + uptoBulkAll spare + 1
  | .agg parts => uptoBulkAll parts + 1
  | .iface _ d => uptoBulk d + 1
  | .map entries => uptoBulkEntries entries + 1
  | .held _ => 1
def uptoBulkAll {H : Type} : List (DataW H) → Nat
  | [] => 0
  | d :: r => uptoBulk d + uptoBulkAll r
def uptoBulkEntries {H : Type} : List (Lit × DataW H) → Nat
  | [] => 0
  | x :: r => uptoBulkEntry x + uptoBulkEntries r
def uptoBulkEntry {H : Type} : Lit × DataW H → Nat
  | (.string bytes, d) => bytes.length + uptoBulk d + 1
  | (_, d) => uptoBulk d + 1
 end
def uptoSmall : (H : Type) → List (DataW H) → Bool := fun _ ds => decide (uptoBulkAll ds ≤ 1048576)
def OpenSpec.upto (s : _root_.Go.ChangeSpec) : _root_.Go.OpenSpec := { _root_.Go.OpenSpec.ofChange s with cond := some uptoSmall }

/-- 'shelflaw19.MriText', WHERE WHAT IT READS IS OF BULK AT MOST 1048576: true; the input reads as it did. -/
def mriTextUptoRow : OpenClaim := { program := "ytdamhdceajmdfaadoor", sum := "6d91069dce0049803ecae8da16ad70300356724e039dcf67b606cb1aaa69fc16", func := "shelf/shelflaw19.MriText", spec := "mriText", inPlace := ["internal/abi.NoEscape", "internal/bytealg.MakeNoZero"], named := ["shelf/mri.verbs", "shelf/shelfref19.words"], apart := false, laid := [("shelf/shelfref19.words", laid_shelf_shelfref19_words), ("shelf/mri.verbs", laid_shelf_mri_verbs)], narrowed := true }
def MriTextUptoSaid : Prop := mriTextUptoRow.holds Tryd.pinned (OpenSpec.upto mriTextSpec)

/-- 'shelflaw19.MriBack', WHERE WHAT IT READS IS OF BULK AT MOST 1048576: true; the input reads as it did. -/
def mriBackUptoRow : OpenClaim := { program := "ytdamhdceajmdfaadoor", sum := "6d91069dce0049803ecae8da16ad70300356724e039dcf67b606cb1aaa69fc16", func := "shelf/shelflaw19.MriBack", spec := "mriBack", inPlace := ["internal/abi.NoEscape", "internal/bytealg.MakeNoZero", "internal/bytealg.IndexByteString"], unfollowed := true, recurses := true, named := ["shelf/mri.verbs"], apart := false, laid := [("shelf/mri.verbs", laid_shelf_mri_verbs)], narrowed := true }
def MriBackUptoSaid : Prop := mriBackUptoRow.holds Tryd.pinned (OpenSpec.upto mriBackSpec)

/-- 'shelflaw19.MriSpelled', WHERE WHAT IT READS IS OF BULK AT MOST 1048576: true; the input reads as it did. -/
def mriSpelledUptoRow : OpenClaim := { program := "ytdamhdceajmdfaadoor", sum := "6d91069dce0049803ecae8da16ad70300356724e039dcf67b606cb1aaa69fc16", func := "shelf/shelflaw19.MriSpelled", spec := "mriSpelled", inPlace := ["internal/bytealg.IndexByteString"], unfollowed := true, recurses := true, named := ["shelf/shelflaw19.verbs", "shelf/mri.verbs"], apart := false, laid := [("shelf/mri.verbs", laid_shelf_mri_verbs), ("shelf/shelflaw19.verbs", laid_shelf_shelflaw19_verbs)], narrowed := true }
def MriSpelledUptoSaid : Prop := mriSpelledUptoRow.holds Tryd.pinned (OpenSpec.upto mriSpelledSpec)

/-- 'shelflaw19.MriDecode', WHERE WHAT IT READS IS OF BULK AT MOST 1048576: true; the input reads as it did. -/
def mriDecodeUptoRow : OpenClaim := { program := "ytdamhdceajmdfaadoor", sum := "6d91069dce0049803ecae8da16ad70300356724e039dcf67b606cb1aaa69fc16", func := "shelf/shelflaw19.MriDecode", spec := "mriDecode", inPlace := ["internal/bytealg.IndexByteString"], unfollowed := true, recurses := true, named := ["shelf/mri.verbs", "shelf/shelfref19.words"], apart := false, laid := [("shelf/shelfref19.words", laid_shelf_shelfref19_words), ("shelf/mri.verbs", laid_shelf_mri_verbs)], narrowed := true }
def MriDecodeUptoSaid : Prop := mriDecodeUptoRow.holds Tryd.pinned (OpenSpec.upto mriDecodeSpec)

/-- 'shelflaw19.MriLists', WHERE WHAT IT READS IS OF BULK AT MOST 1048576: true; the input reads as it did. -/
def mriListsUptoRow : OpenClaim := { program := "ytdamhdceajmdfaadoor", sum := "6d91069dce0049803ecae8da16ad70300356724e039dcf67b606cb1aaa69fc16", func := "shelf/shelflaw19.MriLists", spec := "mriLists", inPlace := ["internal/bytealg.IndexByteString", "internal/abi.NoEscape", "internal/bytealg.MakeNoZero"], unfollowed := true, recurses := true, named := ["shelf/shelflaw19.verbs", "shelf/mri.verbs"], apart := false, laid := [("shelf/mri.verbs", laid_shelf_mri_verbs), ("shelf/shelflaw19.verbs", laid_shelf_shelflaw19_verbs)], narrowed := true }
def MriListsUptoSaid : Prop := mriListsUptoRow.holds Tryd.pinned (OpenSpec.upto mriListsSpec)

end Rows
end Go.Proofs.YtdamhdceajmdfaaDoor
