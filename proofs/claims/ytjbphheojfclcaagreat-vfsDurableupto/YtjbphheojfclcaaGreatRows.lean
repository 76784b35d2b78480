/-
  No cell of these rows narrows 'for every input' (looked for: loops, veiled, ifaces, maps, wideKeys, modest, calm, conditions, laid).
  DERIVED. THE GIVEN ROWS OF THIS SEAT. 6 by the template 'for every input the law returns true; each argument reads behind the call as it read before'; 0 by the template 'total and deterministic' (their statements: YtjbphheojfclcaaGreatTotals.lean).
  GIVEN WITH THE SEED: the statements are not yours to turn. If you find one false, say at which input.
  Laid BY PROGRAM, IN A SANDBOX (cutbox-rows.mjs): the forced cells as the released guide's own fill.sh prints them over the translation 38cc37c1af81d4b1… (all of the seat's roots in one cut). By AI agents, Wed Nov 11 2026. No macro, syntax, notation, axiom, sorry.
-/
import Derived.Test.YtjbphheojfclcaaGreatChecked
import GoSem.Claim
import GoSem.ClaimJoined
import GoSem.ClaimMapViews
import Derived.JoinedTies
import Derived.KernelRfl
namespace Go.Proofs.YtjbphheojfclcaaGreat
/- THE CELL 'sum', in the pinned program and in every row, IS THE sha256 OF THE DUMP (.gsa) THAT YtjbphheojfclcaaGreatProg.lean LOADS. Nothing in Lean hashes anything: it is a label: what it is worth is what the hold of that sum in a sandbox is worth. -/
noncomputable def Tryz.pinned : Pinned := { name := "ytjbphheojfclcaagreat", sum := "38cc37c1af81d4b12a10a6b62ceb027889c07f3b4e5f2f7a0415248c4ab5ec7c", checked := Tryz.checked }
namespace Rows
def none {H : Type} : Left H := { results := [], args := [] }

/-- 'shelflaw4.VfsReadBack': WHATEVER THE INPUT: true; the input reads as it did. -/
def vfsReadBackSpec : ChangeSpec := { name := "vfsReadBack", fn := fun _ => fun
  | [d1, d2, d3] => { results := [.lit (.bool true)], args := [d1, d2, d3] }
  | _ => none }
def vfsReadBackRow : OpenClaim := { program := "ytjbphheojfclcaagreat", sum := "38cc37c1af81d4b12a10a6b62ceb027889c07f3b4e5f2f7a0415248c4ab5ec7c", func := "shelf/shelflaw4.VfsReadBack", spec := "vfsReadBack", unfollowed := true, recurses := true, apart := false }
def VfsReadBackSaid : Prop := vfsReadBackRow.holds Tryz.pinned (OpenSpec.ofChange vfsReadBackSpec)

/-- ITS FALSE NEIGHBOUR: 'it returns false'. Refute it at one input. -/
def vfsReadBackWrong : ChangeSpec := { name := "vfsReadBack", fn := fun _ => fun
  | [d1, d2, d3] => { results := [.lit (.bool false)], args := [d1, d2, d3] }
  | _ => none }
def VfsReadBackWrongFalsely : Prop := vfsReadBackRow.holds Tryz.pinned (OpenSpec.ofChange vfsReadBackWrong)

/-- 'shelflaw4.VfsShort': WHATEVER THE INPUT: true; the input reads as it did. -/
def vfsShortSpec : ChangeSpec := { name := "vfsShort", fn := fun _ => fun
  | [d1, d2, d3, d4, d5] => { results := [.lit (.bool true)], args := [d1, d2, d3, d4, d5] }
  | _ => none }
def vfsShortRow : OpenClaim := { program := "ytjbphheojfclcaagreat", sum := "38cc37c1af81d4b12a10a6b62ceb027889c07f3b4e5f2f7a0415248c4ab5ec7c", func := "shelf/shelflaw4.VfsShort", spec := "vfsShort", unfollowed := true, recurses := true, apart := false }
def VfsShortSaid : Prop := vfsShortRow.holds Tryz.pinned (OpenSpec.ofChange vfsShortSpec)

/-- ITS FALSE NEIGHBOUR: 'it returns false'. Refute it at one input. -/
def vfsShortWrong : ChangeSpec := { name := "vfsShort", fn := fun _ => fun
  | [d1, d2, d3, d4, d5] => { results := [.lit (.bool false)], args := [d1, d2, d3, d4, d5] }
  | _ => none }
def VfsShortWrongFalsely : Prop := vfsShortRow.holds Tryz.pinned (OpenSpec.ofChange vfsShortWrong)

/-- 'shelflaw4.VfsDurable': WHATEVER THE INPUT: true; the input reads as it did. -/
def vfsDurableSpec : ChangeSpec := { name := "vfsDurable", fn := fun _ => fun
  | [d1, d2, d3, d4, d5, d6] => { results := [.lit (.bool true)], args := [d1, d2, d3, d4, d5, d6] }
  | _ => none }
def vfsDurableRow : OpenClaim := { program := "ytjbphheojfclcaagreat", sum := "38cc37c1af81d4b12a10a6b62ceb027889c07f3b4e5f2f7a0415248c4ab5ec7c", func := "shelf/shelflaw4.VfsDurable", spec := "vfsDurable", unfollowed := true, recurses := true, apart := false }
def VfsDurableSaid : Prop := vfsDurableRow.holds Tryz.pinned (OpenSpec.ofChange vfsDurableSpec)

/-- ITS FALSE NEIGHBOUR: 'it returns false'. Refute it at one input. -/
def vfsDurableWrong : ChangeSpec := { name := "vfsDurable", fn := fun _ => fun
  | [d1, d2, d3, d4, d5, d6] => { results := [.lit (.bool false)], args := [d1, d2, d3, d4, d5, d6] }
  | _ => none }
def VfsDurableWrongFalsely : Prop := vfsDurableRow.holds Tryz.pinned (OpenSpec.ofChange vfsDurableWrong)

/-- 'shelflaw4.VfsStruck': WHATEVER THE INPUT: true; the input reads as it did. -/
def vfsStruckSpec : ChangeSpec := { name := "vfsStruck", fn := fun _ => fun
  | [d1, d2, d3, d4, d5] => { results := [.lit (.bool true)], args := [d1, d2, d3, d4, d5] }
  | _ => none }
def vfsStruckRow : OpenClaim := { program := "ytjbphheojfclcaagreat", sum := "38cc37c1af81d4b12a10a6b62ceb027889c07f3b4e5f2f7a0415248c4ab5ec7c", func := "shelf/shelflaw4.VfsStruck", spec := "vfsStruck", unfollowed := true, recurses := true, apart := false }
def VfsStruckSaid : Prop := vfsStruckRow.holds Tryz.pinned (OpenSpec.ofChange vfsStruckSpec)

/-- ITS FALSE NEIGHBOUR: 'it returns false'. Refute it at one input. -/
def vfsStruckWrong : ChangeSpec := { name := "vfsStruck", fn := fun _ => fun
  | [d1, d2, d3, d4, d5] => { results := [.lit (.bool false)], args := [d1, d2, d3, d4, d5] }
  | _ => none }
def VfsStruckWrongFalsely : Prop := vfsStruckRow.holds Tryz.pinned (OpenSpec.ofChange vfsStruckWrong)

/-- 'shelflaw4.VfsIsDisk': WHATEVER THE INPUT: true; the input reads as it did. -/
def vfsIsDiskSpec : ChangeSpec := { name := "vfsIsDisk", fn := fun _ => fun
  | [d1, d2] => { results := [.lit (.bool true)], args := [d1, d2] }
  | _ => none }
def vfsIsDiskRow : OpenClaim := { program := "ytjbphheojfclcaagreat", sum := "38cc37c1af81d4b12a10a6b62ceb027889c07f3b4e5f2f7a0415248c4ab5ec7c", func := "shelf/shelflaw4.VfsIsDisk", spec := "vfsIsDisk", inPlace := ["maps.clone", "internal/abi.NoEscape", "internal/bytealg.IndexByteString", "internal/bytealg.IndexString"], unfollowed := true, recurses := true, named := ["internal/bytealg.MaxLen"], apart := false }
def VfsIsDiskSaid : Prop := vfsIsDiskRow.holds Tryz.pinned (OpenSpec.ofChange vfsIsDiskSpec)

/-- ITS FALSE NEIGHBOUR: 'it returns false'. Refute it at one input. -/
def vfsIsDiskWrong : ChangeSpec := { name := "vfsIsDisk", fn := fun _ => fun
  | [d1, d2] => { results := [.lit (.bool false)], args := [d1, d2] }
  | _ => none }
def VfsIsDiskWrongFalsely : Prop := vfsIsDiskRow.holds Tryz.pinned (OpenSpec.ofChange vfsIsDiskWrong)

/-- 'shelflaw4.VfsDown': WHATEVER THE INPUT: true; the input reads as it did. -/
def vfsDownSpec : ChangeSpec := { name := "vfsDown", fn := fun _ => fun
  | [d1, d2, d3, d4, d5, d6] => { results := [.lit (.bool true)], args := [d1, d2, d3, d4, d5, d6] }
  | _ => none }
def vfsDownRow : OpenClaim := { program := "ytjbphheojfclcaagreat", sum := "38cc37c1af81d4b12a10a6b62ceb027889c07f3b4e5f2f7a0415248c4ab5ec7c", func := "shelf/shelflaw4.VfsDown", spec := "vfsDown", unfollowed := true, recurses := true, apart := false }
def VfsDownSaid : Prop := vfsDownRow.holds Tryz.pinned (OpenSpec.ofChange vfsDownSpec)

/-- ITS FALSE NEIGHBOUR: 'it returns false'. Refute it at one input. -/
def vfsDownWrong : ChangeSpec := { name := "vfsDown", fn := fun _ => fun
  | [d1, d2, d3, d4, d5, d6] => { results := [.lit (.bool false)], args := [d1, d2, d3, d4, d5, d6] }
  | _ => none }
def VfsDownWrongFalsely : Prop := vfsDownRow.holds Tryz.pinned (OpenSpec.ofChange vfsDownWrong)

/- THE SECOND FORM. 'bulk': how many values and letters a reading holds, each counted each time it is reached (what is shared counts as often as it is met; a slice's spare places count too). A statement '..UptoSaid' is the law's where the arguments, and the package variables that the reading takes, are together of bulk at most 1048576: NARROWER than '..Said'. Prove '..Said' where nothing that the law and all that it calls make is longer than what came in: it says more and counts as full. Else prove '..UptoSaid'. A law counts once. -/
mutual
def uptoBulk {H : Type} : DataW H → Nat
  | .lit (.string bytes) => bytes.length + 1
  | .lit _ => 1
  | .nil => 1
  | .ptr d => uptoBulk d + 1
  | .slice elems spare => uptoBulkAll elems + uptoBulkAll spare + 1
  | .agg parts => uptoBulkAll parts + 1
  | .iface _ d => uptoBulk d + 1
  | .map entries => uptoBulkEntries entries + 1
  | .held _ => 1
def uptoBulkAll {H : Type} : List (DataW H) → Nat
  | [] => 0
  | d :: r => uptoBulk d + uptoBulkAll r
def uptoBulkEntries {H : Type} : List (Lit × DataW H) → Nat
  | [] => 0
  | x :: r => uptoBulkEntry x + uptoBulkEntries r
def uptoBulkEntry {H : Type} : Lit × DataW H → Nat
  | (.string bytes, d) => bytes.length + uptoBulk d + 1
  | (_, d) => uptoBulk d + 1
 end
def uptoSmall : (H : Type) → List (DataW H) → Bool := fun _ ds => decide (uptoBulkAll ds ≤ 1048576)
def OpenSpec.upto (s : _root_.Go.ChangeSpec) : _root_.Go.OpenSpec := { _root_.Go.OpenSpec.ofChange s with cond := some uptoSmall }

/-- 'shelflaw4.VfsReadBack', WHERE WHAT IT READS IS OF BULK AT MOST 1048576: true; the input reads as it did. -/
def vfsReadBackUptoRow : OpenClaim := { program := "ytjbphheojfclcaagreat", sum := "38cc37c1af81d4b12a10a6b62ceb027889c07f3b4e5f2f7a0415248c4ab5ec7c", func := "shelf/shelflaw4.VfsReadBack", spec := "vfsReadBack", unfollowed := true, recurses := true, apart := false, narrowed := true }
def VfsReadBackUptoSaid : Prop := vfsReadBackUptoRow.holds Tryz.pinned (OpenSpec.upto vfsReadBackSpec)

/-- 'shelflaw4.VfsShort', WHERE WHAT IT READS IS OF BULK AT MOST 1048576: true; the input reads as it did. -/
def vfsShortUptoRow : OpenClaim := { program := "ytjbphheojfclcaagreat", sum := "38cc37c1af81d4b12a10a6b62ceb027889c07f3b4e5f2f7a0415248c4ab5ec7c", func := "shelf/shelflaw4.VfsShort", spec := "vfsShort", unfollowed := true, recurses := true, apart := false, narrowed := true }
def VfsShortUptoSaid : Prop := vfsShortUptoRow.holds Tryz.pinned (OpenSpec.upto vfsShortSpec)

/-- 'shelflaw4.VfsDurable', WHERE WHAT IT READS IS OF BULK AT MOST 1048576: true; the input reads as it did. -/
def vfsDurableUptoRow : OpenClaim := { program := "ytjbphheojfclcaagreat", sum := "38cc37c1af81d4b12a10a6b62ceb027889c07f3b4e5f2f7a0415248c4ab5ec7c", func := "shelf/shelflaw4.VfsDurable", spec := "vfsDurable", unfollowed := true, recurses := true, apart := false, narrowed := true }
def VfsDurableUptoSaid : Prop := vfsDurableUptoRow.holds Tryz.pinned (OpenSpec.upto vfsDurableSpec)

/-- 'shelflaw4.VfsStruck', WHERE WHAT IT READS IS OF BULK AT MOST 1048576: true; the input reads as it did. -/
def vfsStruckUptoRow : OpenClaim := { program := "ytjbphheojfclcaagreat", sum := "38cc37c1af81d4b12a10a6b62ceb027889c07f3b4e5f2f7a0415248c4ab5ec7c", func := "shelf/shelflaw4.VfsStruck", spec := "vfsStruck", unfollowed := true, recurses := true, apart := false, narrowed := true }
def VfsStruckUptoSaid : Prop := vfsStruckUptoRow.holds Tryz.pinned (OpenSpec.upto vfsStruckSpec)

/-- 'shelflaw4.VfsIsDisk', WHERE WHAT IT READS IS OF BULK AT MOST 1048576: true; the input reads as it did. -/
def vfsIsDiskUptoRow : OpenClaim := { program := "ytjbphheojfclcaagreat", sum := "38cc37c1af81d4b12a10a6b62ceb027889c07f3b4e5f2f7a0415248c4ab5ec7c", func := "shelf/shelflaw4.VfsIsDisk", spec := "vfsIsDisk", inPlace := ["maps.clone", "internal/abi.NoEscape", "internal/bytealg.IndexByteString", "internal/bytealg.IndexString"], unfollowed := true, recurses := true, named := ["internal/bytealg.MaxLen"], apart := false, narrowed := true }
def VfsIsDiskUptoSaid : Prop := vfsIsDiskUptoRow.holds Tryz.pinned (OpenSpec.upto vfsIsDiskSpec)

/-- 'shelflaw4.VfsDown', WHERE WHAT IT READS IS OF BULK AT MOST 1048576: true; the input reads as it did. -/
def vfsDownUptoRow : OpenClaim := { program := "ytjbphheojfclcaagreat", sum := "38cc37c1af81d4b12a10a6b62ceb027889c07f3b4e5f2f7a0415248c4ab5ec7c", func := "shelf/shelflaw4.VfsDown", spec := "vfsDown", unfollowed := true, recurses := true, apart := false, narrowed := true }
def VfsDownUptoSaid : Prop := vfsDownUptoRow.holds Tryz.pinned (OpenSpec.upto vfsDownSpec)

end Rows
end Go.Proofs.YtjbphheojfclcaaGreat
