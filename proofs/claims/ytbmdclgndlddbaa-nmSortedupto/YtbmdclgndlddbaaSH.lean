
-- slices' insertion, out of the library's contract.
import Derived.Test.YtbmdclgndlddbaaSG
import Derived.Shelf.SlGeneric
namespace Go.Proofs.Ytbmdclgndlddbaa
open Go.ChangeShapes Go.WideShapes Go.ChangeAt Go.RowKit Go.Sort Go.Shelf Go.Lib
set_option linter.unusedVariables false
set_option maxRecDepth 100000
def renI : Ren := ⟨fun | 20 => 26 | n => n, fun | 22 => 22 | 24 => 31 | 25 => 40 | n => n, fun n => n⟩
theorem laysI : SlLaysF0.n20 Try.prog renI := {
  mixed := by kernel_rfl
  f20 := ⟨"slices.insertionSortCmpFunc[shelf/api.Row]", by decide, Try.func26.trans (congrArg some (by kernel_rfl))⟩
  t0 := Try.underlying0
  a0 := Try.isAgg0
  z0 := Try.sizeOf0
  v0 := Try.zeroValue0
  t3 := Try.underlying3
  a3 := Try.isAgg3
  z3 := Try.sizeOf3
  v3 := Try.zeroValue3
  t4 := Try.underlying4
  a4 := Try.isAgg4
  z4 := Try.sizeOf4
  v4 := Try.zeroValue4
  t22 := Try.underlying22
  a22 := Try.isAgg22
  z22 := Try.sizeOf22
  v22 := Try.zeroValue22
  t25 := Try.underlying40
  a25 := Try.isAgg40
  z25 := Try.sizeOf40
  v25 := Try.zeroValue40 }
section
variable {α : Type} [Inhabited α] {enc : α → List Value} {k : Nat} {w0 : World} {blk off : Nat} {d0 : Array α}
theorem cmpLays_at {P : Program} {g : Nat} {cb : Array Value} {cf : α → α → Int} {size : Nat} {dk : Array α} {W : World} (h : SWK enc k w0 blk off dk W) (hC : CmpLays P g cb enc k cf blk off size w0) (hblk : blk < w0.heap.size) (hs : dk.size = size) : CmpLays P g cb enc k cf blk off size W := by
  intro m os dk' hs' x y
  obtain ⟨n, os2, e⟩ := h.on hblk m dk' os (by omega)
  rw [e]
  exact hC n os2 dk' hs' x y
theorem ins_seg (R : RowK enc k w0 blk off d0) (aE : ∀ w, (isAgg 31).run Try.prog w = .ok true w) (zE : ∀ w, (Go.sizeOf 31).run Try.prog w = .ok k w) {g : Nat} {cb : Array Value} {cf : α → α → Int} (eg : ∀ args w, (callFunc g args).run Try.prog w = .ok (.enter g args) w) (hcmp : CmpLays Try.prog g cb enc k cf blk off d0.size w0) {C Ro : α → α → Prop} (H : Cmp (ltOf cf) C Ro) (cap : Nat) (hsz : d0.size < 4611686018427387904) : InsC Try.prog enc k w0 blk off d0 g cb cap C Ro := by
  intro a b dk W hab hb hC hW hs
  have h := AnyQ.insertionSortCmpFunc (P := Try.prog) (ρ := renI) laysI k aE zE enc R.hk R.h1 cf g cb blk off cap a b dk W eg (by rw [hs]; exact cmpLays_at hW hcmp R.hblk hs) (hW.holds R.hblk R.hH hs) (hW.lt R.hblk) hab (by omega) (by omega)
  rw [hs] at h
  refine h.mono ?_
  rintro e w' ⟨rfl, n, os, rfl⟩
  have hl : dk.toList.length = dk.size := Array.length_toList
  have e1 : dk.toList = dk.toList.take a ++ (seg dk.toList a b ++ dk.toList.drop b) := seg_parts dk.toList (by omega) (by omega)
  obtain ⟨S, s1, s2, s3⟩ := ins_sort H e1 (a := a) (b := b) (by rw [List.length_take]; omega) (by rw [seg_len _ (by omega)]; omega) hC
  refine ⟨rfl, _, hW.on R.hblk n _ os ?_, S, s1, s2, s3⟩
  rw [← Array.length_toList, s1, ← hl]
  simp only [List.length_append, List.length_take, List.length_drop]
  have : S.length = (seg dk.toList a b).length := s2.length_eq
  rw [seg_len _ (by omega)] at this
  omega
end
end Go.Proofs.Ytbmdclgndlddbaa
