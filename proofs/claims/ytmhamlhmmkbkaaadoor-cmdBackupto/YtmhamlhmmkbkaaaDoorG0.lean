
-- What Decode and Line answer, as the walks of the laws take it.
import Derived.Test.YtmhamlhmmkbkaaaDoorL1
import Derived.Test.YtmhamlhmmkbkaaaDoorTU
import Derived.Great.BuildSlice
namespace Go.Proofs.YtmhamlhmmkbkaaaDoor
open Go.ChangeShapes Go.WideShapes Go.ChangeAt Go.RowKit
set_option linter.unusedVariables false
set_option maxRecDepth 100000
set_option linter.unusedSimpArgs false
theorem cmL_size (c : Cm) (u : Value) : (cmL c u).toArray.size = 14 := rfl
/-- a box that holds a command -/
abbrev BoxC (w : World) (b : Nat) (c : Cm) (u : Value) : Prop := w.heap[b]? = some (.cells (cmL c u).toArray 27 (0, 0))
theorem rowT_new (l : List ByteArray) (W : World) (g : Nat) (hg : W.heap[g]? = some (.cells (l.flatMap txL).toArray 9 (0, 0))) (hl : l.length ≤ 1000) : RowT W (.slice (some ⟨g, 0, none⟩) l.length l.length) l :=
  OwnT.row (B := 0) (ownG_of txL 1 txL_len hg (Nat.zero_le _) (Nat.le_refl _) (by unfold maxLen; omega) (by rw [List.size_toArray, lenT, Nat.mul_one]) (by rw [List.toList_toArray, List.take_of_length_le (by rw [lenT, Nat.mul_one]; exact Nat.le_refl _)]) rfl)
theorem ownT_new (l : List ByteArray) (W : World) (B g : Nat) (hB : B ≤ g) (hg : W.heap[g]? = some (.cells (l.flatMap txL).toArray 9 (0, 0))) (hl : l.length ≤ 1000) : OwnT B W (.slice (some ⟨g, 0, none⟩) l.length l.length) l :=
  ownG_of txL 1 txL_len hg hB (Nat.le_refl _) (by unfold maxLen; omega) (by rw [List.size_toArray, lenT, Nat.mul_one]) (by rw [List.toList_toArray, List.take_of_length_le (by rw [lenT, Nat.mul_one]; exact Nat.le_refl _)]) rfl
theorem OwnT.form {B : Nat} {w : World} {v : Value} {L : List ByteArray} (h : OwnT B w v L) : ∃ ao cap, v = .slice ao L.length cap := by
  obtain ⟨ao, cap, e, _⟩ := RowG.form (OwnT.row h)
  exact ⟨ao, cap, e⟩
/-- what Decode answers, where the library's tables lie -/
def DecodeOkT (f : Nat) : Prop := ∀ (v : Value) (L : List ByteArray) (w : World), TabU w → RowT w v L → L.length ≤ 16777216 → totT L ≤ 16777216 → Calls Tryd.prog f #[v] w fun e w' => ∃ u, e = .returned (.tuple #[.agg (cmL (ansC (decC L)) u).toArray, .string (ansW (decC L)), .int .i64 (ansE (decC L))]) ∧ OwnT w.heap.size w' u (ansC (decC L)).nms ∧ Below w.heap.size w w'
theorem DecodeOkT.yes {f : Nat} (h : DecodeOkT f) {v : Value} {L : List ByteArray} {w : World} {c : Cm} (hu : TabU w) (hr : RowT w v L) (hl : L.length ≤ 16777216) (ht : totT L ≤ 16777216) (hd : decC L = .inr c) :
    Calls Tryd.prog f #[v] w fun e w' => ∃ u, e = .returned (.tuple #[.agg (cmL c u).toArray, .string ⟨#[]⟩, .int .i64 0]) ∧ OwnT w.heap.size w' u c.nms ∧ Below w.heap.size w w' := by
  have h1 := h v L w hu hr hl ht
  rw [hd] at h1
  exact h1
theorem DecodeOkT.no {f : Nat} (h : DecodeOkT f) {v : Value} {L : List ByteArray} {w : World} {x : ByteArray} {n : Int} (hu : TabU w) (hr : RowT w v L) (hl : L.length ≤ 16777216) (ht : totT L ≤ 16777216) (hd : decC L = .inl (x, n)) :
    Calls Tryd.prog f #[v] w fun e w' => ∃ u, e = .returned (.tuple #[.agg (cmL cm0 u).toArray, .string x, .int .i64 n]) ∧ OwnT w.heap.size w' u [] ∧ Below w.heap.size w w' := by
  have h1 := h v L w hu hr hl ht
  rw [hd] at h1
  exact h1
theorem LineOk.yes {f : Nat} (h : LineOk f) {c : Cm} {v : Value} {w : World} (hg : Good c) (hr : RowT w v c.nms) (hl : c.nms.length ≤ 16777216) (ht : totT c.nms ≤ 16777216) (h1 : c.anc.size ≤ 16777216) (h2 : c.arc.size ≤ 16777216) :
    Calls Tryd.prog f #[.agg (cmL c v).toArray] w fun e w' => ∃ u, e = .returned (.tuple #[u, .int .i64 0]) ∧ OwnT w.heap.size w' u (lineW c) ∧ Below w.heap.size w w' := by
  have h3 := h c v w hr hl ht h1 h2
  unfold lineA at h3
  rw [good_ref hg, if_pos rfl] at h3
  exact h3
end Go.Proofs.YtmhamlhmmkbkaaaDoor
