
-- What turns: blocks of a set and new ones.
import Derived.Test.YtmlnnbinbbmmhaaDoorA0
namespace Go.Proofs.YtmlnnbinbbmmhaaDoor
open Go.ChangeShapes Go.WideShapes Go.ChangeAt Go.RowKit
set_option linter.unusedVariables false
set_option maxRecDepth 100000
/-- Nothing turns but blocks of F and new ones. -/
structure Kp (F : Nat → Prop) (w w' : World) : Prop where
  os : w'.os = w.os
  tape : w'.tape = w.tape
  output : w'.output = w.output
  size : w.heap.size ≤ w'.heap.size
  block : ∀ k, k < w.heap.size → ¬ F k → w'.heap[k]? = w.heap[k]?
theorem Kp.refl (F : Nat → Prop) (w : World) : Kp F w w := ⟨rfl, rfl, rfl, Nat.le_refl _, fun _ _ _ => rfl⟩
theorem Kp.of_below {F : Nat → Prop} {w w' : World} (h : Below w.heap.size w w') : Kp F w w' := ⟨h.os, h.tape, h.output, h.size, fun k hk _ => h.block k hk⟩
theorem Kp.trans {F : Nat → Prop} {a b c : World} (h : Kp F a b) (k : Kp F b c) : Kp F a c :=
  ⟨k.os.trans h.os, k.tape.trans h.tape, k.output.trans h.output, Nat.le_trans h.size k.size, fun i hi hn => (k.block i (Nat.lt_of_lt_of_le hi h.size) hn).trans (h.block i hi hn)⟩
theorem Kp.below {F : Nat → Prop} {w w' : World} {B : Nat} (h : Kp F w w') (hF : ∀ k, F k → B ≤ k) (hB : B ≤ w.heap.size) : Below B w w' :=
  ⟨h.os, h.tape, h.output, h.size, fun k hk => h.block k (by omega) (fun hf => by have := hF k hf; omega)⟩
theorem Kp.drew {F : Nat → Prop} {w w' : World} (h : Kp F w w') : Kp F w w'.drew := ⟨h.os, h.tape, h.output, h.size, h.block⟩
theorem Kp.grown {F : Nat → Prop} {w w' : World} {r : Option Nat} (h : w.grownBy w' r) (hr : ∀ k, r = some k → F k) : Kp F w w' :=
  ⟨h.os, h.tape, h.output, h.size, fun k hk hn => h.block k hk (fun e => hn (hr k e.symm))⟩
theorem Kp.kq {F : Nat → Prop} {w w' : World} {k : Nat} (h : Kq k w w') (hk : F k) : Kp F w w' :=
  ⟨h.os, h.tape, h.output, h.size, fun j hj hn => h.block j (fun e => hn (e ▸ hk)) hj⟩
theorem Kp.alloc {F : Nat → Prop} {a b : World} (h : Kp F a b) (o : Obj) : Kp F a (b.alloc o) := h.trans (Kp.of_below ((Below.refl _ _).alloc (Nat.le_refl _) o))
theorem Kp.weak {F G : Nat → Prop} {w w' : World} (h : Kp F w w') (hg : ∀ k, F k → G k) : Kp G w w' := ⟨h.os, h.tape, h.output, h.size, fun k hk hn => h.block k hk (fun hf => hn (hg k hf))⟩
theorem Kp.cell {F : Nat → Prop} {w w' : World} (h : Kp F w w') {b off : Nat} {v : Value} (hc : w.cell? ⟨b, off, none⟩ = some v) (hn : ¬ F b) : w'.cell? ⟨b, off, none⟩ = some v := by
  have hb : b < w.heap.size := World.block_lt_of_cell? _ _ hc
  unfold World.cell? at hc ⊢
  rw [h.block b hb hn]; exact hc
/-- a slice that reads as a list, in a block that is none of F -/
def RowN (F : Nat → Prop) {α : Type} (c : α → List Value) (w : World) (v : Value) (L : List α) : Prop :=
  ∃ ao cap, v = .slice ao L.length cap ∧ L.length ≤ cap ∧ cap ≤ maxLen ∧ (ao = none → cap = 0) ∧ (0 < L.length → ∃ b off, ao = some ⟨b, off, none⟩ ∧ ¬ F b ∧ ∀ j u, (L.flatMap c)[j]? = some u → w.cell? ⟨b, off + j, none⟩ = some u)
section
variable {α : Type} {c : α → List Value} {F : Nat → Prop}
theorem RowN.row {w : World} {v : Value} {L : List α} (h : RowN F c w v L) : RowG c w v L := by
  obtain ⟨ao, cap, e, h1, h2, h3, h4⟩ := h
  refine ⟨ao, cap, e, h1, h2, h3, fun hp => ?_⟩
  obtain ⟨b, off, e2, _, hc⟩ := h4 hp
  exact ⟨b, off, e2, hc⟩
theorem RowN.kp {w w' : World} {v : Value} {L : List α} (h : RowN F c w v L) (hk : Kp F w w') : RowN F c w' v L := by
  obtain ⟨ao, cap, e, h1, h2, h3, h4⟩ := h
  refine ⟨ao, cap, e, h1, h2, h3, fun hp => ?_⟩
  obtain ⟨b, off, e2, hn, hc⟩ := h4 hp
  exact ⟨b, off, e2, hn, fun j u hu => hk.cell (hc j u hu) hn⟩
/-- what lies in a world lies below its size -/
theorem RowG.rowN {z : Nat} {w : World} {v : Value} {L : List α} (hz : 0 < z) (hc : ∀ x, (c x).length = z) (h : RowG c w v L) (hF : ∀ b, F b → w.heap.size ≤ b) : RowN F c w v L := by
  obtain ⟨ao, cap, e, h1, h2, h3, h4⟩ := h
  refine ⟨ao, cap, e, h1, h2, h3, fun hp => ?_⟩
  obtain ⟨b, off, e2, hcl⟩ := h4 hp
  refine ⟨b, off, e2, fun hf => ?_, hcl⟩
  have hl : 0 < (L.flatMap c).length := by
    rw [flatG_len c z hc]; exact Nat.mul_pos hp hz
  have := World.block_lt_of_cell? _ _ (hcl 0 _ (List.getElem?_eq_getElem hl))
  have := hF b hf
  simp at *
  omega
theorem RowN.weak {G : Nat → Prop} {w : World} {v : Value} {L : List α} (h : RowN F c w v L) (hg : ∀ b, b < w.heap.size → G b → F b) {z : Nat} (hz : 0 < z) (hc : ∀ x, (c x).length = z) : RowN G c w v L := by
  obtain ⟨ao, cap, e, h1, h2, h3, h4⟩ := h
  refine ⟨ao, cap, e, h1, h2, h3, fun hp => ?_⟩
  obtain ⟨b, off, e2, hn, hcl⟩ := h4 hp
  refine ⟨b, off, e2, fun hf => hn (hg b ?_ hf), hcl⟩
  have hl : 0 < (L.flatMap c).length := by
    rw [flatG_len c z hc]; exact Nat.mul_pos hp hz
  have := World.block_lt_of_cell? _ _ (hcl 0 _ (List.getElem?_eq_getElem hl))
  exact this
end
end Go.Proofs.YtmlnnbinbbmmhaaDoor
