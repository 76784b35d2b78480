
-- Plain mathematics: an index's entries, its sizes.
import Derived.Test.YtegjklllnegghaaGreatDoorProg
namespace Go.Proofs.YtegjklllnegghaaGreatDoor
set_option linter.unusedVariables false
set_option maxRecDepth 100000

def goodL (l : List UInt8) : Bool := !l.isEmpty && !decide ((0 : UInt8) ∈ l)
theorem goodL_iff (l : List UInt8) : goodL l = true ↔ l ≠ [] ∧ ¬ (0 : UInt8) ∈ l := by
  unfold goodL; cases l <;> simp
/-- the names and their bytes 0 -/
def totN : List ByteArray → Nat
  | [] => 0
  | s :: r => s.size + 1 + totN r
theorem totN_append (a b : List ByteArray) : totN (a ++ b) = totN a + totN b := by
  induction a with
  | nil => simp [totN]
  | cons x r ih => simp only [List.cons_append, totN, ih]; omega
theorem totN_take_next (L : List ByteArray) (k : Nat) (h : k < L.length) : totN (L.take (k + 1)) = totN (L.take k) + (L.getD k .empty).size + 1 := by
  rw [List.take_add_one, List.getElem?_eq_getElem h, totN_append]
  simp [totN, List.getD, List.getElem?_eq_getElem h]; omega
theorem totN_take_le (L : List ByteArray) (k : Nat) : totN (L.take k) ≤ totN L := by
  have h := totN_append (L.take k) (L.drop k)
  rw [List.take_append_drop] at h; omega
theorem totN_len (L : List ByteArray) : L.length ≤ totN L := by
  induction L with
  | nil => simp [totN]
  | cons x r ih => simp only [List.length_cons, totN]; omega
def goodAll (L : List ByteArray) : Bool := L.all (fun s => goodL s.data.toList)
theorem goodAll_no (L : List ByteArray) (k : Nat) (h : k < L.length) (hg : goodL (L.getD k .empty).data.toList = false) : goodAll L = false := by
  unfold goodAll
  cases e : L.all (fun s => goodL s.data.toList)
  · rfl
  · rw [List.all_eq_true] at e
    have := e (L.getD k .empty) (by rw [List.getD, List.getElem?_eq_getElem h]; exact List.getElem_mem h)
    rw [hg] at this; exact absurd this (by simp)
theorem goodAll_yes (L : List ByteArray) (h : ∀ k, k < L.length → goodL (L.getD k .empty).data.toList = true) : goodAll L = true := by
  unfold goodAll
  rw [List.all_eq_true]
  intro s hs
  obtain ⟨k, hk, rfl⟩ := List.mem_iff_getElem.1 hs
  have := h k hk
  rwa [List.getD, List.getElem?_eq_getElem hk] at this
def evenN (n : Nat) : Nat := n + n % 2
/-- the bytes ahead of the names -/
def headN (f : Int) (n : Nat) : Nat := if f = 1 then 4 + 4 * n else 8 + 8 * n
abbrev known (f : Int) : Prop := f = 1 ∨ f = 2 ∨ f = 3
def sizeA (f : Int) (L : List ByteArray) : Int × Int :=
  if ¬ known f then (0, 101) else if goodAll L = true then ((headN f L.length + evenN (totN L) : Nat), 0) else (0, 80)
end Go.Proofs.YtegjklllnegghaaGreatDoor
