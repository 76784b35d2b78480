
-- Rows that were made, filled one by one.
import Derived.Test.YtnnpdomfkedhpaaCT
import Derived.Laws.MakeOwn
namespace Go.Proofs.Ytnnpdomfkedhpaa
open Go.ChangeShapes Go.WideShapes Go.ChangeAt Go.RowKit
set_option linter.unusedVariables false
set_option maxRecDepth 100000
theorem made_flat {α : Type} (c : α → List Value) (z : Nat) (hz : 0 < z) (hc : ∀ x, (c x).length = z) (x0 : α) (n : Nat) : (madeCells (c x0).toArray (n * z)).toList = (List.replicate n x0).flatMap c := by
  apply List.ext_getElem?
  intro j
  by_cases hj : j < n * z
  · have hk : j / z < n := Nat.div_lt_of_lt_mul (by rw [Nat.mul_comm]; exact hj)
    have hm : j % z < z := Nat.mod_lt _ hz
    have e : j = j / z * z + j % z := by have := Nat.div_add_mod j z; rw [Nat.mul_comm] at this; exact this.symm
    have hr : (List.replicate n x0)[j / z]? = some x0 := by rw [List.getElem?_replicate, if_pos hk]
    have h2 := flatG_get hc (List.replicate n x0) (j / z) (j % z) x0 hr hm
    rw [← e] at h2
    have hcx := hc x0
    have h3 : (c x0)[j % z]? = some ((c x0)[j % z]'(by omega)) := List.getElem?_eq_getElem (by omega)
    rw [h2, h3]
    simp only [madeCells, Array.toList_map, Array.toList_range, List.getElem?_map, List.getElem?_range hj, Option.map_some, List.size_toArray, hcx]
    rw [getElem!_pos (c x0).toArray (j % z) (by simpa [hcx] using hm)]
    simp
  · rw [List.getElem?_eq_none (by rw [Array.length_toList, size_madeCells]; omega), List.getElem?_eq_none (by rw [flatG_len c z hc, List.length_replicate]; omega)]
theorem putG_flat {α : Type} (c : α → List Value) (z : Nat) (hc : ∀ x, (c x).length = z) (L : List α) (k : Nat) (x : α) (hk : k < L.length) : putG (L.flatMap c).toArray (k * z) (c x).toArray = ((L.set k x).flatMap c).toArray := by
  obtain ⟨p1, p2⟩ := flatG_put c z hc (L := L) (k := k) (n := L.length) (cap := L.length) (cur := (L.flatMap c).toArray) x hk (Nat.le_refl _) (by rw [List.size_toArray, flatG_len c z hc]) (by rw [List.toList_toArray, List.take_of_length_le (by rw [flatG_len c z hc]; exact Nat.le_refl _)]) rfl
  rw [List.take_of_length_le (by rw [Array.length_toList, p2]; exact Nat.le_refl _)] at p1
  rw [← p1, Array.toArray_toList]
theorem fitG {α : Type} {c : α → List Value} {z : Nat} (hc : ∀ x, (c x).length = z) {L : List α} {k : Nat} (hk : k < L.length) : Nat.ble (k * z + z) (L.flatMap c).toArray.size = true := by
  rw [List.size_toArray, flatG_len c z hc]
  have : (k + 1) * z ≤ L.length * z := Nat.mul_le_mul_right z hk
  rw [Nat.add_mul, Nat.one_mul] at this
  exact Nat.ble_eq_true_of_le this
theorem below_some {B g : Nat} {a b c : World} (h : Below B a b) (k : b.grownBy c (some g)) (hB : B ≤ g) (ha : B ≤ a.heap.size) : Below B a c :=
  h.trans ⟨k.os, k.tape, k.output, k.size, fun j hj => k.block j (Nat.lt_of_lt_of_le hj (Nat.le_trans ha h.size)) (fun e => by injection e with e; omega)⟩
theorem bupK2 {w w' : World} {B : Nat} (h : Below B w w') (o : Obj) (hB : B ≤ w.heap.size := by exact Nat.le_refl _) : Below B w (w'.alloc o) := h.alloc (Nat.le_trans hB h.size) o
end Go.Proofs.Ytnnpdomfkedhpaa
