
-- Plain: commands and their lines.
import Derived.Test.YtdamhdceajmdfaaDoorA0
import Derived.Lib.Join
namespace Go.Proofs.YtdamhdceajmdfaaDoor
open Go.ChangeShapes Go.WideShapes Go.ChangeAt Go.RowKit
set_option linter.unusedVariables false
set_option maxRecDepth 100000
set_option linter.unusedSimpArgs false
/-- a command -/
structure Mr where
  v : Int
  n : ByteArray
  ns : List ByteArray
def byL (s : ByteArray) : List UInt8 := s.data.toList
def byB (l : List UInt8) : ByteArray := ⟨l.toArray⟩
theorem byL_byB (l : List UInt8) : byL (byB l) = l := by simp [byL, byB]
theorem byB_byL (s : ByteArray) : byB (byL s) = s := by apply ByteArray.ext; simp [byL, byB]
theorem byL_size (s : ByteArray) : (byL s).length = s.size := by simp [byL]
theorem byB_size (l : List UInt8) : (byB l).size = l.length := by simp [byB, ByteArray.size]
theorem byL_app (a b : ByteArray) : byL (a ++ b) = byL a ++ byL b := by simp [byL]
theorem byB_app (a b : List UInt8) : byB (a ++ b) = byB a ++ byB b := by
  rw [← byB_byL (byB a ++ byB b), byL_app, byL_byB, byL_byB]
theorem byL_inj {a b : ByteArray} (h : byL a = byL b) : a = b := by rw [← byB_byL a, ← byB_byL b, h]
theorem app3B (a b c : ByteArray) : a ++ b ++ c = a ++ (b ++ c) := by apply byL_inj; simp only [byL_app, List.append_assoc]
def wordL : List (List UInt8) := [[], [67, 82, 69, 65, 84, 69], [79, 80, 69, 78], [65, 68, 68, 77, 79, 68], [65, 68, 68, 76, 73, 66], [68, 69, 76, 69, 84, 69], [82, 69, 80, 76, 65, 67, 69], [69, 88, 84, 82, 65, 67, 84], [76, 73, 83, 84], [68, 73, 82, 69, 67, 84, 79, 82, 89], [86, 69, 82, 66, 79, 83, 69], [67, 76, 69, 65, 82], [83, 65, 86, 69], [69, 78, 68]]
def wordB (v : Nat) : ByteArray := byB (wordL.getD v [])
def namedV (v : Nat) : Bool := v == 1 || v == 2 || v == 4 || v == 9
def kindV (v : Nat) : Nat := if v == 3 || v == 5 || v == 6 || v == 7 then 1 else if v == 4 || v == 9 then 2 else 0
def sumS (ns : List ByteArray) : Nat := (ns.map fun x => x.size + 1).sum
def joinS (ns : List ByteArray) : ByteArray := byB (Lib.join (ns.map (·.data.toList)) [44, 32])
/-- the parts of a line -/
def partN (nb : Bool) (a n : ByteArray) : ByteArray := if nb then a ++ (⟨#[32]⟩ ++ n) else a
def partK (kd : Nat) (a : ByteArray) (ns : List ByteArray) : ByteArray := if kd = 1 then a ++ (⟨#[32]⟩ ++ joinS ns) else if kd = 2 ∧ ns ≠ [] then a ++ (⟨#[32, 40]⟩ ++ joinS ns ++ ⟨#[41]⟩) else a
def lineK (nb : Bool) (kd : Nat) (W n : ByteArray) (ns : List ByteArray) : ByteArray := partK kd (partN nb W n) ns ++ ⟨#[10]⟩
def lineV (v : Nat) (n : ByteArray) (ns : List ByteArray) : ByteArray := lineK (namedV v) (kindV v) (wordB v) n ns
def lineM (c : Mr) : List UInt8 := if 0 < c.v ∧ c.v < 14 then byL (lineV c.v.toNat c.n c.ns) else []
def textM (L : List Mr) : List UInt8 := L.flatMap lineM
def szM (c : Mr) : Nat := c.n.size + sumS c.ns + 4
def totR (L : List Mr) : Nat := (L.map szM).sum
theorem sumS_cons (x : ByteArray) (r : List ByteArray) : sumS (x :: r) = x.size + 1 + sumS r := by simp [sumS]
theorem sumS_len (ns : List ByteArray) : ns.length ≤ sumS ns := by
  induction ns with
  | nil => simp [sumS]
  | cons x r ih => rw [sumS_cons, List.length_cons]; omega
theorem joinS_size (ns : List ByteArray) : (joinS ns).size ≤ 2 * sumS ns := by
  unfold joinS
  rw [byB_size]
  cases ns with
  | nil => simp [Lib.join, List.intercalate]
  | cons x r =>
    rw [List.map_cons, Lib.join_cons, sumS_cons, List.length_append]
    have : ∀ r : List ByteArray, (Lib.joinTail [44, 32] (r.map (·.data.toList))).length ≤ 2 * sumS r := by
      intro r
      unfold Lib.joinTail
      induction r with
      | nil => simp
      | cons y t ih =>
        rw [List.map_cons, List.map_cons, List.flatten_cons, List.length_append, sumS_cons]
        have e : ([44, 32] ++ y.data.toList : List UInt8).length = y.size + 2 := by
          rw [List.length_append, Array.length_toList]; show 2 + y.size = _; omega
        omega
    have := this r
    have e : x.data.toList.length = x.size := by rw [Array.length_toList]; rfl
    omega
theorem joinS_cons (x : ByteArray) (r : List ByteArray) : byL (joinS (x :: r)) = byL x ++ r.flatMap (fun y => [44, 32] ++ byL y) := by
  unfold joinS
  rw [byL_byB, List.map_cons, Lib.join_cons]
  unfold Lib.joinTail
  rw [List.flatMap_def, List.map_map]
  rfl
theorem wordB_size (v : Nat) : (wordB v).size ≤ 9 := by
  unfold wordB
  rw [byB_size]
  by_cases h : v < 14
  · have : ∀ k : Fin 14, (wordL.getD k.val []).length ≤ 9 := by decide
    exact this ⟨v, h⟩
  · rw [List.getD, List.getElem?_eq_none (by show 14 ≤ v; omega)]; simp
theorem partN_size (nb : Bool) (a n : ByteArray) : (partN nb a n).size ≤ a.size + n.size + 1 := by
  unfold partN
  split
  · simp only [ByteArray.size_append]; show a.size + (1 + n.size) ≤ _; omega
  · omega
theorem partK_size (kd : Nat) (a : ByteArray) (ns : List ByteArray) : (partK kd a ns).size ≤ a.size + 2 * sumS ns + 3 := by
  have := joinS_size ns
  unfold partK
  split
  · simp only [ByteArray.size_append]; show a.size + (1 + (joinS ns).size) ≤ _; omega
  · split
    · simp only [ByteArray.size_append]; show a.size + (2 + (joinS ns).size + 1) ≤ _; omega
    · omega
theorem lineV_size (v : Nat) (n : ByteArray) (ns : List ByteArray) : (lineV v n ns).size ≤ n.size + 2 * sumS ns + 14 := by
  unfold lineV lineK
  have h1 := partK_size (kindV v) (partN (namedV v) (wordB v) n) ns
  have h2 := partN_size (namedV v) (wordB v) n
  have h3 := wordB_size v
  rw [ByteArray.size_append]
  show _ + 1 ≤ _
  omega
theorem lineM_size (c : Mr) : (lineM c).length ≤ 14 * szM c := by
  unfold lineM
  split
  · rw [byL_size]; have := lineV_size c.v.toNat c.n c.ns; unfold szM; omega
  · simp
theorem totR_cons (c : Mr) (L : List Mr) : totR (c :: L) = szM c + totR L := by simp [totR]
theorem textM_size (L : List Mr) : (textM L).length ≤ 14 * totR L := by
  induction L with
  | nil => simp [textM]
  | cons c r ih =>
    unfold textM at ih ⊢
    rw [List.flatMap_cons, List.length_append, totR_cons]
    have := lineM_size c
    omega
theorem totR_take (L : List Mr) (k : Nat) : totR (L.take k) ≤ totR L := by
  have := congrArg totR (List.take_append_drop k L)
  have e : ∀ a b : List Mr, totR (a ++ b) = totR a + totR b := by intro a b; simp [totR]
  rw [e] at this
  omega
theorem totR_mem {L : List Mr} {k : Nat} {c : Mr} (h : L[k]? = some c) : szM c ≤ totR L := by
  have e : ∀ a b : List Mr, totR (a ++ b) = totR a + totR b := by intro a b; simp [totR]
  have h1 := totR_take L (k + 1)
  rw [takeSucc h, e, totR_cons] at h1
  omega
theorem totR_len (L : List Mr) : L.length ≤ totR L := by
  induction L with
  | nil => simp
  | cons c r ih => rw [totR_cons, List.length_cons]; unfold szM; omega
theorem textM_take {L : List Mr} {k : Nat} {c : Mr} (h : L[k]? = some c) : textM (L.take (k + 1)) = textM (L.take k) ++ lineM c := by
  unfold textM
  rw [takeSucc h, List.flatMap_append]; simp
end Go.Proofs.YtdamhdceajmdfaaDoor
