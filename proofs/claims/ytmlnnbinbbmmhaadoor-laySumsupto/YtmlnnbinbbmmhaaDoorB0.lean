
-- Plain mathematics: names and their fields.
import Derived.Test.YtmlnnbinbbmmhaaDoorFld
import Derived.Lib.TrimByte
namespace Go.Proofs.YtmlnnbinbbmmhaaDoor
set_option linter.unusedVariables false
set_option maxRecDepth 100000

theorem strL_of (b : ByteArray) : strL b.data.toList = b := by apply ByteArray.ext; simp [strL]

/-- a byte that may stand in a name -/
def okB (c : UInt8) : Bool := !(c.toNat == 47) && !(c.toNat == 0)
def validL (l : List UInt8) : Bool := l.all okB && !l.isEmpty
theorem validL_no (l : List UInt8) (j : Nat) (c : UInt8) (h : l[j]? = some c) (hc : c.toNat = 47 ∨ c.toNat = 0) : validL l = false := by
  unfold validL
  have : l.all okB = false := by
    cases e : l.all okB
    · rfl
    · rw [List.all_eq_true] at e
      have := e c (List.mem_of_getElem? h)
      unfold okB at this
      simp at this
      omega
  rw [this]; rfl
theorem validL_yes (l : List UInt8) (h : ∀ (j : Nat) (c : UInt8), l[j]? = some c → ¬ c.toNat = 47 ∧ ¬ c.toNat = 0) : validL l = !l.isEmpty := by
  unfold validL
  have : l.all okB = true := by
    rw [List.all_eq_true]
    intro c hc
    obtain ⟨j, hj, e⟩ := List.mem_iff_getElem.1 hc
    have := h j c (by rw [List.getElem?_eq_getElem hj, e])
    unfold okB; simp [this]
  rw [this]; rfl

/-- one to 'most' digits, and their value -/
def digL (l : List UInt8) (most : Nat) : Option Nat := if l = [] ∨ most < l.length ∨ l.all (dig 10) = false then none else some (val 10 0 l)

def fSYM64 : List UInt8 := [47, 83, 89, 77, 54, 52, 47]
def fSYMDEF : List UInt8 := [95, 95, 46, 83, 89, 77, 68, 69, 70]
structure Fl where
  sort : Int
  num : Int
  name : ByteArray
def fl0 : Fl := ⟨0, 0, ByteArray.empty⟩
/-- the lines of the table of sorts that are left behind the four fixed texts -/
def readRest (l : List UInt8) : Fl × Int :=
  if 1 < l.length ∧ l[l.length - 1]? = some 47 ∧ validL (l.take (l.length - 1)) = true then (⟨4, 0, strL (l.take (l.length - 1))⟩, 0)
  else if 1 < l.length ∧ l[0]? = some 47 ∧ (digL (l.drop 1) 15).isSome = true then (⟨5, ((digL (l.drop 1) 15).getD 0 : Nat), ByteArray.empty⟩, 0)
  else if 3 < l.length ∧ l.take 3 = [35, 49, 47] ∧ (digL (l.drop 3) 13).isSome = true then (⟨7, ((digL (l.drop 3) 13).getD 0 : Nat), ByteArray.empty⟩, 0)
  else if validL l = true then (⟨6, 0, strL l⟩, 0) else (fl0, 80)
def readL (l : List UInt8) : Fl × Int :=
  if 16 < l.length then (fl0, 80)
  else if l = [47] then (⟨1, 0, ByteArray.empty⟩, 0)
  else if l = fSYM64 then (⟨2, 0, ByteArray.empty⟩, 0)
  else if l = [47, 47] then (⟨3, 0, ByteArray.empty⟩, 0)
  else if l = fSYMDEF then (⟨8, 0, ByteArray.empty⟩, 0)
  else readRest l

/-- a slash and a newline behind it -/
abbrev sepAt (l : List UInt8) (j : Nat) : Prop := l[j]? = some 47 ∧ l[j + 1]? = some 10
def firstSep (l : List UInt8) (a : Nat) : Option Nat := (List.range l.length).find? (fun j => decide (a ≤ j) && decide (sepAt l j))
theorem firstSep_at (l : List UInt8) (a i : Nat) (ha : a ≤ i) (hi : sepAt l i) (hb : ∀ j, a ≤ j → j < i → ¬ sepAt l j) : firstSep l a = some i := by
  have hl : i < l.length := (List.getElem?_eq_some_iff.1 hi.1).1
  unfold firstSep
  rw [List.find?_range_eq_some]
  refine ⟨by simp [ha, hi], by simpa using hl, fun j hj => ?_⟩
  by_cases h : a ≤ j
  · have e : decide (sepAt l j) = false := decide_eq_false (hb j h hj)
    rw [e, Bool.and_false]; rfl
  · simp [h]
theorem firstSep_no (l : List UInt8) (a : Nat) (hb : ∀ j, a ≤ j → ¬ sepAt l j) : firstSep l a = none := by
  unfold firstSep
  rw [List.find?_range_eq_none]
  intro j hj
  by_cases h : a ≤ j
  · have e : decide (sepAt l j) = false := decide_eq_false (hb j h)
    rw [e, Bool.and_false]; rfl
  · simp [h]
def lookL (l : List UInt8) (off : Int) : ByteArray × Int :=
  if off < 0 ∨ (l.length : Int) ≤ off then (ByteArray.empty, 81)
  else match firstSep l off.toNat with
    | none => (ByteArray.empty, 81)
    | some i => if validL ((l.drop off.toNat).take (i - off.toNat)) = true then (strL ((l.drop off.toNat).take (i - off.toNat)), 0) else (ByteArray.empty, 80)

/-- without the bytes 0 at the end -/
def trimZ (l : List UInt8) : List UInt8 := Lib.trimRightB l 0
def inlineL (l : List UInt8) (n : Int) : ByteArray × ByteArray × Int :=
  if n < 0 ∨ (l.length : Int) < n then (ByteArray.empty, ByteArray.empty, 80)
  else if validL (trimZ (l.take n.toNat)) = true then (strL (trimZ (l.take n.toNat)), strL (l.drop n.toNat), 0) else (ByteArray.empty, ByteArray.empty, 80)
def kindI (s : Int) : Int := if s = 6 ∨ s = 7 ∨ s = 8 then 2 else 0
end Go.Proofs.YtmlnnbinbbmmhaaDoor
