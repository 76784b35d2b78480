
-- Plain mathematics: an index read.
import Derived.Test.YtegjklllnegghaaGreatDoorI0
import Derived.Test.YtegjklllnegghaaGreatDoorN0
namespace Go.Proofs.YtegjklllnegghaaGreatDoor
set_option linter.unusedVariables false
set_option maxRecDepth 100000

structure En where
  name : ByteArray
  pl : Int
def strL (l : List UInt8) : ByteArray := ⟨l.toArray⟩
theorem strL_of (b : ByteArray) : strL b.data.toList = b := by apply ByteArray.ext; simp [strL]
theorem strL_data (l : List UInt8) : (strL l).data.toList = l := by simp [strL]
theorem strL_size (l : List UInt8) : (strL l).size = l.length := rfl
/-- the numbers -/
def beW (b : List UInt8) (p w : Nat) : Nat := beNat ((b.drop p).take w)
def leW (b : List UInt8) (p w : Nat) : Nat := leNat ((b.drop p).take w)
/-- the first byte 0 from p on -/
def zAt (b : List UInt8) (p : Nat) : Option Nat := (List.range b.length).find? (fun j => decide (p ≤ j) && decide (b[j]? = some 0))
theorem zAt_at (b : List UInt8) (p i : Nat) (ha : p ≤ i) (hi : b[i]? = some 0) (hb : ∀ j, p ≤ j → j < i → b[j]? ≠ some 0) : zAt b p = some i := by
  have hl : i < b.length := (List.getElem?_eq_some_iff.1 hi).1
  unfold zAt
  rw [List.find?_range_eq_some]
  refine ⟨by simp [ha, hi], by simpa using hl, fun j hj => ?_⟩
  by_cases h : p ≤ j
  · rw [decide_eq_false (hb j h hj), Bool.and_false]; rfl
  · simp [h]
theorem zAt_no (b : List UInt8) (p : Nat) (hb : ∀ j, p ≤ j → b[j]? ≠ some 0) : zAt b p = none := by
  unfold zAt
  rw [List.find?_range_eq_none]
  intro j hj
  by_cases h : p ≤ j
  · rw [decide_eq_false (hb j h), Bool.and_false]; rfl
  · simp [h]
theorem zAt_some {b : List UInt8} {p e : Nat} (h : zAt b p = some e) : p ≤ e ∧ e < b.length ∧ b[e]? = some 0 ∧ ∀ j, p ≤ j → j < e → b[j]? ≠ some 0 := by
  unfold zAt at h
  rw [List.find?_range_eq_some] at h
  obtain ⟨h1, h2, h3⟩ := h
  simp at h1 h2
  refine ⟨h1.1, h2, by simpa using h1.2, fun j hj hje => ?_⟩
  have := h3 j hje
  simp [hj] at this
  simpa using this
theorem zAt_none {b : List UInt8} {p : Nat} (h : zAt b p = none) (j : Nat) (hj : p ≤ j) : b[j]? ≠ some 0 := by
  unfold zAt at h
  rw [List.find?_range_eq_none] at h
  intro hz
  have hl : j < b.length := (List.getElem?_eq_some_iff.1 hz).1
  have := h j hl
  simp [hj, hz] at this
/-- the end of the name that begins at p, if there is one -/
def nmE (b : List UInt8) (p : Nat) : Option Nat := (zAt b p).bind (fun e => if p < e then some e else none)
def nmS (b : List UInt8) (p : Nat) : ByteArray := strL ((b.drop p).take ((nmE b p).getD 0 - p))
def mostI : Nat := 9223372036854775807
/-- where the names go on behind k entries of a row -/
def rowP (b : List UInt8) (w n : Nat) : Nat → Option Nat
  | 0 => some (w + w * n)
  | k + 1 => (rowP b w n k).bind (fun p => (nmE b p).bind (fun e => if beW b (w + w * k) w ≤ mostI then some (e + 1) else none))
def enR (b : List UInt8) (w n k : Nat) : En := ⟨nmS b ((rowP b w n k).getD 0), (beW b (w + w * k) w : Nat)⟩
def rowL (b : List UInt8) (w n : Nat) : List En := (List.range n).map (enR b w n)
def zerosB (b : List UInt8) (p : Nat) : Bool := (b.drop p).all (fun c => c == 0)
theorem zerosB_iff (b : List UInt8) (p : Nat) : zerosB b p = true ↔ ∀ j c, p ≤ j → b[j]? = some c → c = 0 := by
  unfold zerosB
  rw [List.all_eq_true]
  constructor
  · intro h j c hj hc
    have := h c (List.mem_of_getElem? (i := j - p) (by rw [List.getElem?_drop, show p + (j - p) = j by omega]; exact hc))
    simpa using this
  · intro h c hc
    obtain ⟨i, hi, e⟩ := List.mem_iff_getElem.1 hc
    have : b[p + i]? = some c := by rw [← List.getElem?_drop, List.getElem?_eq_getElem hi, e]
    simpa using h (p + i) c (by omega) this
def rowA (b : List UInt8) (w : Nat) : Option (List En) :=
  if b.length < w then none
  else if (b.length - w) / w < beW b 0 w then none
  else (rowP b w (beW b 0 w) (beW b 0 w)).bind (fun p => if zerosB b p = true then some (rowL b w (beW b 0 w)) else none)
/-- pairs -/
def bsN (b : List UInt8) : Nat := leW b 0 4
def bsK (b : List UInt8) : Nat := leW b (4 + bsN b) 4
def bsS (b : List UInt8) : List UInt8 := (b.drop (8 + bsN b)).take (bsK b)
def bsOk (b : List UInt8) (i : Nat) : Bool := (nmE (bsS b) (leW b (4 + 8 * i) 4)).isSome
def bsAll (b : List UInt8) : Bool := (List.range (bsN b / 8)).all (bsOk b)
theorem bsAll_iff (b : List UInt8) : bsAll b = true ↔ ∀ i, i < bsN b / 8 → bsOk b i = true := by
  unfold bsAll; rw [List.all_eq_true]; simp
def enB (b : List UInt8) (i : Nat) : En := ⟨nmS (bsS b) (leW b (4 + 8 * i) 4), (leW b (8 + 8 * i) 4 : Nat)⟩
def bsdA (b : List UInt8) : Option (List En) :=
  if b.length < 4 ∨ ¬ bsN b % 8 = 0 ∨ b.length < 8 + bsN b ∨ b.length < 8 + bsN b + bsK b then none
  else if bsAll b = true then some ((List.range (bsN b / 8)).map (enB b)) else none
def decA (f : Int) (b : List UInt8) : Option (List En) := if f = 1 then rowA b 4 else if f = 2 then rowA b 8 else if f = 3 then bsdA b else none
def decE (f : Int) (b : List UInt8) : Int := if ¬ known f then 101 else if (decA f b).isSome = true then 0 else 110
def decL (f : Int) (b : List UInt8) : List En := (decA f b).getD []
end Go.Proofs.YtegjklllnegghaaGreatDoor
