
-- Plain: tokens, lines, command lines, commands.
import Derived.Test.YtdamhdceajmdfaaDoorP0
namespace Go.Proofs.YtdamhdceajmdfaaDoor
open Go.ChangeShapes Go.WideShapes Go.ChangeAt Go.RowKit
set_option linter.unusedVariables false
set_option maxRecDepth 100000
set_option linter.unusedSimpArgs false
def sepB (b : UInt8) : Bool := b == 32 || b == 9 || b == 13 || b == 44
def parB (b : UInt8) : Bool := b == 40 || b == 41
def remB (b : UInt8) : Bool := b == 42 || b == 59
def plainB (b : UInt8) : Bool := !(sepB b || parB b || remB b)
def flushW (w : List UInt8) : List ByteArray := if w = [] then [] else [byB w]
def tokG : List UInt8 → List UInt8 → List ByteArray
  | w, [] => flushW w
  | w, b :: r => if remB b then flushW w else if sepB b then flushW w ++ tokG [] r else if parB b then flushW w ++ byB [b] :: tokG [] r else tokG (w ++ [b]) r
def tokL (l : List UInt8) : List ByteArray := tokG [] l
theorem tokG_rem (w : List UInt8) (b : UInt8) (r : List UInt8) (h : remB b = true) : tokG w (b :: r) = flushW w := by rw [tokG, if_pos h]
theorem tokG_sep (w : List UInt8) (b : UInt8) (r : List UInt8) (h : remB b = false) (h2 : sepB b = true) : tokG w (b :: r) = flushW w ++ tokG [] r := by rw [tokG, if_neg (by simp [h]), if_pos h2]
theorem tokG_par (w : List UInt8) (b : UInt8) (r : List UInt8) (h : remB b = false) (h2 : sepB b = false) (h3 : parB b = true) : tokG w (b :: r) = flushW w ++ byB [b] :: tokG [] r := by rw [tokG, if_neg (by simp [h]), if_neg (by simp [h2]), if_pos h3]
theorem tokG_one (w : List UInt8) (b : UInt8) (r : List UInt8) (h : plainB b = true) : tokG w (b :: r) = tokG (w ++ [b]) r := by
  unfold plainB at h
  simp only [Bool.not_eq_true', Bool.or_eq_false_iff] at h
  rw [tokG, if_neg (by simp [h.2]), if_neg (by simp [h.1.1]), if_neg (by simp [h.1.2])]
theorem tokG_all (x : List UInt8) : ∀ (w r : List UInt8), (∀ b ∈ x, plainB b = true) → tokG w (x ++ r) = tokG (w ++ x) r := by
  induction x with
  | nil => intro w r _; simp
  | cons b t ih =>
    intro w r h
    rw [List.cons_append, tokG_one w b (t ++ r) (h b (by simp)), ih (w ++ [b]) r (fun c hc => h c (by simp [hc])), List.append_assoc]; rfl
/-- sizes of tokens -/
theorem tokG_size (l : List UInt8) : ∀ w, sumS (tokG w l) ≤ 2 * (w.length + l.length) := by
  have hf : ∀ w : List UInt8, sumS (flushW w) ≤ 2 * w.length := by
    intro w
    unfold flushW
    split
    · simp [sumS]
    · next h => rw [sumS_cons]; simp only [byB_size, sumS, List.map_nil, List.sum_nil]; have := List.length_pos_iff.2 h; omega
  have ha : ∀ a b : List ByteArray, sumS (a ++ b) = sumS a + sumS b := by intro a b; simp [sumS]
  induction l with
  | nil => intro w; rw [tokG]; have := hf w; simp only [List.length_nil]; omega
  | cons b r ih =>
    intro w
    rw [tokG]
    have h1 := hf w
    simp only [List.length_cons]
    split
    · omega
    · split
      · rw [ha]; have := ih []; simp only [List.length_nil] at this; omega
      · split
        · rw [ha, sumS_cons, byB_size]; have := ih []; simp only [List.length_nil, List.length_cons] at this ⊢; omega
        · have := ih (w ++ [b]); rw [List.length_append] at this; simp only [List.length_cons, List.length_nil] at this; omega
/-- lines -/
def lnG : List UInt8 → List UInt8 → List (List UInt8)
  | c, [] => if c = [] then [] else [c]
  | c, b :: r => if b = 10 then c :: lnG [] r else lnG (c ++ [b]) r
def linesL (l : List UInt8) : List (List UInt8) := lnG [] l
/-- command lines: the tokens of a line, and of those that it is continued by -/
def isPlus (m : List ByteArray) : Bool := m.getLast? == some (byB [43])
def cutP (m : List ByteArray) : List ByteArray := if isPlus m then m.dropLast else m
def stepC (s : List (Nat × List ByteArray) × Bool × Nat) (m : List ByteArray) : List (Nat × List ByteArray) × Bool × Nat :=
  let L := if s.2.1 then s.1 else s.1 ++ [(s.2.2 + 1, [])]
  (L.modify (L.length - 1) (fun x => (x.1, x.2 ++ cutP m)), isPlus m, s.2.2 + 1)
def groups (T : List (List ByteArray)) : List (Nat × List ByteArray) := (T.foldl stepC ([], false, 0)).1
/-- verbs -/
def capB (b : UInt8) : UInt8 := if 97 ≤ b ∧ b ≤ 122 then b - 97 + 65 else b
def verbN (t : ByteArray) : Nat := ((List.range 14).find? fun v => wordL.getD v [] == (byL t).map capB).getD 0
def isBr (t : ByteArray) : Bool := t == byB [40] || t == byB [41]
def wordsA (t : List ByteArray) : Option (List ByteArray) := if t.any isBr then none else some t
def namesA (t : List ByteArray) (k : Nat) : Option (List ByteArray) :=
  if k = 1 ∧ t ≠ [] then wordsA t
  else if k = 2 ∧ 1 < t.length ∧ t.head? = some (byB [40]) ∧ t.getLast? = some (byB [41]) then wordsA t.tail.dropLast
  else if k ≠ 1 ∧ t = [] then some [] else none
def cmdA (t : List ByteArray) : Sum Int Mr := match t with
  | [] => .inl 190
  | x :: r =>
    let v := verbN x
    if v = 0 then .inl 190
    else if namedV v then (match r with
      | [] => .inl 192
      | y :: q => if isBr y then .inl 192 else match namesA q (kindV v) with
        | none => .inl 192
        | some ns => .inr ⟨v, y, ns⟩)
    else match namesA r (kindV v) with
      | none => .inl 192
      | some ns => .inr ⟨v, ⟨#[]⟩, ns⟩
def decG : List (Nat × List ByteArray) → List Mr → List Mr × Nat × Int
  | [], acc => (acc, 0, 0)
  | (n, t) :: r, acc => if t = [] then decG r acc else match cmdA t with
    | .inl e => ([], n, e)
    | .inr c => decG r (acc ++ [c])
def decT (l : List UInt8) : List Mr × Nat × Int := decG (groups ((linesL l).map tokL)) []
end Go.Proofs.YtdamhdceajmdfaaDoor
