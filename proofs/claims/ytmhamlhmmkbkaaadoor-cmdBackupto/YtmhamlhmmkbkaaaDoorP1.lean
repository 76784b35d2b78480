
-- Plain: the letters one by one; the line of a command is read back.
import Derived.Test.YtmhamlhmmkbkaaaDoorP0
namespace Go.Proofs.YtmhamlhmmkbkaaaDoor
set_option linter.unusedVariables false
set_option maxRecDepth 100000
set_option linter.unusedSimpArgs false
theorem letL_small (l : List UInt8) (h : ∀ c ∈ l, c.toNat < 128) : letL l = l.map fun c => [c] := by
  induction l with
  | nil => rfl
  | cons c r ih =>
    have h1 : runLen (c :: r) = 1 := head_small (c :: r) (by simp) (by simpa using h c (by simp))
    have h2 : wid (c :: r) = 1 := by rw [wid_of h1]; rfl
    rw [letL_cons (c :: r) (by simp), h2, List.map_cons]
    simp only [List.take_succ_cons, List.take_zero, List.drop_succ_cons, List.drop_zero]
    rw [ih (fun c hc => h c (by simp [hc]))]
/-- the letters as bytes -/
def foldB : Rd → List UInt8 → Sum (UInt8 × Int) Rd
  | r, [] => .inr r
  | r, x :: xs => match stB r x with
    | .inl e => .inl (x, e)
    | .inr r' => foldB r' xs
theorem foldR_no {r : Rd} {x : List UInt8} {e : Int} (t : List (List UInt8)) (h : stL r x = .inl e) : foldR r (x :: t) = .inl (x, e) := by
  show (match stL r x with | .inl e => Sum.inl (x, e) | .inr r' => foldR r' t) = _
  rw [h]
theorem foldR_yes {r r' : Rd} {x : List UInt8} (t : List (List UInt8)) (h : stL r x = .inr r') : foldR r (x :: t) = foldR r' t := by
  show (match stL r x with | .inl e => Sum.inl (x, e) | .inr r' => foldR r' t) = _
  rw [h]
theorem foldB_no {r : Rd} {x : UInt8} {e : Int} (t : List UInt8) (h : stB r x = .inl e) : foldB r (x :: t) = .inl (x, e) := by
  show (match stB r x with | .inl e => Sum.inl (x, e) | .inr r' => foldB r' t) = _
  rw [h]
theorem foldB_yes {r r' : Rd} {x : UInt8} (t : List UInt8) (h : stB r x = .inr r') : foldB r (x :: t) = foldB r' t := by
  show (match stB r x with | .inl e => Sum.inl (x, e) | .inr r' => foldB r' t) = _
  rw [h]
/-- one letter a byte -/
def sgl (a : Sum (UInt8 × Int) Rd) : Sum (List UInt8 × Int) Rd := match a with
  | .inl (x, e) => .inl ([x], e)
  | .inr r => .inr r
theorem foldR_map (l : List UInt8) : ∀ r, foldR r (l.map fun c => [c]) = sgl (foldB r l) := by
  induction l with
  | nil => intro r; rfl
  | cons c t ih =>
    intro r
    rw [List.map_cons]
    have e : stL r [c] = stB r c := rfl
    cases hs : stB r c with
    | inl n => rw [foldR_no _ (e.trans hs), foldB_no _ hs]; rfl
    | inr r' => rw [foldR_yes _ (e.trans hs), foldB_yes _ hs]; exact ih r'
theorem foldR_inl {a b : List (List UInt8)} : ∀ {r : Rd} {x : List UInt8 × Int}, foldR r a = .inl x → foldR r (a ++ b) = .inl x := by
  induction a with
  | nil => intro r x h; cases h
  | cons c t ih =>
    intro r x h
    cases hs : stL r c with
    | inl n => rw [foldR_no _ hs] at h; rw [List.cons_append, foldR_no _ hs]; exact h
    | inr r' => rw [foldR_yes _ hs] at h; rw [List.cons_append, foldR_yes _ hs]; exact ih h
theorem foldR_inr {a b : List (List UInt8)} : ∀ {r r' : Rd}, foldR r a = .inr r' → foldR r (a ++ b) = foldR r' b := by
  induction a with
  | nil => intro r x h; cases h; rfl
  | cons c t ih =>
    intro r x h
    cases hs : stL r c with
    | inl n => rw [foldR_no _ hs] at h; cases h
    | inr r' => rw [foldR_yes _ hs] at h; rw [List.cons_append, foldR_yes _ hs]; exact ih h
/-- the flags -/
def setF (r : Rd) (x : UInt8) : Rd :=
  if x = 99 then { r with qu := true } else if x = 68 then { r with det := true } else if x = 111 then { r with dat := true } else if x = 83 then { r with bare := true } else if x = 84 then { r with thin := true } else if x = 117 then { r with up := true } else { r with vb := true }
def isFl (x : UInt8) : Bool := x == 99 || x == 68 || x == 111 || x == 83 || x == 84 || x == 117 || x == 118
theorem isFl_ways {x : UInt8} (h : isFl x = true) : x = 99 ∨ x = 68 ∨ x = 111 ∨ x = 83 ∨ x = 84 ∨ x = 117 ∨ x = 118 := by
  unfold isFl at h
  simp only [Bool.or_eq_true, beq_iff_eq, or_assoc] at h
  exact h
theorem isOp_ways {x : UInt8} (h : isOp x = true) : x = 100 ∨ x = 109 ∨ x = 112 ∨ x = 113 ∨ x = 114 ∨ x = 116 ∨ x = 120 := by
  unfold isOp at h
  simp only [Bool.or_eq_true, beq_iff_eq, or_assoc] at h
  exact h
theorem isPo_ways {x : UInt8} (h : isPo x = true) : x = 97 ∨ x = 98 ∨ x = 105 := by
  unfold isPo at h
  simp only [Bool.or_eq_true, beq_iff_eq, or_assoc] at h
  exact h
theorem stB_fl (r : Rd) {x : UInt8} (h : isFl x = true) : stB r x = .inr (setF r x) := by
  rcases isFl_ways h with rfl | rfl | rfl | rfl | rfl | rfl | rfl <;> rfl
theorem stB_op (r : Rd) {x : UInt8} (h : isOp x = true) (h0 : r.op = 0) : stB r x = .inr { r with op := x } := by
  unfold stB; rw [if_pos h, if_pos h0]
theorem stB_s (r : Rd) : stB r 115 = .inr { r with s := true } := rfl
theorem stB_po (r : Rd) {x : UInt8} (h : isPo x = true) (h0 : r.po = 0) : stB r x = .inr { r with po := x } := by
  rcases isPo_ways h with rfl | rfl | rfl <;> (unfold stB; rw [if_neg (by decide), if_pos (by decide), if_pos h0])
theorem foldB_flag (r : Rd) (b : Bool) (x : UInt8) (h : isFl x = true) (t : List UInt8) : foldB r (flagL b x ++ t) = foldB (if b then setF r x else r) t := by
  cases b with
  | false => rfl
  | true =>
    show foldB r (x :: t) = _
    rw [foldB_yes t (stB_fl r h)]
    rfl
end Go.Proofs.YtmhamlhmmkbkaaaDoor
