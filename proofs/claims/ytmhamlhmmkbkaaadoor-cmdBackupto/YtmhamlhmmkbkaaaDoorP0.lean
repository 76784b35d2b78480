
-- Plain: what a command line means, and the line of a command.
import Derived.Test.YtmhamlhmmkbkaaaDoorQuote
namespace Go.Proofs.YtmhamlhmmkbkaaaDoor
set_option linter.unusedVariables false
set_option maxRecDepth 100000
set_option linter.unusedSimpArgs false
def byL (s : ByteArray) : List UInt8 := s.data.toList
def byB (l : List UInt8) : ByteArray := ⟨l.toArray⟩
theorem byL_byB (l : List UInt8) : byL (byB l) = l := by simp [byL, byB]
theorem byB_byL (s : ByteArray) : byB (byL s) = s := by apply ByteArray.ext; simp [byL, byB]
theorem byL_size (s : ByteArray) : (byL s).length = s.size := by simp [byL]
/-- a word's letters -/
def letL (l : List UInt8) : List (List UInt8) := (runsL l).map fun t => t.take (wid t)
theorem letL_nil : letL [] = [] := rfl
theorem letL_cons (l : List UInt8) (h : l ≠ []) : letL l = l.take (wid l) :: letL (l.drop (wid l)) := by
  unfold letL; rw [runsL_cons l h, List.map_cons]
/-- what was read of the key words -/
structure Rd where
  op : UInt8
  vb : Bool
  up : Bool
  qu : Bool
  det : Bool
  dat : Bool
  bare : Bool
  thin : Bool
  kind : Int
  po : UInt8
  s : Bool
def rd0 : Rd := ⟨0, false, false, false, false, false, false, false, 0, 0, false⟩
def isOp (b : UInt8) : Bool := b == 100 || b == 109 || b == 112 || b == 113 || b == 114 || b == 116 || b == 120
def isPo (b : UInt8) : Bool := b == 97 || b == 98 || b == 105
def stB (r : Rd) (b : UInt8) : Sum Int Rd :=
  if isOp b then (if r.op = 0 then .inr { r with op := b } else .inl 152)
  else if isPo b then (if r.po = 0 then .inr { r with po := b } else .inl 155)
  else if b = 99 then .inr { r with qu := true }
  else if b = 68 then .inr { r with det := true }
  else if b = 111 then .inr { r with dat := true }
  else if b = 83 then .inr { r with bare := true }
  else if b = 84 then .inr { r with thin := true }
  else if b = 117 then .inr { r with up := true }
  else if b = 118 then .inr { r with vb := true }
  else if b = 115 then .inr { r with s := true }
  else if b = 108 then .inr r
  else .inl 153
def stL (r : Rd) : List UInt8 → Sum Int Rd
  | [b] => stB r b
  | _ => .inl 153
def foldR : Rd → List (List UInt8) → Sum (List UInt8 × Int) Rd
  | r, [] => .inr r
  | r, x :: xs => match stL r x with
    | .inl e => .inl (x, e)
    | .inr r' => foldR r' xs
/-- a command -/
structure Cm where
  prog : Int
  op : UInt8
  vb : Bool
  up : Bool
  qu : Bool
  det : Bool
  dat : Bool
  bare : Bool
  thin : Bool
  kind : Int
  wh : Int
  anc : ByteArray
  arc : ByteArray
  nms : List ByteArray
def cm0 : Cm := ⟨0, 0, false, false, false, false, false, false, false, 0, 0, ⟨#[]⟩, ⟨#[]⟩, []⟩
def whOf (p : UInt8) : Int := if p = 0 then 0 else if p = 97 then 1 else 2
def cmOf (r : Rd) (a : ByteArray) : Cm := ⟨0, r.op, r.vb, r.up, r.qu, r.det, r.dat, r.bare, r.thin, r.kind, whOf r.po, a, ⟨#[]⟩, []⟩
abbrev Ans := Sum (ByteArray × Int) Cm
def restC (c : Cm) : List ByteArray → Ans
  | [] => .inl (⟨#[]⟩, 156)
  | a :: t => .inr { c with arc := a, nms := t }
def dsh (w : ByteArray) : Bool := match byL w with
  | 45 :: _ :: _ => true
  | _ => false
def isLong (w : ByteArray) : Bool := match byL w with
  | 45 :: 45 :: _ => true
  | _ => false
def wAr : ByteArray := ⟨#[97, 114]⟩
def wRan : ByteArray := ⟨#[114, 97, 110, 108, 105, 98]⟩
def wGnu : ByteArray := ⟨#[45, 45, 102, 111, 114, 109, 97, 116, 61, 103, 110, 117]⟩
def wBsd : ByteArray := ⟨#[45, 45, 102, 111, 114, 109, 97, 116, 61, 98, 115, 100]⟩
def wThin : ByteArray := ⟨#[45, 45, 116, 104, 105, 110]⟩
def wD : ByteArray := ⟨#[45, 68]⟩
def optW (r : Rd) (w : ByteArray) : Option Rd :=
  if w = wGnu then some { r with kind := 0 } else if w = wBsd then some { r with kind := 2 } else if w = wThin then some { r with thin := true } else none
def optR : Rd → List ByteArray → Sum ByteArray (Rd × List ByteArray)
  | r, [] => .inr (r, [])
  | r, w :: t => if isLong w then (match optW r w with
      | some r' => optR r' t
      | none => .inl w) else .inr (r, w :: t)
def und (w : ByteArray) : List UInt8 := match byL w with
  | 45 :: t => t
  | l => l
def fin (r : Rd) : Rd := if r.op = 0 ∧ r.s = true then { r with op := 115 } else r
/-- the letters of the words that begin with a '-' -/
def dashL (t : List ByteArray) : List (List UInt8) := (t.takeWhile dsh).flatMap fun w => letL ((byL w).drop 1)
def keyR (r : Rd) : List ByteArray → Sum (ByteArray × Int) (Rd × List ByteArray)
  | [] => .inl (⟨#[]⟩, 151)
  | k :: t => match foldR r (letL (und k) ++ dashL t) with
    | .inl (x, e) => .inl (byB x, e)
    | .inr r1 => if (fin r1).op = 0 then .inl (⟨#[]⟩, 151) else .inr (fin r1, t.dropWhile dsh)
def mixL (op : UInt8) (wh : Int) (up det thin : Bool) (kind : Int) (dat qu bare : Bool) (p : List UInt8) : List UInt8 :=
  if wh ≠ 0 ∧ ¬ (op = 109 ∨ op = 114) then p
  else if up = true ∧ op ≠ 114 then [117]
  else if up = true ∧ det = true then [117]
  else if thin = true ∧ ¬ (op = 114 ∨ op = 113) then [84]
  else if thin = true ∧ kind = 2 then [84]
  else if dat = true ∧ op ≠ 120 then [111]
  else if qu = true ∧ ¬ (op = 114 ∨ op = 113) then [99]
  else if bare = true ∧ ¬ (op = 100 ∨ op = 109 ∨ op = 113 ∨ op = 114) then [83]
  else []
def poL (p : UInt8) : List UInt8 := if p = 0 then [] else [p]
def mixR (r : Rd) : List UInt8 := mixL r.op (whOf r.po) r.up r.det r.thin r.kind r.dat r.qu r.bare (poL r.po)
def lastC (r : Rd) (t : List ByteArray) : Ans :=
  if r.po = 0 then restC (cmOf r ⟨#[]⟩) t else match t with
    | [] => .inl (⟨#[]⟩, 157)
    | a :: t => restC (cmOf r a) t
def arC (t : List ByteArray) : Ans := match optR rd0 t with
  | .inl w => .inl (w, 154)
  | .inr (r, t1) => match keyR r t1 with
    | .inl x => .inl x
    | .inr (r2, t2) => if mixR r2 = [] then lastC r2 t2 else .inl (byB (mixR r2), 155)
def ranF : Bool → List (List UInt8) → Sum (List UInt8) Bool
  | d, [] => .inr d
  | d, x :: xs => if x = [68] then ranF true xs else .inl x
def cmRan (d : Bool) : Cm := { cm0 with prog := 1, op := 115, det := d }
def ranC (t : List ByteArray) : Ans := match ranF false (dashL t) with
  | .inl x => .inl (byB x, 153)
  | .inr d => restC (cmRan d) (t.dropWhile dsh)
def decC : List ByteArray → Ans
  | [] => .inl (⟨#[]⟩, 150)
  | p :: t => if p = wRan then ranC t else if p = wAr then arC t else .inl (p, 150)
def mixC (c : Cm) : List UInt8 := mixL c.op c.wh c.up c.det c.thin c.kind c.dat c.qu c.bare [97]
def known (b : UInt8) : Bool := isOp b || b == 115
def refC (c : Cm) : Int :=
  if c.prog ≠ 0 ∧ c.prog ≠ 1 then 150
  else if known c.op = false ∨ (c.prog = 1 ∧ c.op ≠ 115) then 151
  else if (c.kind ≠ 0 ∧ c.kind ≠ 2) ∨ c.wh < 0 ∨ 2 < c.wh then 155
  else if c.prog = 1 ∧ (c.vb = true ∨ c.up = true ∨ c.qu = true ∨ c.dat = true ∨ c.bare = true ∨ c.thin = true ∨ c.kind = 2 ∨ c.wh ≠ 0) then 155
  else if mixC c ≠ [] then 155
  else if c.wh = 0 ∧ c.anc ≠ ⟨#[]⟩ then 157
  else if c.wh ≠ 0 ∧ dsh c.anc = true then 157
  else if c.wh = 0 ∧ dsh c.arc = true then 156
  else 0
def flagL (b : Bool) (x : UInt8) : List UInt8 := if b then [x] else []
def keyL (c : Cm) : List UInt8 := c.op :: ((if c.wh = 1 then [97] else []) ++ ((if c.wh = 2 then [98] else []) ++ (flagL c.qu 99 ++ (flagL c.det 68 ++ (flagL c.dat 111 ++ (flagL c.bare 83 ++ (flagL c.thin 84 ++ (flagL c.up 117 ++ flagL c.vb 118))))))))
def lineW (c : Cm) : List ByteArray :=
  if c.prog = 1 then wRan :: ((if c.det then [wD] else []) ++ c.arc :: c.nms)
  else wAr :: ((if c.kind = 2 then [wBsd] else []) ++ byB (keyL c) :: ((if c.wh = 0 then [] else [c.anc]) ++ c.arc :: c.nms))
end Go.Proofs.YtmhamlhmmkbkaaaDoor
