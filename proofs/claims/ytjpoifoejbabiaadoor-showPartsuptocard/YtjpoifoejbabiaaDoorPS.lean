
-- Plain: what is told.
import Derived.Test.YtjpoifoejbabiaaDoorF5
import Derived.Test.YtjpoifoejbabiaaDoorE0
import Derived.Test.YtjpoifoejbabiaaDoorA1
namespace Go.Proofs.YtjpoifoejbabiaaDoor
open Go.RowKit
set_option linter.unusedVariables false
set_option maxRecDepth 100000
set_option linter.unusedSimpArgs false
/-- an event: a byte and a name -/
structure Ew where
  c : UInt8
  n : ByteArray
def ewL (x : Ew) : List Value := [.int .u8 (x.c.toNat : Int), .string x.n]
theorem ewL_len (x : Ew) : (ewL x).length = 2 := rfl
theorem ewL_one : ∀ x, ∀ u ∈ ewL x, u.oneCell' = true := by
  intro x u hu
  simp only [ewL, List.mem_cons, List.not_mem_nil, or_false] at hu
  rcases hu with rfl | rfl <;> rfl
abbrev RowW := RowG ewL
theorem RowG.ew {w : World} {v : Value} {L : List Ew} {k : Nat} {x : Ew} (h : RowW w v L) (hx : L[k]? = some x) : ∃ b off cap, v = .slice (some ⟨b, off, none⟩) L.length cap ∧ w.cell? ⟨b, off + k * 2, none⟩ = some (.int .u8 (x.c.toNat : Int)) ∧ w.cell? ⟨b, off + k * 2 + 1, none⟩ = some (.string x.n) := by
  obtain ⟨b, off, cap, e, _, _, hc⟩ := RowG.at ewL_len h hx
  exact ⟨b, off, cap, e, hc 0 _ rfl, hc 1 _ rfl⟩
def inI (n : Int) : Prop := -9223372036854775808 ≤ n ∧ n ≤ 9223372036854775807
def okM (m : Mx) : Prop := inI m.d ∧ inI m.u ∧ inI m.g ∧ inI m.m ∧ inI m.s
/-- a name as it is told -/
def QL (s : ByteArray) : List UInt8 := quoteL (lsq s)
theorem lsq_size (s : ByteArray) : (lsq s).length = s.size := lsq_len s
theorem QL_len (s : ByteArray) : (QL s).length ≤ 4 * s.size + 2 := by
  have := quoteL_length (lsq s)
  rw [lsq_size] at this
  exact this
theorem lsq_strB (l : List UInt8) : lsq (strB l) = l := by unfold lsq strB; simp
theorem strB_size (l : List UInt8) : (strB l).size = l.length := by simp [strB, ByteArray.size]
theorem strB_app (a b : List UInt8) : strB a ++ strB b = strB (a ++ b) := by
  apply ByteArray.ext
  simp [strB]
def evtL (e : Ew) : List UInt8 := if e.c = 117 then [] else e.c :: 32 :: 45 :: 32 :: (QL e.n ++ [10])
def prtL (vb : Bool) (m : Mx) : List UInt8 := (if vb then 10 :: 60 :: (QL m.n ++ [62, 10, 10]) else []) ++ lsq m.dt
def evtsL (L : List Ew) : List UInt8 := L.flatMap evtL
def prtsL (vb : Bool) (L : List Mx) : List UInt8 := L.flatMap (prtL vb)
def msgL (p : Int) (q : ByteArray) (c : Int) : List UInt8 := (if p = 1 then [114, 97, 110, 108, 105, 98, 58, 32] else [97, 114, 58, 32]) ++ ((if q.size = 0 then [] else QL q ++ [58, 32]) ++ (lsq (errW c) ++ [10]))
def totE (L : List Ew) : Nat := (L.map (fun e => e.n.size)).sum
def totM (L : List Mx) : Nat := (L.map (fun m => m.n.size + m.dt.size)).sum
theorem evtL_len (e : Ew) : (evtL e).length ≤ 4 * e.n.size + 7 := by
  unfold evtL
  have := QL_len e.n
  split <;> simp <;> omega
theorem prtL_len (vb : Bool) (m : Mx) : (prtL vb m).length ≤ 4 * (m.n.size + m.dt.size) + 7 := by
  unfold prtL
  have := QL_len m.n
  have := lsq_size m.dt
  cases vb <;> simp <;> omega
theorem evts_len (L : List Ew) : (evtsL L).length ≤ 4 * totE L + 7 * L.length := by
  unfold evtsL totE
  induction L with
  | nil => simp
  | cons e r ih => have := evtL_len e; simp only [List.flatMap_cons, List.length_append, List.map_cons, List.sum_cons, List.length_cons]; omega
theorem prts_len (vb : Bool) (L : List Mx) : (prtsL vb L).length ≤ 4 * totM L + 7 * L.length := by
  unfold prtsL totM
  induction L with
  | nil => simp
  | cons e r ih => have := prtL_len vb e; simp only [List.flatMap_cons, List.length_append, List.map_cons, List.sum_cons, List.length_cons]; omega
theorem totE_at {L : List Ew} {k : Nat} {x : Ew} (h : L[k]? = some x) : totE (L.take k) + x.n.size + totE (L.drop (k + 1)) = totE L := by
  have hl := (List.getElem?_eq_some_iff.1 h).1
  have e : L = L.take k ++ (x :: L.drop (k + 1)) := by
    have h1 := List.take_append_drop k L
    rw [List.drop_eq_getElem_cons hl, (List.getElem?_eq_some_iff.1 h).2] at h1; exact h1.symm
  unfold totE
  conv => rhs; rw [e]
  rw [List.map_append, List.map_cons, List.sum_append_nat, List.sum_cons]; omega
theorem totM_at {L : List Mx} {k : Nat} {x : Mx} (h : L[k]? = some x) : totM (L.take k) + (x.n.size + x.dt.size) + totM (L.drop (k + 1)) = totM L := by
  have hl := (List.getElem?_eq_some_iff.1 h).1
  have e : L = L.take k ++ (x :: L.drop (k + 1)) := by
    have h1 := List.take_append_drop k L
    rw [List.drop_eq_getElem_cons hl, (List.getElem?_eq_some_iff.1 h).2] at h1; exact h1.symm
  unfold totM
  conv => rhs; rw [e]
  rw [List.map_append, List.map_cons, List.sum_append_nat, List.sum_cons]; omega
theorem evts_take {L : List Ew} {k : Nat} {x : Ew} (h : L[k]? = some x) : evtsL (L.take (k + 1)) = evtsL (L.take k) ++ evtL x := by
  unfold evtsL; rw [takeSucc h, List.flatMap_append]; simp
theorem prts_take {vb : Bool} {L : List Mx} {k : Nat} {x : Mx} (h : L[k]? = some x) : prtsL vb (L.take (k + 1)) = prtsL vb (L.take k) ++ prtL vb x := by
  unfold prtsL; rw [takeSucc h, List.flatMap_append]; simp
/-- a row of bytes of one's own -/
def OB (B : Nat) (w : World) (v : Value) (l : List UInt8) : Prop := w.ownsRow B 5 1 v l.length (Lib.byteCells l)
theorem OB.on {B : Nat} {w w' : World} {v : Value} {l : List UInt8} (h : OB B w v l) (hb : Below w.heap.size w w') : OB B w' v l := ownG_on h hb
theorem ab_str {w w' : World} {B : Nat} {v v' : Value} {l : List UInt8} {s : ByteArray} (w0 : World) (hown : OB B w v l) (hb : Below B w0 w) (hB : B ≤ w.heap.size)
    (hown' : w'.ownsRow B 5 1 v' (l.length + s.size) (Lib.byteCells l ++ Lib.strCells s)) (hg : w.grownBy w' v.ownBlock) : OB B w' v' (l ++ lsq s) ∧ Below B w0 w' := by
  have := app_str (q := lsq s) w0 hown hb hB (by rw [strB_lsq]; exact hown') hg
  exact this
theorem ab_byte {w w' : World} {B : Nat} {v v' : Value} {l : List UInt8} {c : UInt8} {o : Obj} (w0 : World) (hown : OB B w v l) (hb : Below B w0 w) (hB : B ≤ w.heap.size)
    (hown' : w'.ownsRow B 5 1 v' (l.length + 1) (Lib.byteCells l ++ [.int .u8 (c.toNat : Int)])) (hg : (w.alloc o).grownBy w' v.ownBlock) : OB B w' v' (l ++ [c]) ∧ Below B w0 w' := by
  refine ⟨?_, ?_⟩
  · unfold OB; rw [Lib.byteCells_append, List.length_append]; exact hown'
  · exact (hb.alloc hB o).grown hg (by rw [World.size_alloc]; omega) (fun k hk => (World.ownsRow.lt hown k hk).1)
end Go.Proofs.YtjpoifoejbabiaaDoor
