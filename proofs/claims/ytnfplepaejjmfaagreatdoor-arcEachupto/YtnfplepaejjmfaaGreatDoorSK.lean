
-- A store into a part of a row: the world behind it is told by its row alone.
import Derived.Test.YtnfplepaejjmfaaGreatDoorP2
import Derived.Laws.CopyRow
import Derived.Laws.Tables
namespace Go.Proofs.YtnfplepaejjmfaaGreatDoor
open Go.ChangeShapes Go.WideShapes Go.ChangeAt Go.RowKit
set_option linter.unusedVariables false
set_option maxRecDepth 100000

theorem Kq.row (w : World) (g : Nat) (cs : Array Value) : Kq g w (w.setRow g cs) :=
  ⟨rfl, rfl, rfl, by rw [setRow_size]; exact Nat.le_refl _, fun j h _ => setRow_other w g j cs h⟩
/-- the row with some cells from off on -/
def putAt (old : Array Value) (off : Nat) (v : Array Value) : Array Value := (old.toList.take off ++ v.toList ++ old.toList.drop (off + v.size)).toArray
theorem wpList_store_kq {P : Program} {ops : Array Oper} {rest : List Oper} {o : Oper} {a : Act} {w : World} {Q : Exit → Act → World → Prop} (hgd : o.guard = none) (ty : TypeId) (x y : Operand) (ho : o.op = .store ty x y)
    (g off : Nat) (v : Value) (hx : a.eval x = .pointer (some ⟨g, off, none⟩)) (hy : a.eval y = v)
    (t : TypeId) (old new : Array Value) (hg : w.heap[g]? = some (.cells old t (0, 0))) (hi : (P.info? ty).map (·.size) = some v.cells.size)
    (hfit : Nat.ble (off + v.cells.size) old.size = true) (h1 : v.cells.toList.all (·.oneCell') = true) (hnew : putAt old off v.cells = new)
    (h : ∀ W : World, W.heap[g]? = some (.cells new t (0, 0)) → Kq g w W → wpList P ops Q rest (a.put o.dst undef) W) : wpList P ops Q (o :: rest) a w := by
  subst hy
  have hst : (storeVar ty ⟨g, off, none⟩ (a.eval y)).run P w = .ok () (w.setRow g new) := by
    have := run_storeCells_at (P := P) g off t (a.eval y).cells.toList 0 old w hg (by simpa using Nat.le_of_ble_eq_true hfit) (fun v hv => (List.all_eq_true.1 h1) v hv)
    cases hq : P.info? ty with
    | none => simp [hq] at hi
    | some i =>
      have hs : (a.eval y).cells.size = i.size := by simp [hq] at hi; omega
      simp only [Nat.add_zero, Array.length_toList] at this
      unfold putAt at hnew
      rw [hnew] at this
      simp [storeVar, sizeOf, typeInfo, hq, hs, this]
  refine wpList_plain hgd fun _ hK => ?_
  unfold Oper.wp execOp
  simp only [ho, hx, Instr.storeAt, Instr.sureAddr, Sem.run_bind, Sem.run_pure, Result.andThen_ok, hst]
  exact hK _ _ (h _ (setRow_heap w g old new t (0, 0) hg) (Kq.row w g new))
theorem Kq.keeps {k j : Nat} {w W : World} {o : Obj} (h : Kq k w W) (hj : j ≠ k) (ho : w.heap[j]? = some o) : W.heap[j]? = some o := (h.block j hj (Array.getElem?_eq_some_iff.1 ho).1).trans ho
/-- what a block held is held still -/
theorem Kq.belowN {k n : Nat} {a w W : World} (h : Kq k w W) (hb : Below n a w) (hk : n ≤ k) (hn : n ≤ a.heap.size) : Below n a W := hb.trans (h.below hk (Nat.le_trans hn hb.size))
end Go.Proofs.YtnfplepaejjmfaaGreatDoor
