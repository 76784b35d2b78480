
-- Rows of one's own whose elements have z cells each: written over, cut off, grown.
import Derived.Test.YtmlnnbinbbmmhaaDoorProg
import Derived.KernelRfl
import Derived.WalkKit
import Derived.ProofKit
import Derived.Below
import Derived.OwnWalk
import Derived.ArgAppend
import Derived.Laws.CopyRow
import Derived.Laws.Tables
import Derived.Laws.AppendOwn
import Derived.Laws.NewBlocks
import Derived.Maps.AppendAt
import Derived.Deep.MidRow
namespace Go.Proofs.YtmlnnbinbbmmhaaDoor
open Go.ChangeShapes Go.WideShapes Go.ChangeAt Go.RowKit
set_option linter.unusedVariables false
set_option maxRecDepth 100000
def putG (old : Array Value) (off : Nat) (v : Array Value) : Array Value := (old.toList.take off ++ v.toList ++ old.toList.drop (off + v.size)).toArray
theorem putG_size (old : Array Value) (off : Nat) (v : Array Value) (h : off + v.size ≤ old.size) : (putG old off v).size = old.size := by
  unfold putG; simp; omega
section
variable {α : Type} (c : α → List Value) (z : Nat) (hc : ∀ x, (c x).length = z)
theorem flatG_len (hc : ∀ x, (c x).length = z) (l : List α) : (l.flatMap c).length = l.length * z := by
  induction l with
  | nil => simp
  | cons x r ih => rw [List.flatMap_cons, List.length_append, ih, hc, List.length_cons, Nat.add_mul, Nat.one_mul, Nat.add_comm]
theorem flatG_take (hc : ∀ x, (c x).length = z) (l : List α) : ∀ k, (l.flatMap c).take (k * z) = (l.take k).flatMap c := by
  induction l with
  | nil => intro k; simp
  | cons x r ih =>
    intro k
    cases k with
    | zero => simp
    | succ k =>
      rw [List.flatMap_cons, List.take_succ_cons, List.flatMap_cons, ← ih k, Nat.add_mul, Nat.one_mul, Nat.add_comm, List.take_append, hc, List.take_of_length_le (by rw [hc]; omega), Nat.add_sub_cancel_left]
theorem flatG_drop (hc : ∀ x, (c x).length = z) (l : List α) : ∀ k, (l.flatMap c).drop (k * z) = (l.drop k).flatMap c := by
  induction l with
  | nil => intro k; simp
  | cons x r ih =>
    intro k
    cases k with
    | zero => simp
    | succ k =>
      rw [List.flatMap_cons, List.drop_succ_cons, ← ih k, Nat.add_mul, Nat.one_mul, Nat.add_comm, List.drop_append, hc, List.drop_eq_nil_of_le (by rw [hc]; omega), Nat.add_sub_cancel_left, List.nil_append]
theorem flatG_put (hc : ∀ x, (c x).length = z) {L : List α} {k n cap : Nat} {cur : Array Value} (x : α) (hk : k < n) (h3 : n ≤ cap) (h5 : cur.size = cap * z) (h6 : cur.toList.take (n * z) = L.flatMap c) (h7 : L.length = n) :
    (putG cur (k * z) (c x).toArray).toList.take (n * z) = (L.set k x).flatMap c ∧ (putG cur (k * z) (c x).toArray).size = cap * z := by
  have hkz : k * z + z ≤ n * z := by
    have : (k + 1) * z ≤ n * z := Nat.mul_le_mul_right z hk
    rw [Nat.add_mul, Nat.one_mul] at this; exact this
  have hnz : n * z ≤ cap * z := Nat.mul_le_mul_right z h3
  have hs : (c x).toArray.size = z := by rw [List.size_toArray, hc]
  refine ⟨?_, by rw [putG_size _ _ _ (by rw [hs]; omega), h5]⟩
  have e1 : cur.toList.take (k * z) = (L.take k).flatMap c := by
    rw [← flatG_take c z hc, ← h6, List.take_take, Nat.min_eq_left (by omega)]
  have e2 : (cur.toList.drop (k * z + z)).take (n * z - (k * z + z)) = (L.drop (k + 1)).flatMap c := by
    rw [← flatG_drop c z hc, ← h6, Nat.add_mul, Nat.one_mul, List.drop_take]
  have hl : (cur.toList.take (k * z)).length = k * z := by rw [List.length_take, Array.length_toList]; omega
  have hL : (cur.toList.take (k * z) ++ c x).length = k * z + z := by rw [List.length_append, hl, hc]
  have key : (cur.toList.take (k * z) ++ c x ++ cur.toList.drop (k * z + z)).take (n * z) = cur.toList.take (k * z) ++ c x ++ (cur.toList.drop (k * z + z)).take (n * z - (k * z + z)) := by
    rw [List.take_append, hL, List.take_of_length_le (l := cur.toList.take (k * z) ++ c x) (by rw [hL]; omega)]
  have e0 : (putG cur (k * z) (c x).toArray).toList = cur.toList.take (k * z) ++ c x ++ cur.toList.drop (k * z + z) := by
    unfold putG; rw [hs]
  rw [e0, key, e1, e2]
  rw [List.set_eq_take_append_cons_drop, if_pos (by omega), List.flatMap_append, List.flatMap_cons, List.append_assoc]
theorem ownG_cur {w : World} {B g cap n e : Nat} {L : List α} (hz : 0 < z) (hc : ∀ x, (c x).length = z) (h : w.ownsRow B e z (.slice (some ⟨g, 0, none⟩) n cap) n (L.flatMap c)) : ∃ cur : Array Value, w.heap[g]? = some (.cells cur e (0, 0)) ∧ B ≤ g ∧ n ≤ cap ∧ cap ≤ maxLen ∧ cur.size = cap * z ∧ cur.toList.take (n * z) = L.flatMap c ∧ L.length = n := by
  have hl : L.length = n := by
    have := h.1; rw [flatG_len c z hc] at this
    exact Nat.eq_of_mul_eq_mul_right hz this
  rcases h.2 with ⟨h', _⟩ | ⟨g', cap', cur, h', hb, hg, hnc, hcm, hcs, htake⟩
  · simp at h'
  · simp only [Value.slice.injEq, Option.some.injEq, Addr.mk.injEq, and_true, true_and] at h'
    obtain ⟨rfl, rfl⟩ := h'
    exact ⟨cur, hg, hb, hnc, hcm, hcs, htake, hl⟩
theorem ownG_of {w : World} {B g cap n e : Nat} {L : List α} {cur : Array Value} (hc : ∀ x, (c x).length = z) (h1 : w.heap[g]? = some (.cells cur e (0, 0))) (h2 : B ≤ g) (h3 : n ≤ cap) (h4 : cap ≤ maxLen) (h5 : cur.size = cap * z) (h6 : cur.toList.take (n * z) = L.flatMap c) (h7 : L.length = n) : w.ownsRow B e z (.slice (some ⟨g, 0, none⟩) n cap) n (L.flatMap c) :=
  ⟨by rw [flatG_len c z hc, h7], .inr ⟨g, cap, cur, rfl, h2, h1, h3, h4, h5, h6⟩⟩
theorem ownG_put {W : World} {B g cap n k e : Nat} {L : List α} {cur : Array Value} (hc : ∀ x, (c x).length = z) (x : α) (hk : k < n) (h2 : B ≤ g) (h3 : n ≤ cap) (h4 : cap ≤ maxLen) (h5 : cur.size = cap * z) (h6 : cur.toList.take (n * z) = L.flatMap c) (h7 : L.length = n) (hW : W.heap[g]? = some (.cells (putG cur (k * z) (c x).toArray) e (0, 0))) : W.ownsRow B e z (.slice (some ⟨g, 0, none⟩) n cap) n ((L.set k x).flatMap c) := by
  obtain ⟨p1, p2⟩ := flatG_put c z hc x hk h3 h5 h6 h7
  exact ownG_of c z hc hW h2 h3 h4 p2 p1 (by rw [List.length_set]; exact h7)
theorem ownG_prefix {w : World} {B g cap m n e : Nat} {l : List α} (hz : 0 < z) (hc : ∀ x, (c x).length = z) (h : w.ownsRow B e z (.slice (some ⟨g, 0, none⟩) m cap) m (l.flatMap c)) (hn : n ≤ m) : w.ownsRow B e z (.slice (some ⟨g, 0, none⟩) n cap) n ((l.take n).flatMap c) := by
  obtain ⟨cur, h1, h2, h3, h4, h5, h6, h7⟩ := ownG_cur c z hz hc h
  refine ownG_of c z hc h1 h2 (by omega) h4 h5 ?_ (by rw [List.length_take]; omega)
  rw [← flatG_take c z hc, ← h6, List.take_take, Nat.min_eq_left (Nat.mul_le_mul_right z hn)]
theorem ownG_form {w : World} {B e : Nat} {v : Value} {n : Nat} {xs : List Value} (h : w.ownsRow B e z v n xs) : ∃ ao cap, v = .slice ao n cap ∧ n ≤ cap ∧ cap ≤ maxLen ∧ (ao = none → n = 0 ∧ cap = 0) ∧ (∀ a, ao = some a → ∃ g, a = ⟨g, 0, none⟩ ∧ B ≤ g ∧ g < w.heap.size) := by
  rcases h.2 with ⟨rfl, rfl⟩ | ⟨g, cap, cur, rfl, hb, hg, hnc, hcm, _⟩
  · exact ⟨none, 0, rfl, Nat.le_refl _, by decide, fun _ => ⟨rfl, rfl⟩, (fun a h => by cases h)⟩
  · exact ⟨_, cap, rfl, hnc, hcm, (fun h => by cases h), (fun a h => ⟨g, by cases h; rfl, hb, (Array.getElem?_eq_some_iff.1 hg).1⟩)⟩
end
theorem ownG_le {B B' : Nat} {w : World} {e : TypeId} {s k : Nat} {v : Value} {xs : List Value} (h : w.ownsRow B' e s v k xs) (hb : B ≤ B') : w.ownsRow B e s v k xs := by
  refine ⟨h.1, ?_⟩
  rcases h.2 with h2 | ⟨g, cap, cur, q1, q2, q⟩
  · exact .inl h2
  · exact .inr ⟨g, cap, cur, q1, Nat.le_trans hb q2, q⟩
theorem ownG_on {n₀ : Nat} {W W' : World} {e : TypeId} {size k : Nat} {v : Value} {xs : List Value} (h : W.ownsRow n₀ e size v k xs) (hb : Below W.heap.size W W') : W'.ownsRow n₀ e size v k xs := by
  refine ⟨h.1, ?_⟩
  rcases h.2 with q | ⟨g, cap, cur, q1, q2, q3, q4⟩
  · exact .inl q
  · exact .inr ⟨g, cap, cur, q1, q2, (hb.block g (Array.getElem?_eq_some_iff.1 q3).1).trans q3, q4⟩
theorem grownG_trans {a b c : World} {r : Option Nat} (h : a.grownBy b r) (k : b.grownBy c r) : a.grownBy c r :=
  ⟨k.os.trans h.os, k.tape.trans h.tape, k.output.trans h.output, Nat.le_trans h.size k.size, fun i hi hn => (k.block i (Nat.lt_of_lt_of_le hi h.size) hn).trans (h.block i hi hn)⟩
theorem grownG_new {a b c : World} {r r' : Option Nat} (h : a.grownBy b r) (k : b.grownBy c r') (hn : ∀ i, r' = some i → a.heap.size ≤ i) : a.grownBy c r :=
  ⟨k.os.trans h.os, k.tape.trans h.tape, k.output.trans h.output, Nat.le_trans h.size k.size, fun i hi hne => (k.block i (Nat.lt_of_lt_of_le hi h.size) (fun e => by have := hn i e.symm; omega)).trans (h.block i hi hne)⟩
theorem grownG_below {a b : World} (h : Below a.heap.size a b) : a.grownBy b none := ⟨h.os, h.tape, h.output, h.size, fun k hk _ => h.block k hk⟩
/-- a store of a whole element into a row -/
theorem wpList_store_row_G {P : Program} {ops : Array Oper} {rest : List Oper} {o : Oper} {a : Act} {w : World} {Q : Exit → Act → World → Prop} (hgd : o.guard = none) (hd : o.dst = none) (ty : TypeId) (x y : Operand) (ho : o.op = .store ty x y)
    (g off : Nat) (v : Value) (hx : a.eval x = .pointer (some ⟨g, off, none⟩)) (hy : a.eval y = v)
    (t : TypeId) (old new : Array Value) (hg : w.heap[g]? = some (.cells old t (0, 0))) (hi : (P.info? ty).map (·.size) = some v.cells.size)
    (hfit : Nat.ble (off + v.cells.size) old.size = true) (h1 : v.cells.toList.all (·.oneCell') = true) (hnew : putG old off v.cells = new)
    (h : ∀ W : World, W.heap[g]? = some (.cells new t (0, 0)) → w.grownBy W (some g) → wpList P ops Q rest a W) : wpList P ops Q (o :: rest) a w := by
  subst hy
  have hst : (storeVar ty ⟨g, off, none⟩ (a.eval y)).run P w = .ok () (w.setRow g new) := by
    have := run_storeCells_at (P := P) g off t (a.eval y).cells.toList 0 old w hg (by simpa using Nat.le_of_ble_eq_true hfit) (fun v hv => (List.all_eq_true.1 h1) v hv)
    cases hq : P.info? ty with
    | none => simp [hq] at hi
    | some i =>
      have hs : (a.eval y).cells.size = i.size := by simp [hq] at hi; omega
      simp only [Nat.add_zero, Array.length_toList] at this
      unfold putG at hnew
      rw [hnew] at this
      simp [storeVar, sizeOf, typeInfo, hq, hs, this]
  refine wpList_plain hgd fun _ hK => ?_
  unfold Oper.wp execOp
  simp only [ho, hx, Instr.storeAt, Instr.sureAddr, Sem.run_bind, Sem.run_pure, Result.andThen_ok, hst]
  refine hK _ _ ?_
  rw [hd]
  exact h _ (setRow_heap w g old new t (0, 0) hg) ⟨rfl, rfl, rfl, by rw [setRow_size]; exact Nat.le_refl _, fun k _ hn => setRow_other w g k new (fun e => hn (by rw [e]))⟩
end Go.Proofs.YtmlnnbinbbmmhaaDoor
