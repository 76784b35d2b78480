
-- Lists of entries that are written over, grow, and are looked at.
import Derived.Test.YtcmldlcdgmmafaaDoorCC
import Derived.ArgAppend
import Derived.OwnWalk
import Derived.WalkSmall
namespace Go.Proofs.YtcmldlcdgmmafaaDoor
open Go.ChangeShapes Go.WideShapes Go.ChangeAt Go.RowKit
set_option linter.unusedVariables false
set_option maxRecDepth 100000
def mkS : ByteArray := ⟨#[109, 97, 114, 107]⟩
def agS : ByteArray := ⟨#[97, 103, 97, 105, 110]⟩
/-- Each of a list is the mark. -/
def Mks (k : Int) (l : List En) : Prop := ∀ (j : Nat) (x : En), l[j]? = some x → (x.name = mkS ∨ x.name = agS) ∧ x.pl = k
theorem Mks.set {k : Int} {l : List En} (h : Mks k l) (i : Nat) (x : En) (hx : (x.name = mkS ∨ x.name = agS) ∧ x.pl = k) : Mks k (l.set i x) := by
  intro j y hy
  rw [List.getElem?_set] at hy
  split at hy
  · split at hy
    · injection hy with hy; rw [← hy]; exact hx
    · cases hy
  · exact h j y hy
theorem Mks.snoc {k : Int} {l : List En} (h : Mks k l) (x : En) (hx : (x.name = mkS ∨ x.name = agS) ∧ x.pl = k) : Mks k (l ++ [x]) := by
  intro j y hy
  by_cases e : j < l.length
  · rw [List.getElem?_append_left e] at hy; exact h j y hy
  · rw [List.getElem?_append_right (by omega)] at hy
    by_cases e2 : j - l.length = 0
    · rw [e2] at hy; injection hy with hy; rw [← hy]; exact hx
    · rw [List.getElem?_eq_none (by simp; omega)] at hy; cases hy
theorem cellsE_cons (x : En) (l : List En) : cellsE (x :: l) = .string x.name :: .int .i64 x.pl :: cellsE l := rfl
theorem cellsE_ext {xs : List Value} {l : List En} (hl : xs.length = l.length * 2) (h : ∀ j x, l[j]? = some x → xs[2 * j]? = some (.string x.name) ∧ xs[2 * j + 1]? = some (.int .i64 x.pl)) : xs = cellsE l := by
  apply List.ext_getElem?
  intro j
  by_cases hj : j < l.length * 2
  · obtain ⟨i, hi⟩ : ∃ i, j = 2 * i ∨ j = 2 * i + 1 := ⟨j / 2, by omega⟩
    have hin : i < l.length := by omega
    obtain ⟨a1, a2⟩ := h i _ (List.getElem?_eq_getElem hin)
    obtain ⟨b1, b2⟩ := cellsE_get l i _ (List.getElem?_eq_getElem hin)
    rcases hi with rfl | rfl
    · rw [a1, b1]
    · rw [a2, b2]
  · rw [List.getElem?_eq_none (by omega), List.getElem?_eq_none (by rw [cellsE_len]; omega)]
theorem own_cur {w : World} {B g cap n : Nat} {L : List En} (h : w.ownsRow B 64 2 (.slice (some ⟨g, 0, none⟩) n cap) n (cellsE L)) : ∃ cur : Array Value, w.heap[g]? = some (.cells cur 64 (0, 0)) ∧ B ≤ g ∧ n ≤ cap ∧ cap ≤ maxLen ∧ cur.size = cap * 2 ∧ cur.toList.take (n * 2) = cellsE L ∧ L.length = n := by
  have hl : L.length = n := by have := h.1; rw [cellsE_len] at this; omega
  rcases h.2 with ⟨h', _⟩ | ⟨g', cap', cur, h', hb, hg, hnc, hcm, hcs, htake⟩
  · simp at h'
  · simp only [Value.slice.injEq, Option.some.injEq, Addr.mk.injEq, and_true, true_and] at h'
    obtain ⟨rfl, rfl⟩ := h'
    exact ⟨cur, hg, hb, hnc, hcm, hcs, htake, hl⟩
theorem own_of_cur {w : World} {B g cap n : Nat} {L : List En} {cur : Array Value} (h1 : w.heap[g]? = some (.cells cur 64 (0, 0))) (h2 : B ≤ g) (h3 : n ≤ cap) (h4 : cap ≤ maxLen) (h5 : cur.size = cap * 2) (h6 : cur.toList.take (n * 2) = cellsE L) (h7 : L.length = n) : w.ownsRow B 64 2 (.slice (some ⟨g, 0, none⟩) n cap) n (cellsE L) :=
  ⟨by rw [cellsE_len, h7], .inr ⟨g, cap, cur, rfl, h2, h1, h3, h4, h5, h6⟩⟩
theorem putE {L : List En} {k n cap : Nat} {cur : Array Value} (x : En) (hk : k < n) (h3 : n ≤ cap) (h5 : cur.size = cap * 2) (h6 : cur.toList.take (n * 2) = cellsE L) (h7 : L.length = n) : (putAt cur (2 * k) #[.string x.name, .int .i64 x.pl]).toList.take (n * 2) = cellsE (L.set k x) ∧ (putAt cur (2 * k) #[.string x.name, .int .i64 x.pl]).size = cap * 2 := by
  have hs : (putAt cur (2 * k) #[.string x.name, .int .i64 x.pl]).size = cap * 2 := (putAt_two_size cur (2 * k) _ _ (by omega)).trans h5
  refine ⟨cellsE_ext ?_ fun j y hy => ?_, hs⟩
  · rw [List.length_take, Array.length_toList, hs, List.length_set, h7]; omega
  · have hj : j < n := by have := (List.getElem?_eq_some_iff.1 hy).1; rw [List.length_set] at this; omega
    rw [List.getElem?_take_of_lt (by omega), List.getElem?_take_of_lt (by omega), Array.getElem?_toList, Array.getElem?_toList, putAt_two cur (2 * k) _ _ (by omega), putAt_two cur (2 * k) _ _ (by omega)]
    rw [List.getElem?_set] at hy
    by_cases e : k = j
    · subst e
      rw [if_pos rfl, if_pos (by omega)] at hy
      injection hy with hy
      subst hy
      rw [if_pos rfl, if_neg (by omega), if_pos rfl]; exact ⟨rfl, rfl⟩
    · rw [if_neg e] at hy
      rw [if_neg (by omega), if_neg (by omega), if_neg (by omega), if_neg (by omega)]
      obtain ⟨b1, b2⟩ := cellsE_get L j y hy
      rw [← h6, List.getElem?_take_of_lt (by omega), Array.getElem?_toList] at b1 b2
      exact ⟨b1, b2⟩
theorem Kq.grown {g : Nat} {w W : World} (h : Kq g w W) : w.grownBy W (some g) := ⟨h.os, h.tape, h.output, h.size, fun k hk hn => h.block k (fun e => hn (by rw [e])) hk⟩
theorem grown_trans {a b c : World} {r : Option Nat} (h : a.grownBy b r) (k : b.grownBy c r) : a.grownBy c r :=
  ⟨k.os.trans h.os, k.tape.trans h.tape, k.output.trans h.output, Nat.le_trans h.size k.size, fun i hi hn => (k.block i (Nat.lt_of_lt_of_le hi h.size) hn).trans (h.block i hi hn)⟩
theorem grown_new {a b c : World} {r r' : Option Nat} (h : a.grownBy b r) (k : b.grownBy c r') (hn : ∀ i, r' = some i → a.heap.size ≤ i) : a.grownBy c r :=
  ⟨k.os.trans h.os, k.tape.trans h.tape, k.output.trans h.output, Nat.le_trans h.size k.size, fun i hi hne => (k.block i (Nat.lt_of_lt_of_le hi h.size) (fun e => by have := hn i e.symm; omega)).trans (h.block i hi hne)⟩
theorem own_formE {w : World} {B : Nat} {v : Value} {n : Nat} {xs : List Value} (h : w.ownsRow B 64 2 v n xs) : ∃ ao cap, v = .slice ao n cap ∧ n ≤ cap ∧ cap ≤ maxLen ∧ (ao = none → n = 0 ∧ cap = 0) ∧ (∀ a, ao = some a → ∃ g, a = ⟨g, 0, none⟩ ∧ B ≤ g ∧ g < w.heap.size) := by
  rcases h.2 with ⟨rfl, rfl⟩ | ⟨g, cap, cur, rfl, hb, hg, hnc, hcm, _⟩
  · exact ⟨none, 0, rfl, Nat.le_refl _, by decide, fun _ => ⟨rfl, rfl⟩, (fun a h => by cases h)⟩
  · exact ⟨_, cap, rfl, hnc, hcm, (fun h => by cases h), (fun a h => ⟨g, by cases h; rfl, hb, (Array.getElem?_eq_some_iff.1 hg).1⟩)⟩
theorem own_prefixE {w : World} {B g cap m n : Nat} {l : List En} (h : w.ownsRow B 64 2 (.slice (some ⟨g, 0, none⟩) m cap) m (cellsE l)) (hn : n ≤ m) : w.ownsRow B 64 2 (.slice (some ⟨g, 0, none⟩) n cap) n (cellsE (l.take n)) := by
  obtain ⟨cur, h1, h2, h3, h4, h5, h6, h7⟩ := own_cur h
  refine own_of_cur h1 h2 (by omega) h4 h5 ?_ (by rw [List.length_take]; omega)
  have e : cellsE (l.take n) = (cellsE l).take (n * 2) := by
    symm
    refine cellsE_ext (by rw [List.length_take, cellsE_len, List.length_take]; omega) fun j x hx => ?_
    have hj : j < n := by have := (List.getElem?_eq_some_iff.1 hx).1; rw [List.length_take] at this; omega
    rw [List.getElem?_take_of_lt hj] at hx
    rw [List.getElem?_take_of_lt (by omega), List.getElem?_take_of_lt (by omega)]
    exact cellsE_get l j x hx
  rw [e, ← h6, List.take_take, Nat.min_eq_left (by omega)]
theorem ent_new (w : World) (x : En) : ∀ j u, [Value.string x.name, .int .i64 x.pl][j]? = some u → (w.alloc (.cells #[.string x.name, .int .i64 x.pl] 64)).cell? (Addr.add ⟨w.heap.size, 0, none⟩ j) = some u := new_rowK w _ _ _ rfl
theorem ent_one (x : En) : ∀ u ∈ [Value.string x.name, .int .i64 x.pl], u.oneCell' = true := by
  intro u hu; simp at hu; rcases hu with rfl | rfl <;> rfl
theorem cellsE_snoc1 (l : List En) (x : En) : cellsE l ++ [.string x.name, .int .i64 x.pl] = cellsE (l ++ [x]) := by rw [cellsE_append]; rfl
def MarkedE (k : Int) (B : Nat) (v : Value) (n : Nat) (w w' : World) (e : Ending) : Prop :=
  e = .returned (.tuple #[]) ∧ ∃ l', l'.length = n ∧ Mks k l' ∧ w'.ownsRow B 64 2 v n (cellsE l') ∧ w.grownBy w' v.ownBlock
/-- one of a list is written over -/
theorem own_put {W : World} {B g cap n k : Nat} {L : List En} {cur : Array Value} (x : En) (hk : k < n) (h2 : B ≤ g) (h3 : n ≤ cap) (h4 : cap ≤ maxLen) (h5 : cur.size = cap * 2) (h6 : cur.toList.take (n * 2) = cellsE L) (h7 : L.length = n) (hW : W.heap[g]? = some (.cells (putAt cur (2 * k) #[.string x.name, .int .i64 x.pl]) 64 (0, 0))) : W.ownsRow B 64 2 (.slice (some ⟨g, 0, none⟩) n cap) n (cellsE (L.set k x)) := by
  obtain ⟨p1, p2⟩ := putE x hk h3 h5 h6 h7
  exact own_of_cur hW h2 h3 h4 p2 p1 (by rw [List.length_set]; exact h7)
end Go.Proofs.YtcmldlcdgmmafaaDoor
