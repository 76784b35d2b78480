
-- Plain: the member of a name that has k such members ahead of it; what Select finds.
import Derived.KernelRfl
namespace Go.Proofs.Ytaaagdmhokgcjaa
set_option linter.unusedVariables false
set_option maxRecDepth 100000
/-- the number of the member of this name that has k such ones ahead -/
def nthO : List ByteArray → ByteArray → Nat → Option Nat
  | [], _, _ => none
  | x :: r, q, k => if x = q then (match k with | 0 => some 0 | k + 1 => (nthO r q k).map (· + 1)) else (nthO r q k).map (· + 1)
def nthI (N : List ByteArray) (q : ByteArray) (k : Nat) : Int := match nthO N q k with | some j => (j : Int) | none => -1
theorem nthI_some {N : List ByteArray} {q : ByteArray} {k j : Nat} (h : nthO N q k = some j) : nthI N q k = (j : Int) := by unfold nthI; rw [h]
theorem nthI_none {N : List ByteArray} {q : ByteArray} {k : Nat} (h : nthO N q k = none) : nthI N q k = -1 := by unfold nthI; rw [h]
theorem nthO_hit {x q : ByteArray} {r : List ByteArray} (h : x = q) : nthO (x :: r) q 0 = some 0 := by unfold nthO; rw [if_pos h]
theorem nthO_pass {x q : ByteArray} {r : List ByteArray} {k : Nat} (h : x = q) : nthO (x :: r) q (k + 1) = (nthO r q k).map (· + 1) := by rw [nthO, if_pos h]
theorem nthO_miss {x q : ByteArray} {r : List ByteArray} {k : Nat} (h : x ≠ q) : nthO (x :: r) q k = (nthO r q k).map (· + 1) := by rw [nthO.eq_def]; exact if_neg h
theorem dropCons {α : Type} {L : List α} {k : Nat} {x : α} (h : L[k]? = some x) : L.drop k = x :: L.drop (k + 1) := by
  obtain ⟨hk, e⟩ := List.getElem?_eq_some_iff.1 h
  rw [List.drop_eq_getElem_cons hk, e]
theorem mapAdd (o : Option Nat) (i : Nat) : (o.map (· + 1)).map (· + i) = o.map (· + (i + 1)) := by
  cases o with
  | none => rfl
  | some j => simp; omega
theorem nthO_lt {N : List ByteArray} : ∀ {q : ByteArray} {k j : Nat}, nthO N q k = some j → j < N.length ∧ N[j]? = some q := by
  induction N with
  | nil => intro q k j h; simp [nthO] at h
  | cons x r ih =>
    intro q k j h
    by_cases hx : x = q
    · cases k with
      | zero => rw [nthO_hit hx] at h; injection h with h; subst h; simp [hx]
      | succ k =>
        rw [nthO_pass hx] at h
        obtain ⟨i, hi, rfl⟩ := Option.map_eq_some_iff.1 h
        obtain ⟨h1, h2⟩ := ih hi
        exact ⟨by simp; omega, by simpa using h2⟩
    · rw [nthO_miss hx] at h
      obtain ⟨i, hi, rfl⟩ := Option.map_eq_some_iff.1 h
      obtain ⟨h1, h2⟩ := ih hi
      exact ⟨by simp; omega, by simpa using h2⟩
/-- the next one of a name stands behind -/
theorem nthO_next {N : List ByteArray} : ∀ {q : ByteArray} {k j : Nat}, nthO N q k = some j → nthO N q (k + 1) = (nthO (N.drop (j + 1)) q 0).map (· + (j + 1)) := by
  induction N with
  | nil => intro q k j h; simp [nthO] at h
  | cons x r ih =>
    intro q k j h
    by_cases hx : x = q
    · cases k with
      | zero => rw [nthO_hit hx] at h; injection h with h; subst h; rw [nthO_pass hx]; simp
      | succ k =>
        rw [nthO_pass hx] at h
        obtain ⟨i, hi, rfl⟩ := Option.map_eq_some_iff.1 h
        rw [nthO_pass hx, ih hi, List.drop_succ_cons, Option.map_map]
        rfl
    · rw [nthO_miss hx] at h
      obtain ⟨i, hi, rfl⟩ := Option.map_eq_some_iff.1 h
      rw [nthO_miss hx, ih hi, List.drop_succ_cons, Option.map_map]
      rfl
theorem nthO_none_next {N : List ByteArray} : ∀ {q : ByteArray} {k : Nat}, nthO N q k = none → nthO N q (k + 1) = none := by
  induction N with
  | nil => intro q k h; rfl
  | cons x r ih =>
    intro q k h
    by_cases hx : x = q
    · cases k with
      | zero => rw [nthO_hit hx] at h; cases h
      | succ k =>
        rw [nthO_pass hx] at h ⊢
        rw [Option.map_eq_none_iff] at h ⊢
        exact ih h
    · rw [nthO_miss hx] at h ⊢
      rw [Option.map_eq_none_iff] at h ⊢
      exact ih h
/-- how often a name stands in a list -/
def cnt (l : List ByteArray) (q : ByteArray) : Nat := l.countP (fun x => decide (x = q))
theorem cnt_nil (q : ByteArray) : cnt [] q = 0 := rfl
theorem cnt_snoc (l : List ByteArray) (x q : ByteArray) : cnt (l ++ [x]) q = cnt l q + (if x = q then 1 else 0) := by
  unfold cnt; rw [List.countP_append, List.countP_cons, List.countP_nil]; by_cases h : x = q <;> simp [h]
theorem cnt_le (l : List ByteArray) (q : ByteArray) : cnt l q ≤ l.length := List.countP_le_length
theorem takeSnoc {α : Type} {L : List α} {k : Nat} {x : α} (h : L[k]? = some x) : L.take (k + 1) = L.take k ++ [x] := by
  rw [List.take_add_one, h]; rfl
/-- what is taken for the name of number i -/
def selAt (N Q : List ByteArray) (i : Nat) : Option Nat := match Q[i]? with | some q => nthO N q (cnt (Q.take i) q) | none => none
def fnd (N Q : List ByteArray) (k : Nat) : List Int := (List.range k).filterMap (fun i => (selAt N Q i).map Int.ofNat)
def mis (N Q : List ByteArray) (k : Nat) : List ByteArray := (List.range k).filterMap (fun i => match selAt N Q i with | some _ => none | none => Q[i]?)
theorem sel_some {N Q : List ByteArray} {k j : Nat} {q : ByteArray} (hq : Q[k]? = some q) (h : nthO N q (cnt (Q.take k) q) = some j) : fnd N Q (k + 1) = fnd N Q k ++ [(j : Int)] ∧ mis N Q (k + 1) = mis N Q k := by
  have hs : selAt N Q k = some j := by unfold selAt; rw [hq]; exact h
  unfold fnd mis
  rw [List.range_succ, List.filterMap_append, List.filterMap_append]
  simp [hs]
theorem sel_none {N Q : List ByteArray} {k : Nat} {q : ByteArray} (hq : Q[k]? = some q) (h : nthO N q (cnt (Q.take k) q) = none) : fnd N Q (k + 1) = fnd N Q k ∧ mis N Q (k + 1) = mis N Q k ++ [q] := by
  have hs : selAt N Q k = none := by unfold selAt; rw [hq]; exact h
  unfold fnd mis
  rw [List.range_succ, List.filterMap_append, List.filterMap_append]
  simp [hs, hq]
theorem fnd_len (N Q : List ByteArray) (k : Nat) : (fnd N Q k).length ≤ k := by
  unfold fnd
  have := List.length_filterMap_le (fun i => (selAt N Q i).map Int.ofNat) (List.range k)
  simpa using this
theorem mis_len (N Q : List ByteArray) (k : Nat) : (mis N Q k).length ≤ k := by
  unfold mis
  have := List.length_filterMap_le (fun i => match selAt N Q i with | some _ => none | none => Q[i]?) (List.range k)
  simpa using this
/-- where the landed map leads, the first k names being done with -/
def leadF (N Q : List ByteArray) (k : Nat) : ByteArray → Option Int := fun n => (nthO N n 0).map (fun _ => nthI N n (cnt (Q.take k) n))
/-- the map while the list is gone through from behind -/
def fromF (N : List ByteArray) (k : Nat) : ByteArray → Option Int := fun n => (nthO (N.drop k) n 0).map (fun j => ((j + k : Nat) : Int))
def nextI (N : List ByteArray) (j : Nat) : Int := match N[j]? with | some q => (match nthO (N.drop (j + 1)) q 0 with | some i => ((i + (j + 1) : Nat) : Int) | none => -1) | none => 0
theorem nextI_of {N : List ByteArray} {j : Nat} {q : ByteArray} (h : N[j]? = some q) : nextI N j = (fromF N (j + 1) q).getD (-1) := by
  unfold nextI fromF
  simp only [h]
  cases nthO (N.drop (j + 1)) q 0 <;> rfl
theorem fromF_zero {N Q : List ByteArray} : fromF N 0 = leadF N Q 0 := by
  funext n
  unfold fromF leadF
  rw [List.drop_zero, List.take_zero, cnt_nil]
  cases h : nthO N n 0 with
  | none => rfl
  | some j => rw [nthI_some h]; rfl
theorem nextI_nth {N : List ByteArray} {q : ByteArray} {k j : Nat} (h : nthO N q k = some j) : nextI N j = nthI N q (k + 1) := by
  obtain ⟨_, hj⟩ := nthO_lt h
  unfold nextI nthI
  simp only [hj, nthO_next h]
  cases nthO (N.drop (j + 1)) q 0 <;> rfl
theorem nthO_first {N : List ByteArray} {q : ByteArray} {k : Nat} (h : nthO N q 0 = none) : nthO N q k = none := by
  induction k with
  | zero => exact h
  | succ k ih => exact nthO_none_next ih
/-- the map behind one more name -/
theorem leadF_no {N Q : List ByteArray} {k : Nat} {q : ByteArray} (hq : Q[k]? = some q) (h : nthO N q (cnt (Q.take k) q) = none) : leadF N Q (k + 1) = leadF N Q k := by
  funext n
  unfold leadF
  rw [takeSnoc hq, cnt_snoc]
  by_cases hn : q = n
  · subst hn
    rw [if_pos rfl, nthI_none h, nthI_none (nthO_none_next h)]
  · rw [if_neg hn, Nat.add_zero]
theorem nthO_has {N : List ByteArray} {q : ByteArray} {k j : Nat} (h : nthO N q k = some j) : ∃ i, nthO N q 0 = some i := by
  cases h0 : nthO N q 0 with
  | none => rw [nthO_first h0] at h; cases h
  | some i => exact ⟨i, rfl⟩
theorem leadF_yes {N Q : List ByteArray} {k j : Nat} {q : ByteArray} (hq : Q[k]? = some q) (h : nthO N q (cnt (Q.take k) q) = some j) : leadF N Q (k + 1) = (fun m => if m = q then some (nextI N j) else leadF N Q k m) := by
  funext n
  by_cases hn : n = q
  · subst hn
    obtain ⟨i, hi⟩ := nthO_has h
    rw [if_pos rfl]
    unfold leadF
    rw [takeSnoc hq, cnt_snoc, if_pos rfl, hi, nextI_nth h]
    rfl
  · rw [if_neg hn]
    unfold leadF
    rw [takeSnoc hq, cnt_snoc, if_neg (Ne.symm hn), Nat.add_zero]
theorem fromF_step {N : List ByteArray} {k : Nat} {q : ByteArray} (h : N[k]? = some q) : fromF N k = (fun m => if m = q then some (k : Int) else fromF N (k + 1) m) := by
  funext n
  unfold fromF
  rw [dropCons h]
  by_cases hn : n = q
  · subst hn
    rw [if_pos rfl, nthO_hit rfl]
    simp
  · rw [if_neg hn, nthO_miss (Ne.symm hn), Option.map_map]
    congr 1
    funext j
    show ((j + 1 + k : Nat) : Int) = _
    rw [Nat.add_assoc, Nat.add_comm 1 k]
theorem fromF_end (N : List ByteArray) : fromF N N.length = fun _ => none := by
  funext n
  unfold fromF
  rw [List.drop_eq_nil_of_le (Nat.le_refl _)]
  rfl
end Go.Proofs.Ytaaagdmhokgcjaa
