
-- Plain: new members put in, and deleted.
import Derived.Test.YtaaagdmhokgcjabI4
import Derived.Test.YtaaagdmhokgcjabD4
namespace Go.Proofs.Ytaaagdmhokgcjab
set_option linter.unusedVariables false
set_option maxRecDepth 100000
set_option linter.unusedSimpArgs false
theorem nms_app13 (A D : List Mx) : nms (A ++ D) = nms A ++ nms D := by unfold nms; simp
theorem cnt_cons (x q : ByteArray) (l : List ByteArray) : cnt (x :: l) q = (if x = q then 1 else 0) + cnt l q := by
  unfold cnt; rw [List.countP_cons]; by_cases h : x = q <;> simp [h, Nat.add_comm]
theorem cnt_app (a b : List ByteArray) (q : ByteArray) : cnt (a ++ b) q = cnt a q + cnt b q := by unfold cnt; exact List.countP_append
theorem cnt_zero {l : List ByteArray} {q : ByteArray} : cnt l q = 0 ↔ q ∉ l := by
  unfold cnt
  rw [List.countP_eq_zero]
  constructor
  · intro h hm; exact absurd (decide_eq_true rfl) (h q hm)
  · intro h x hx e; have : x = q := by simpa using e
    subst this; exact h hx
theorem nthO_no {l : List ByteArray} {q : ByteArray} {k : Nat} (h : q ∉ l) : nthO l q k = none := by
  induction l generalizing k with
  | nil => rfl
  | cons x r ih =>
    have hx : x ≠ q := fun e => h (by rw [e]; simp)
    rw [nthO_miss hx, ih (fun hm => h (by simp [hm]))]; rfl
/-- the first of a name, in a list whose names are unlike -/
theorem nthO_idx {l : List ByteArray} : ∀ {i : Nat} {q : ByteArray}, l.Nodup → l[i]? = some q → nthO l q 0 = some i := by
  induction l with
  | nil => intro i q _ h; simp at h
  | cons x r ih =>
    intro i q hd h
    cases i with
    | zero => simp at h; exact nthO_hit h
    | succ i =>
      have hr : r[i]? = some q := by simpa using h
      have hx : x ≠ q := fun e => (List.nodup_cons.1 hd).1 (by rw [e]; exact List.mem_of_getElem? hr)
      rw [nthO_miss hx, ih (List.nodup_cons.1 hd).2 hr]; rfl
theorem fm_congr {α β : Type} {f g : α → Option β} : ∀ {l : List α}, (∀ x ∈ l, f x = g x) → l.filterMap f = l.filterMap g
  | [], _ => rfl
  | x :: r, h => by
    rw [List.filterMap_cons, List.filterMap_cons, h x (by simp), fm_congr (l := r) (fun y hy => h y (by simp [hy]))]
/-- the members whose names are neither in the list nor ahead -/
def frAt (L M : List Mx) (i : Nat) : Option Mx := match M[i]? with | some x => if cnt (nms L) x.n = 0 ∧ cnt (nms (M.take i)) x.n = 0 then some x else none | none => none
def frsh (L M : List Mx) (k : Nat) : List Mx := (List.range k).filterMap (frAt L M)
theorem frsh_in {L M : List Mx} {k : Nat} {x : Mx} (h : M[k]? = some x) (h1 : cnt (nms L) x.n = 0) (h2 : cnt (nms (M.take k)) x.n = 0) : frsh L M (k + 1) = frsh L M k ++ [x] := by
  have e : frAt L M k = some x := by unfold frAt; rw [h]; exact if_pos ⟨h1, h2⟩
  unfold frsh
  rw [List.range_succ, List.filterMap_append, List.filterMap_cons, e]
  rfl
theorem frsh_out {L M : List Mx} {k : Nat} {x : Mx} (h : M[k]? = some x) (h1 : ¬ (cnt (nms L) x.n = 0 ∧ cnt (nms (M.take k)) x.n = 0)) : frsh L M (k + 1) = frsh L M k := by
  have e : frAt L M k = none := by unfold frAt; rw [h]; exact if_neg h1
  unfold frsh
  rw [List.range_succ, List.filterMap_append, List.filterMap_cons, e]
  simp
theorem frsh_len (L M : List Mx) (k : Nat) : (frsh L M k).length ≤ k := by
  unfold frsh
  have := List.length_filterMap_le (frAt L M) (List.range k)
  simpa using this
theorem frsh_spec (L M : List Mx) : ∀ k, k ≤ M.length → (∀ x ∈ frsh L M k, x.n ∉ nms L) ∧ (∀ x ∈ frsh L M k, x ∈ M.take k) ∧ (nms (frsh L M k)).Nodup
  | 0, _ => ⟨fun x hx => by simp [frsh] at hx, fun x hx => by simp [frsh] at hx, by simp [frsh, nms]⟩
  | k + 1, hk => by
    obtain ⟨i1, i2, i3⟩ := frsh_spec L M k (by omega)
    have hx := List.getElem?_eq_getElem (show k < M.length by omega)
    generalize M[k] = x at hx
    by_cases hc : cnt (nms L) x.n = 0 ∧ cnt (nms (M.take k)) x.n = 0
    · rw [frsh_in hx hc.1 hc.2, takeSnoc hx]
      refine ⟨?_, ?_, ?_⟩
      · intro y hy
        rcases List.mem_append.1 hy with hy | hy
        · exact i1 y hy
        · rw [List.mem_singleton.1 hy]; exact cnt_zero.1 hc.1
      · intro y hy
        rcases List.mem_append.1 hy with hy | hy
        · exact List.mem_append.2 (.inl (i2 y hy))
        · exact List.mem_append.2 (.inr hy)
      · rw [nms_app13, List.nodup_append]
        refine ⟨i3, by simp [nms], ?_⟩
        intro a ha b hb e
        obtain ⟨y, hy, rfl⟩ := List.mem_map.1 ha
        have hb' : b = x.n := by simpa [nms] using hb
        have h4 : x.n ∈ nms (M.take k) := by rw [← hb', ← e]; exact List.mem_map.2 ⟨y, i2 y hy, rfl⟩
        exact cnt_zero.1 hc.2 h4
    · rw [frsh_out hx hc, takeSnoc hx]
      exact ⟨i1, fun y hy => List.mem_append.2 (.inl (i2 y hy)), i3⟩
/-- what Insert makes of them -/
theorem insL_fresh {L X : List Mx} {u : Bool} (h1 : ∀ x ∈ X, x.n ∉ nms L) (h2 : (nms X).Nodup) : ∀ k, k ≤ X.length → insL L X u k = L ++ X.take k
  | 0, _ => by simp [insL]
  | k + 1, hk => by
    have ih := insL_fresh (u := u) h1 h2 k (by omega)
    have hx := List.getElem?_eq_getElem (show k < X.length by omega)
    generalize X[k] = x at hx
    rw [insL_step hx, ih, takeSnoc hx, ← List.append_assoc]
    refine (addL_none ?_).1
    refine nthO_no ?_
    rw [nms_app13, List.mem_append]
    rintro (h | h)
    · exact h1 x (List.mem_of_getElem? hx) h
    · obtain ⟨y, hy, e⟩ := List.mem_map.1 h
      obtain ⟨i, hi⟩ := List.getElem?_of_mem hy
      rw [List.getElem?_take] at hi
      split at hi
      · rename_i hik
        have g1 : (nms X)[i]? = some x.n := by rw [List.getElem?_map, hi]; simp [e]
        have g2 : (nms X)[k]? = some x.n := by rw [List.getElem?_map, hx]; rfl
        have := nthO_idx h2 g1
        rw [nthO_idx h2 g2] at this
        injection this with this
        omega
      · cases hi
theorem selAt_fresh {P X R : List Mx} {i : Nat} (h1 : ∀ x ∈ X, x.n ∉ nms P) (h2 : (nms X).Nodup) (hi : i < X.length) : selAt (nms (P ++ (X ++ R))) (nms X) i = some (P.length + i) := by
  have hx : (nms X)[i]? = some (X[i].n) := by rw [List.getElem?_map, List.getElem?_eq_getElem hi]; rfl
  have hc : cnt ((nms X).take i) X[i].n = 0 := by
    rw [cnt_zero]
    intro hm
    obtain ⟨j, hj⟩ := List.getElem?_of_mem hm
    rw [List.getElem?_take] at hj
    split at hj
    · have a := nthO_idx h2 hj
      rw [nthO_idx h2 hx] at a
      injection a with a
      omega
    · cases hj
  unfold selAt
  rw [hx]
  show nthO (nms (P ++ (X ++ R))) X[i].n (cnt ((nms X).take i) X[i].n) = _
  rw [hc, nms_app13, nthO_app, nthO_no (h1 _ (List.getElem_mem hi)), nms_app13, nthO_app, nthO_idx h2 hx]
  show (some i).map _ = _
  rw [Option.map_some, show (nms P).length = P.length from List.length_map _, Nat.add_comm]
theorem mis_fresh {P X R : List Mx} (h1 : ∀ x ∈ X, x.n ∉ nms P) (h2 : (nms X).Nodup) : mis (nms (P ++ (X ++ R))) (nms X) (nms X).length = [] := by
  unfold mis
  rw [List.filterMap_eq_nil_iff]
  intro i hi
  have hi' : i < X.length := by have := List.mem_range.1 hi; rwa [List.length_map] at this
  rw [selAt_fresh h1 h2 hi']
theorem fndN_fresh {P X R : List Mx} (h1 : ∀ x ∈ X, x.n ∉ nms P) (h2 : (nms X).Nodup) : fndN (nms (P ++ (X ++ R))) (nms X) (nms X).length = List.range' P.length X.length := by
  apply List.ext_getElem?
  intro i
  have e : fndN (nms (P ++ (X ++ R))) (nms X) (nms X).length = (List.range X.length).map (fun i => P.length + i) := by
    unfold fndN
    rw [show (nms X).length = X.length from List.length_map _, ← List.filterMap_eq_map]
    refine fm_congr ?_
    intro j hj
    rw [selAt_fresh h1 h2 (List.mem_range.1 hj)]; rfl
  rw [e, List.getElem?_map]
  by_cases h : i < X.length
  · rw [List.getElem?_range h, List.getElem?_range' h]; simp
  · rw [List.getElem?_eq_none (by simpa using h), List.getElem?_eq_none (by simpa using h)]; rfl
theorem filterMap_getRange {α : Type} (P X R : List α) : (List.range' P.length X.length).filterMap (fun i => (P ++ (X ++ R))[i]?) = X := by
  induction X generalizing P with
  | nil => simp
  | cons x r ih =>
    rw [List.length_cons, List.range'_succ, List.filterMap_cons]
    have e : (P ++ (x :: r ++ R))[P.length]? = some x := by rw [List.getElem?_append_right (Nat.le_refl _), Nat.sub_self]; rfl
    rw [e]
    have := ih (P ++ [x])
    rw [List.length_append, List.length_singleton, List.append_assoc] at this
    simpa using this
theorem takenA_fresh {α : Type} (P X R : List α) : takenA (P ++ (X ++ R)) (List.range' P.length X.length) = X := filterMap_getRange P X R
theorem othersA_fresh {α : Type} (P X R : List α) : othersA (P ++ (X ++ R)) (List.range' P.length X.length) = P ++ R := by
  unfold othersA othersTo
  have hl : (P ++ (X ++ R)).length = P.length + (X.length + R.length) := by simp
  have e : List.range (P ++ (X ++ R)).length = List.range' 0 P.length ++ (List.range' P.length X.length ++ List.range' (P.length + X.length) R.length) := by
    rw [hl, List.range_eq_range']
    rw [← List.range'_append_1 (s := 0) (m := P.length), Nat.zero_add, ← List.range'_append_1 (s := P.length) (m := X.length)]
  rw [e, List.filterMap_append, List.filterMap_append]
  have a1 : (List.range' 0 P.length).filterMap (fun i => if i ∈ List.range' P.length X.length then none else (P ++ (X ++ R))[i]?) = P := by
    have := filterMap_getRange ([] : List α) P (X ++ R)
    rw [List.nil_append, List.length_nil] at this
    refine Eq.trans (fm_congr ?_) this
    intro i hi
    have hi2 : i < P.length := by have := (List.mem_range'_1.1 hi).2; omega
    rw [if_neg (fun h => by have := (List.mem_range'_1.1 h).1; omega)]
  have a2 : (List.range' P.length X.length).filterMap (fun i => if i ∈ List.range' P.length X.length then none else (P ++ (X ++ R))[i]?) = [] := by
    rw [List.filterMap_eq_nil_iff]
    intro i hi
    rw [if_pos hi]
  have a3 : (List.range' (P.length + X.length) R.length).filterMap (fun i => if i ∈ List.range' P.length X.length then none else (P ++ (X ++ R))[i]?) = R := by
    have := filterMap_getRange (P ++ X) R ([] : List α)
    rw [List.length_append, List.append_nil, List.append_assoc] at this
    refine Eq.trans (fm_congr ?_) this
    intro i hi
    have h1 := (List.mem_range'_1.1 hi).1
    rw [if_neg (fun h => by have := (List.mem_range'_1.1 h).2; omega)]
  rw [a1, a2, a3, List.nil_append]
end Go.Proofs.Ytaaagdmhokgcjab
