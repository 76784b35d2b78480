
-- only, plainly.
import Derived.Test.YtnnpdomfkedhpaaRN
namespace Go.Proofs.Ytnnpdomfkedhpaa
open Go.ChangeShapes Go.WideShapes Go.ChangeAt Go.RowKit Go.MapKept
set_option linter.unusedVariables false
set_option maxRecDepth 100000
abbrev Sn := List ByteArray × List ByteArray
def seeN (st : Sn) (n : ByteArray) : Sn := if isIn st.1 n then st else (st.1 ++ [n], st.2 ++ [n])
theorem seeN_yes {st : Sn} {n : ByteArray} (h : isIn st.1 n = true) : seeN st n = st := by unfold seeN; rw [if_pos h]
theorem seeN_no {st : Sn} {n : ByteArray} (h : isIn st.1 n = false) : seeN st n = (st.1 ++ [n], st.2 ++ [n]) := by unfold seeN; rw [if_neg (by rw [h]; decide)]
structure SeeOk (S : List ByteArray) (m : Nat) (st : Sn) : Prop where
  e : st.1 = S ++ st.2
  u : st.1.Nodup
  l : st.2.length ≤ m
theorem see_step {S : List ByteArray} {m : Nat} {st : Sn} (h : SeeOk S m st) (n : ByteArray) : SeeOk S (m + 1) (seeN st n) := by
  cases hi : isIn st.1 n with
  | true => rw [seeN_yes hi]; exact ⟨h.e, h.u, by have := h.l; omega⟩
  | false =>
    rw [seeN_no hi]
    refine ⟨by show st.1 ++ [n] = S ++ (st.2 ++ [n]); rw [h.e, List.append_assoc], ?_, by show (st.2 ++ [n]).length ≤ _; rw [List.length_append, List.length_singleton]; have := h.l; omega⟩
    show (st.1 ++ [n]).Nodup
    rw [List.nodup_append]
    refine ⟨h.u, by simp, fun a ha b hb e => ?_⟩
    rw [List.mem_singleton] at hb
    subst hb
    subst e
    exact isIn_no.1 hi ha
theorem see_fold {S : List ByteArray} (l : List ByteArray) : ∀ {m : Nat} {st : Sn}, SeeOk S m st → SeeOk S (m + l.length) (l.foldl seeN st) := by
  induction l with
  | nil => intro m st h; exact h
  | cons x r ih => intro m st h; rw [List.foldl_cons, List.length_cons, show m + (r.length + 1) = (m + 1) + r.length by omega]; exact ih (see_step h x)
abbrev On := List Ob × List ByteArray
def onN (st : On) (o : Ob) : On := (st.1 ++ [⟨(o.df.foldl seeN (st.2, [])).2, o.nd⟩], (o.df.foldl seeN (st.2, [])).1)
/-- each name defined by the first alone -/
def onlyN (O : List Ob) : On := O.foldl onN ([], [])
structure OnOk (O : List Ob) (st : On) : Prop where
  l : st.1.length = O.length
  s : st.2 = st.1.flatMap (·.df)
  u : st.2.Nodup
  e : ∀ (i : Nat) (o' : Ob), st.1[i]? = some o' → ∃ o, O[i]? = some o ∧ o'.nd = o.nd ∧ o'.df.length ≤ o.df.length
theorem on_step {O : List Ob} {st : On} (h : OnOk O st) (o : Ob) : OnOk (O ++ [o]) (onN st o) := by
  have h2 : SeeOk st.2 (0 + o.df.length) (o.df.foldl seeN (st.2, [])) := see_fold o.df ⟨(List.append_nil _).symm, h.u, Nat.le_refl _⟩
  rw [Nat.zero_add] at h2
  unfold onN
  refine ⟨by rw [List.length_append, List.length_append, h.l]; rfl, ?_, h2.u, ?_⟩
  · show (o.df.foldl seeN (st.2, [])).1 = _
    rw [h2.e, List.flatMap_append, List.flatMap_singleton, ← h.s]
  · intro i o' hi
    simp only at hi
    by_cases hl : i < st.1.length
    · rw [List.getElem?_append_left hl] at hi
      obtain ⟨p, h3, h4⟩ := h.e i o' hi
      exact ⟨p, by rw [List.getElem?_append_left (by rw [← h.l]; exact hl)]; exact h3, h4⟩
    · have hie : i = st.1.length := by
        have h5 := (List.getElem?_eq_some_iff.1 hi).1
        rw [List.length_append, List.length_singleton] at h5
        omega
      subst hie
      rw [List.getElem?_append_right (Nat.le_refl _), Nat.sub_self] at hi
      simp at hi
      subst hi
      refine ⟨o, by rw [List.getElem?_append_right (by rw [h.l]; exact Nat.le_refl _), h.l, Nat.sub_self]; rfl, rfl, h2.l⟩
theorem on_take (O : List Ob) : ∀ k, k ≤ O.length → OnOk (O.take k) ((O.take k).foldl onN ([], []))
  | 0, _ => ⟨rfl, rfl, List.nodup_nil, fun i o' h => by simp at h⟩
  | k + 1, h => by
    have hk : O[k]? = some O[k] := List.getElem?_eq_getElem h
    rw [takeSucc hk, List.foldl_append]
    exact on_step (on_take O k (by omega)) _
theorem on_ok (O : List Ob) : OnOk O (onlyN O) := by
  have := on_take O O.length (Nat.le_refl _)
  rw [List.take_length] at this
  exact this
theorem flat_uq {α : Type} (f : Ob → List α) : ∀ {O : List Ob}, (O.flatMap f).Nodup → ∀ (i j : Nat) (a b : Ob) (n : α), O[i]? = some a → O[j]? = some b → n ∈ f a → n ∈ f b → i = j
  | [], _, i, j, a, b, n, ha, _, _, _ => by simp at ha
  | x :: r, h, i, j, a, b, n, ha, hb, na, nb => by
    rw [List.flatMap_cons, List.nodup_append] at h
    obtain ⟨h1, h2, h3⟩ := h
    cases i with
    | zero =>
      cases j with
      | zero => rfl
      | succ j =>
        simp at ha hb
        subst ha
        exact absurd rfl (h3 n na n (List.mem_flatMap.2 ⟨b, List.mem_of_getElem? hb, nb⟩))
    | succ i =>
      cases j with
      | zero =>
        simp at ha hb
        subst hb
        exact absurd rfl (h3 n nb n (List.mem_flatMap.2 ⟨a, List.mem_of_getElem? ha, na⟩))
      | succ j =>
        simp at ha hb
        rw [flat_uq f h2 i j a b n ha hb na nb]
theorem flat_nu {α : Type} (f : Ob → List α) {O : List Ob} (h : (O.flatMap f).Nodup) : ∀ a ∈ O, (f a).Nodup := by
  intro a ha
  induction O with
  | nil => simp at ha
  | cons x r ih =>
    rw [List.flatMap_cons, List.nodup_append] at h
    rcases List.mem_cons.1 ha with q | q
    · subst q; exact h.1
    · exact ih h.2.1 q
end Go.Proofs.Ytnnpdomfkedhpaa
