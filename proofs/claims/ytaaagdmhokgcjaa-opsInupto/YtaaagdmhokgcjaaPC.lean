
-- Plain: counting.
import Derived.Test.YtaaagdmhokgcjaaR1
namespace Go.Proofs.Ytaaagdmhokgcjaa
set_option linter.unusedVariables false
set_option maxRecDepth 100000
theorem nms_appC (A D : List Mx) : nms (A ++ D) = nms A ++ nms D := by unfold nms; simp
theorem cnt_consC (x q : ByteArray) (l : List ByteArray) : cnt (x :: l) q = (if x = q then 1 else 0) + cnt l q := by
  unfold cnt; rw [List.countP_cons]; by_cases h : x = q <;> simp [h, Nat.add_comm]
theorem nthO_some_iff {N : List ByteArray} : ∀ {q : ByteArray} {k : Nat}, (∃ j, nthO N q k = some j) ↔ k < cnt N q := by
  induction N with
  | nil => intro q k; simp [nthO, cnt]
  | cons x r ih =>
    intro q k
    rw [cnt_consC]
    by_cases hx : x = q
    · rw [if_pos hx]
      cases k with
      | zero => rw [nthO_hit hx]; exact ⟨fun _ => by omega, fun _ => ⟨_, rfl⟩⟩
      | succ k =>
        rw [nthO_pass hx]
        constructor
        · rintro ⟨j, h⟩
          obtain ⟨i, hi, _⟩ := Option.map_eq_some_iff.1 h
          have := ih.1 ⟨i, hi⟩
          omega
        · intro h
          obtain ⟨i, hi⟩ := ih.2 (show k < cnt r q by omega)
          exact ⟨i + 1, by rw [hi]; rfl⟩
    · rw [if_neg hx, nthO_miss hx, Nat.zero_add]
      constructor
      · rintro ⟨j, h⟩
        obtain ⟨i, hi, _⟩ := Option.map_eq_some_iff.1 h
        exact ih.1 ⟨i, hi⟩
      · intro h
        obtain ⟨i, hi⟩ := ih.2 h
        exact ⟨i + 1, by rw [hi]; rfl⟩
theorem nthO_cntC {N : List ByteArray} : ∀ {q : ByteArray} {k j : Nat}, nthO N q k = some j → cnt (N.take j) q = k := by
  induction N with
  | nil => intro q k j h; simp [nthO] at h
  | cons x r ih =>
    intro q k j h
    by_cases hx : x = q
    · cases k with
      | zero => rw [nthO_hit hx] at h; injection h with h; subst h; rfl
      | succ k =>
        rw [nthO_pass hx] at h
        obtain ⟨i, hi, rfl⟩ := Option.map_eq_some_iff.1 h
        rw [List.take_succ_cons, cnt_consC, if_pos hx, ih hi, Nat.add_comm]
    · rw [nthO_miss hx] at h
      obtain ⟨i, hi, rfl⟩ := Option.map_eq_some_iff.1 h
      rw [List.take_succ_cons, cnt_consC, if_neg hx, ih hi, Nat.zero_add]
theorem range_split {k k' : Nat} (h : k ≤ k') : ∃ R, List.range k' = List.range k ++ R := by
  obtain ⟨d, rfl⟩ := Nat.exists_eq_add_of_le h
  exact ⟨_, List.range_add⟩
theorem fnd_prefix {N Q : List ByteArray} {k k' : Nat} (h : k ≤ k') : ∃ R, fnd N Q k' = fnd N Q k ++ R := by
  obtain ⟨R, e⟩ := range_split h
  exact ⟨_, by unfold fnd; rw [e, List.filterMap_append]⟩
theorem mis_prefix {N Q : List ByteArray} {k k' : Nat} (h : k ≤ k') : ∃ R, mis N Q k' = mis N Q k ++ R := by
  obtain ⟨R, e⟩ := range_split h
  exact ⟨_, by unfold mis; rw [e, List.filterMap_append]⟩
theorem sel_sum {N Q : List ByteArray} : ∀ k, k ≤ Q.length → (fnd N Q k).length + (mis N Q k).length = k
  | 0, _ => rfl
  | k + 1, h => by
    have ih := sel_sum (N := N) (Q := Q) k (by omega)
    have hq := List.getElem?_eq_getElem (show k < Q.length by omega)
    cases hn : nthO N Q[k] (cnt (Q.take k) Q[k]) with
    | none =>
      obtain ⟨e1, e2⟩ := sel_none hq hn
      rw [e1, e2, List.length_append]
      show _ + (_ + 1) = _
      omega
    | some j =>
      obtain ⟨e1, e2⟩ := sel_some hq hn
      rw [e1, e2, List.length_append]
      show (_ + 1) + _ = _
      omega
end Go.Proofs.Ytaaagdmhokgcjaa
