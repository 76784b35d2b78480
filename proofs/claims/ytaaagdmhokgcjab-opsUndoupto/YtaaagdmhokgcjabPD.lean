
-- Plain: what is left out, what is taken.
import Derived.Test.YtaaagdmhokgcjabPN
namespace Go.Proofs.Ytaaagdmhokgcjab
set_option linter.unusedVariables false
set_option maxRecDepth 100000
def fndN (N Q : List ByteArray) (k : Nat) : List Nat := (List.range k).filterMap (selAt N Q)
theorem fnd_eq (N Q : List ByteArray) (k : Nat) : fnd N Q k = (fndN N Q k).map Int.ofNat := by
  unfold fnd fndN; rw [List.map_filterMap]
theorem nthO_cnt {N : List ByteArray} : ∀ {q : ByteArray} {k j : Nat}, nthO N q k = some j → cnt (N.take j) q = k := by
  induction N with
  | nil => intro q k j h; simp [nthO] at h
  | cons x r ih =>
    intro q k j h
    by_cases hx : x = q
    · cases k with
      | zero => rw [nthO_hit hx] at h; injection h with h; subst h; rfl
      | succ k =>
        rw [nthO_pass hx] at h
        obtain ⟨i, hi, rfl⟩ := Option.map_eq_some_iff.1 h
        have := ih hi
        rw [List.take_succ_cons]
        unfold cnt at this ⊢
        rw [List.countP_cons, this]; simp [hx]
    · rw [nthO_miss hx] at h
      obtain ⟨i, hi, rfl⟩ := Option.map_eq_some_iff.1 h
      have := ih hi
      rw [List.take_succ_cons]
      unfold cnt at this ⊢
      rw [List.countP_cons, this]; simp [hx]
theorem cnt_mono {Q : List ByteArray} {i k : Nat} {q : ByteArray} (hq : Q[i]? = some q) (h : i < k) : cnt (Q.take i) q < cnt (Q.take k) q := by
  have h1 : cnt (Q.take (i + 1)) q = cnt (Q.take i) q + 1 := by rw [takeSnoc hq, cnt_snoc, if_pos rfl]
  have h2 : cnt (Q.take (i + 1)) q ≤ cnt (Q.take k) q := by
    unfold cnt
    refine List.Sublist.countP_le ?_
    have : Q.take (i + 1) = (Q.take k).take (i + 1) := by rw [List.take_take, Nat.min_eq_left (by omega)]
    rw [this]; exact List.take_sublist _ _
  omega
theorem selAt_get {N Q : List ByteArray} {i j : Nat} (h : selAt N Q i = some j) : ∃ q, Q[i]? = some q ∧ nthO N q (cnt (Q.take i) q) = some j := by
  unfold selAt at h
  cases hq : Q[i]? with
  | none => rw [hq] at h; cases h
  | some q => rw [hq] at h; exact ⟨q, rfl, h⟩
theorem selAt_inj {N Q : List ByteArray} {i i' j : Nat} (h : selAt N Q i = some j) (h' : selAt N Q i' = some j) : i = i' := by
  obtain ⟨q, hq, hn⟩ := selAt_get h
  obtain ⟨q', hq', hn'⟩ := selAt_get h'
  have e1 := (nthO_lt hn).2
  have e2 := (nthO_lt hn').2
  rw [e1] at e2
  injection e2 with e2
  subst e2
  have c1 := nthO_cnt hn
  have c2 := nthO_cnt hn'
  rcases Nat.lt_trichotomy i i' with hl | hl | hl
  · have := cnt_mono hq hl; omega
  · exact hl
  · have := cnt_mono hq' hl; omega
theorem fndN_mem {N Q : List ByteArray} {k j : Nat} (h : j ∈ fndN N Q k) : ∃ i, i < k ∧ selAt N Q i = some j := by
  obtain ⟨i, hi, e⟩ := List.mem_filterMap.1 h
  exact ⟨i, List.mem_range.1 hi, e⟩
theorem fndN_lt {N Q : List ByteArray} {k j : Nat} (h : j ∈ fndN N Q k) : j < N.length := by
  obtain ⟨i, _, e⟩ := fndN_mem h
  obtain ⟨q, _, hn⟩ := selAt_get e
  exact (nthO_lt hn).1
theorem fndN_nodup (N Q : List ByteArray) (k : Nat) : (fndN N Q k).Nodup := by
  induction k with
  | zero => exact List.nodup_nil
  | succ k ih =>
    have e : fndN N Q (k + 1) = fndN N Q k ++ (selAt N Q k).toList := by
      unfold fndN; rw [List.range_succ, List.filterMap_append]
      cases h : selAt N Q k <;> simp [h]
    rw [e]
    cases h : selAt N Q k with
    | none => simpa using ih
    | some j =>
      rw [List.nodup_append]
      refine ⟨ih, by simp, ?_⟩
      intro a ha b hb e
      simp at hb
      subst hb
      subst e
      obtain ⟨i, hi, hs⟩ := fndN_mem ha
      have := selAt_inj hs h
      omega
theorem pigeon : ∀ (n : Nat) (l : List Nat), l.Nodup → (∀ j ∈ l, j < n) → l.length ≤ n
  | 0, l, _, h => by
    cases l with
    | nil => simp
    | cons x r => exact absurd (h x (by simp)) (Nat.not_lt_zero _)
  | n + 1, l, hd, h => by
    have h1 : (l.filter (fun x => decide (x ≠ n))).length ≤ n := by
      refine pigeon n _ (hd.filter _) ?_
      intro j hj
      obtain ⟨hm, hne⟩ := List.mem_filter.1 hj
      have := h j hm
      have hne' : j ≠ n := by simpa using hne
      omega
    have h2 : l.length ≤ (l.filter (fun x => decide (x ≠ n))).length + 1 := by
      have e := List.length_eq_countP_add_countP (fun x => decide (x ≠ n)) (l := l)
      rw [e, List.countP_eq_length_filter]
      have : l.countP (fun a => decide ¬ decide (a ≠ n) = true) ≤ 1 := by
        have hc := List.nodup_iff_count.1 hd n
        unfold List.count at hc
        refine Nat.le_trans (Nat.le_of_eq ?_) hc
        congr 1
        funext a
        by_cases ha : a = n <;> simp [ha]
      omega
    omega
theorem fndN_len (N Q : List ByteArray) (k : Nat) : (fndN N Q k).length ≤ N.length := pigeon _ _ (fndN_nodup N Q k) (fun _ h => fndN_lt h)
section
variable {α : Type}
/-- those that stand at other numbers, the first k being looked at -/
def othersTo (L : List α) (J : List Nat) (k : Nat) : List α := (List.range k).filterMap (fun i => if i ∈ J then none else L[i]?)
def othersA (L : List α) (J : List Nat) : List α := othersTo L J L.length
theorem othersTo_in {L : List α} {J : List Nat} {k : Nat} (h : k ∈ J) : othersTo L J (k + 1) = othersTo L J k := by
  unfold othersTo; rw [List.range_succ, List.filterMap_append]; simp [h]
theorem othersTo_out {L : List α} {J : List Nat} {k : Nat} {x : α} (h : k ∉ J) (hx : L[k]? = some x) : othersTo L J (k + 1) = othersTo L J k ++ [x] := by
  unfold othersTo; rw [List.range_succ, List.filterMap_append]; simp [h, hx]
theorem othersTo_len (L : List α) (J : List Nat) (k : Nat) : (othersTo L J k).length ≤ k := by
  unfold othersTo
  have := List.length_filterMap_le (fun i => if i ∈ J then none else L[i]?) (List.range k)
  simpa using this
/-- those at these numbers -/
def takenA (L : List α) (J : List Nat) : List α := J.filterMap (fun i => L[i]?)
theorem takenA_snoc {L : List α} {J : List Nat} {j : Nat} {x : α} (hx : L[j]? = some x) : takenA L (J ++ [j]) = takenA L J ++ [x] := by
  unfold takenA; rw [List.filterMap_append]; simp [hx]
theorem takenA_len {L : List α} : ∀ {J : List Nat}, (∀ j ∈ J, j < L.length) → (takenA L J).length = J.length
  | [], _ => rfl
  | j :: r, h => by
    have hj := h j (by simp)
    have ih := takenA_len (L := L) (J := r) (fun i hi => h i (by simp [hi]))
    unfold takenA at ih ⊢
    rw [List.filterMap_cons, List.getElem?_eq_getElem hj]
    simp [ih]
end
end Go.Proofs.Ytaaagdmhokgcjab
