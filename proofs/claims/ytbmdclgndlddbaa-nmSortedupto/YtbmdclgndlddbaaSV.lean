
-- Plain: a stable sort by merges in place (3): insertion; rows of blocks.
import Derived.Test.YtbmdclgndlddbaaSU
import Derived.Sort.WalkA
namespace Go.Proofs.Ytbmdclgndlddbaa
open Go.Sort
set_option linter.unusedVariables false
set_option maxRecDepth 100000
set_option linter.unusedSimpArgs false
section
variable {α : Type} [Inhabited α]
theorem mvL_get {A X Z : List α} {y : α} {k : Nat} {d : Array α} (h : MvL A y X Z k d) (hk : k ≤ X.length) : d[A.length + k]! = y ∧ (∀ x j, k = j + 1 → X[j]? = some x → d[A.length + j]! = x) := by
  unfold MvL at h
  have l1 : (X.take k).length = k := by rw [List.length_take]; omega
  refine ⟨get_at (A := A ++ X.take k) (Z := X.drop k ++ Z) (by rw [h]; simp) (by rw [List.length_append, l1]), fun x j hj hx => ?_⟩
  refine get_mid (A := A) (X := X.take k) (Z := y :: (X.drop k ++ Z)) (k := j) h ?_ rfl
  rw [List.getElem?_take_of_lt (by omega)]; exact hx
/-- one element is carried to its place -/
theorem ins_one (lt : α → α → Bool) {A X Z : List α} {y : α} : ∀ (k : Nat) (d : Array α), k ≤ X.length → MvL A y X Z k d → (k = X.length ∨ ∃ x, X[k]? = some x ∧ lt y x = true) → ∃ j, j ≤ k ∧ MvL A y X Z j (insInner lt A.length (A.length + k) d) ∧ (j = 0 ∨ ∃ x, X[j - 1]? = some x ∧ lt y x = false) ∧ (j = X.length ∨ ∃ x, X[j]? = some x ∧ lt y x = true) := by
  intro k
  induction k with
  | zero =>
    intro d hk h h2
    refine ⟨0, Nat.le_refl _, ?_, .inl rfl, h2⟩
    rw [insInner_stop lt A.length (A.length + 0) d (.inl (by omega))]; exact h
  | succ k ih =>
    intro d hk h h2
    obtain ⟨x, hx⟩ : ∃ x, X[k]? = some x := ⟨_, List.getElem?_eq_getElem (by omega)⟩
    obtain ⟨g1, g2⟩ := mvL_get h hk
    have g3 := g2 x k rfl hx
    cases hl : lt y x with
    | true =>
      have e : insInner lt A.length (A.length + (k + 1)) d = insInner lt A.length (A.length + k) (swp d (A.length + k + 1) (A.length + k)) := by
        rw [insInner_go lt A.length (A.length + (k + 1)) d (by omega) (by rw [g1, show A.length + (k + 1) - 1 = A.length + k from by omega, g3]; exact hl)]
        rw [show A.length + (k + 1) - 1 = A.length + k from by omega, show A.length + (k + 1) = A.length + k + 1 from by omega]
      rw [e]
      obtain ⟨j, j1, j2, j3, j4⟩ := ih (swp d (A.length + k + 1) (A.length + k)) (by omega) (mvL_step h (by omega)) (.inr ⟨x, hx, hl⟩)
      exact ⟨j, by omega, j2, j3, j4⟩
    | false =>
      refine ⟨k + 1, Nat.le_refl _, ?_, .inr ⟨x, hx, hl⟩, h2⟩
      rw [insInner_stop lt A.length (A.length + (k + 1)) d (.inr (by rw [g1, show A.length + (k + 1) - 1 = A.length + k from by omega, g3]; exact hl))]; exact h
/-- a row is put in order by insertion -/
theorem ins_all {lt : α → α → Bool} {C R : α → α → Prop} (H : Cmp lt C R) {A Z : List α} : ∀ (Y S X : List α) (d : Array α), d.toList = A ++ (S ++ (Y ++ Z)) → S.Perm X → S.Pairwise R → (X ++ Y).Pairwise C → ∃ T, (insOuter lt A.length (A.length + S.length + Y.length) (A.length + S.length) d).toList = A ++ (T ++ Z) ∧ T.Perm (X ++ Y) ∧ T.Pairwise R := by
  intro Y
  induction Y with
  | nil =>
    intro S X d hd hp hs hc
    rw [insOuter_stop lt _ _ _ d (by simp)]
    exact ⟨S, by simpa using hd, by simpa using hp, hs⟩
  | cons y Y ih =>
    intro S X d hd hp hs hc
    rw [insOuter_go lt _ _ _ d (by simp)]
    have hm : MvL A y S (Y ++ Z) S.length d := by
      unfold MvL
      rw [List.take_length, List.drop_length, hd]; simp
    obtain ⟨j, j1, j2, j3, j4⟩ := ins_one lt S.length d (Nat.le_refl _) hm (.inl rfl)
    have hCy : ∀ x ∈ S, C x y := fun x hx => (List.pairwise_append.1 hc).2.2 x (hp.mem_iff.1 hx) y (by simp)
    have hs2 := one_right H hs hCy j1 j3 j4
    have hp2 : (S.take j ++ y :: S.drop j).Perm (X ++ [y]) := by
      have : (S.take j ++ y :: S.drop j).Perm (y :: S) := by
        refine List.perm_middle.trans ?_
        rw [List.take_append_drop]
      exact this.trans ((hp.cons y).trans (List.perm_append_comm (l₁ := [y]) (l₂ := X)))
    have hlen : (S.take j ++ y :: S.drop j).length = S.length + 1 := by
      simp only [List.length_append, List.length_cons, List.length_take, List.length_drop]; omega
    obtain ⟨T, t1, t2, t3⟩ := ih (S.take j ++ y :: S.drop j) (X ++ [y]) (insInner lt A.length (A.length + S.length) d) (by
      unfold MvL at j2
      rw [j2]; simp) hp2 hs2 (by simpa using hc)
    refine ⟨T, ?_, by simpa using t2, t3⟩
    rw [hlen] at t1
    rw [List.length_cons, show A.length + S.length + (Y.length + 1) = A.length + (S.length + 1) + Y.length from by omega, show A.length + S.length + 1 = A.length + (S.length + 1) from by omega]
    exact t1
theorem ins_sort {lt : α → α → Bool} {C R : α → α → Prop} (H : Cmp lt C R) {A X Z : List α} {d : Array α} {a b : Nat} (hd : d.toList = A ++ (X ++ Z)) (ha : A.length = a) (hb : a + X.length = b) (hc : X.Pairwise C) : ∃ S, (insertionSort lt d a b).toList = A ++ (S ++ Z) ∧ S.Perm X ∧ S.Pairwise R := by
  subst ha
  unfold insertionSort
  cases X with
  | nil =>
    rw [insOuter_stop lt _ _ _ d (by simp at hb; omega)]
    exact ⟨[], hd, List.Perm.refl _, by simp⟩
  | cons x X =>
    obtain ⟨T, t1, t2, t3⟩ := ins_all H (A := A) (Z := Z) X [x] [x] d (by rw [hd]; simp) (List.Perm.refl _) (by simp) (by simpa using hc)
    refine ⟨T, ?_, by simpa using t2, t3⟩
    rw [← hb, List.length_cons, show A.length + (X.length + 1) = A.length + 1 + X.length from by omega]
    exact t1
end
/-! parts of a list -/
section
variable {α : Type}
def seg (L : List α) (a b : Nat) : List α := (L.take b).drop a
theorem seg_len (L : List α) {a b : Nat} (h : b ≤ L.length) : (seg L a b).length = b - a := by unfold seg; rw [List.length_drop, List.length_take]; omega
theorem seg_split (L : List α) {a m b : Nat} (h1 : a ≤ m) (h2 : m ≤ b) : seg L a b = seg L a m ++ seg L m b := by
  unfold seg
  have e : L.take b = L.take m ++ (L.take b).drop m := by
    conv => lhs; rw [← List.take_append_drop m (L.take b)]
    rw [List.take_take, Nat.min_eq_left h2]
  conv => lhs; rw [e]
  by_cases q : a ≤ (L.take m).length
  · rw [List.drop_append_of_le_length q]
  · have hl : L.length ≤ m := by rw [List.length_take] at q; omega
    have e1 : (L.take m).drop a = [] := List.drop_eq_nil_of_le (by omega)
    have e2 : (L.take b).drop m = [] := List.drop_eq_nil_of_le (by rw [List.length_take]; omega)
    rw [e2, List.append_nil, e1]; rfl
theorem seg_all (L : List α) : seg L 0 L.length = L := by unfold seg; rw [List.take_length]; rfl
theorem seg_parts (L : List α) {a b : Nat} (h : a ≤ b) (hb : b ≤ L.length) : L = L.take a ++ (seg L a b ++ L.drop b) := by
  have h1 := (List.take_append_drop b L).symm
  have h2 : L.take b = L.take a ++ seg L a b := by
    unfold seg
    conv => lhs; rw [← List.take_append_drop a (L.take b)]
    rw [List.take_take, Nat.min_eq_left h]
  conv => lhs; rw [h1, h2]
  simp
/-- the part between a and b was turned, nothing else -/
def Trn (a b : Nat) (L L' : List α) : Prop := ∃ S, L' = L.take a ++ (S ++ L.drop b) ∧ S.length = b - a
theorem trn_len {a b : Nat} {L L' : List α} (h : Trn a b L L') (hab : a ≤ b) (hb : b ≤ L.length) : L'.length = L.length := by
  obtain ⟨S, rfl, hs⟩ := h
  simp only [List.length_append, List.length_take, List.length_drop, hs]; omega
theorem trn_seg {a b : Nat} {L : List α} {S : List α} (hs : S.length = b - a) (hab : a ≤ b) (hb : b ≤ L.length) : seg (L.take a ++ (S ++ L.drop b)) a b = S := by
  unfold seg
  have e : (L.take a ++ (S ++ L.drop b)).take b = L.take a ++ S := by
    have h1 : (L.take a ++ S).length = b := by rw [List.length_append, List.length_take, hs]; omega
    rw [← List.append_assoc, List.take_append_of_le_length (by omega), List.take_of_length_le (by omega)]
  have h0 : (L.take a).length = a := by rw [List.length_take]; omega
  rw [e, List.drop_append_of_le_length (by omega), List.drop_of_length_le (by omega), List.nil_append]
theorem trn_out {a b x y : Nat} {L L' : List α} (h : Trn a b L L') (hab : a ≤ b) (hb : b ≤ L.length) (ho : y ≤ a ∨ b ≤ x) : seg L' x y = seg L x y := by
  obtain ⟨S, rfl, hs⟩ := h
  have h0 : (L.take a).length = a := by rw [List.length_take]; omega
  unfold seg
  rcases ho with ho | ho
  · rw [List.take_append_of_le_length (by omega), List.take_take, Nat.min_eq_left ho]
  · have key : (L.take a ++ (S ++ L.drop b)).drop b = L.drop b := by
      have h1 : (L.take a ++ S).length = b := by rw [List.length_append, h0, hs]; omega
      rw [← List.append_assoc]
      conv => lhs; rw [← h1]
      rw [List.drop_append_of_le_length (Nat.le_refl _), List.drop_length, List.nil_append, h1]
    have g : ∀ K : List α, (K.take y).drop x = ((K.drop b).drop (x - b)).take (y - x) := by
      intro K
      rw [List.drop_take, List.drop_drop, show b + (x - b) = x from by omega]
    rw [g, g, key]
end
end Go.Proofs.Ytbmdclgndlddbaa
