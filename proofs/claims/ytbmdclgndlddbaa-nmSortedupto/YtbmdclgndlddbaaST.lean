
-- Plain: a stable sort by merges in place: exchanges, rotations, the merge's parts.
import Derived.Sort.Defs
namespace Go.Proofs.Ytbmdclgndlddbaa
open Go.Sort
set_option linter.unusedVariables false
set_option maxRecDepth 100000
set_option linter.unusedSimpArgs false
section
variable {α : Type}
theorem get_app [Inhabited α] {d : Array α} {A Z : List α} {x : α} (h : d.toList = A ++ x :: Z) : d[A.length]! = x := by
  have hs : A.length < d.size := by rw [← Array.length_toList, h]; simp
  rw [getElem!_pos d _ hs, ← Array.getElem_toList]
  simp [h]
theorem get_at [Inhabited α] {d : Array α} {A Z : List α} {x : α} {i : Nat} (h : d.toList = A ++ x :: Z) (hi : i = A.length) : d[i]! = x := by subst hi; exact get_app h
/-- two elements change places -/
theorem swp_app [Inhabited α] {d : Array α} {A M Z : List α} {x y : α} {i j : Nat} (h : d.toList = A ++ x :: (M ++ y :: Z)) (hi : i = A.length) (hj : j = A.length + 1 + M.length) : (swp d i j).toList = A ++ y :: (M ++ x :: Z) := by
  have gi : d[i]! = x := get_at h hi
  have gj : d[j]! = y := get_at (A := A ++ x :: M) (Z := Z) (by rw [h]; simp) (by rw [hj]; simp; omega)
  unfold swp
  rw [gi, gj, Array.toList_setIfInBounds, Array.toList_setIfInBounds, h, hi, hj]
  rw [List.set_append_right _ _ (Nat.le_refl _), Nat.sub_self, List.set_cons_zero]
  rw [List.set_append_right _ _ (by omega), show A.length + 1 + M.length - A.length = M.length + 1 from by omega, List.set_cons_succ, List.set_append_right _ _ (Nat.le_refl _), Nat.sub_self, List.set_cons_zero]
theorem swp_app' [Inhabited α] {d : Array α} {A M Z : List α} {x y : α} {i j : Nat} (h : d.toList = A ++ x :: (M ++ y :: Z)) (hi : i = A.length) (hj : j = A.length + 1 + M.length) : (swp d j i).toList = A ++ y :: (M ++ x :: Z) := by
  have gi : d[i]! = x := get_at h hi
  have gj : d[j]! = y := get_at (A := A ++ x :: M) (Z := Z) (by rw [h]; simp) (by rw [hj]; simp; omega)
  unfold swp
  rw [gi, gj, Array.toList_setIfInBounds, Array.toList_setIfInBounds, h, hi, hj]
  have e1 : (A ++ x :: (M ++ y :: Z)).set (A.length + 1 + M.length) x = A ++ x :: (M ++ x :: Z) := by
    rw [List.set_append_right _ _ (by omega), show A.length + 1 + M.length - A.length = M.length + 1 from by omega, List.set_cons_succ, List.set_append_right _ _ (Nat.le_refl _), Nat.sub_self, List.set_cons_zero]
  rw [e1, List.set_append_right _ _ (Nat.le_refl _), Nat.sub_self, List.set_cons_zero]
theorem swp_size [Inhabited α] (d : Array α) (i j : Nat) : (swp d i j).size = d.size := by simp [swp]
/-- two rows of n change places: behind i exchanges -/
def SwR (A X M Y Z : List α) (i : Nat) (d : Array α) : Prop := d.toList = A ++ ((Y.take i ++ X.drop i) ++ (M ++ ((X.take i ++ Y.drop i) ++ Z)))
theorem swR_start {A X M Y Z : List α} {d : Array α} (h : d.toList = A ++ (X ++ (M ++ (Y ++ Z)))) : SwR A X M Y Z 0 d := by unfold SwR; simpa using h
theorem swR_end {A X M Y Z : List α} {d : Array α} {n : Nat} (hx : X.length = n) (hy : Y.length = n) (h : SwR A X M Y Z n d) : d.toList = A ++ (Y ++ (M ++ (X ++ Z))) := by
  unfold SwR at h
  rw [List.take_of_length_le (by omega), List.drop_of_length_le (by omega), List.take_of_length_le (by omega), List.drop_of_length_le (by omega)] at h
  simpa using h
theorem take_snoc {l : List α} {k : Nat} {x : α} (h : l[k]? = some x) : l.take (k + 1) = l.take k ++ [x] := by rw [List.take_add_one, h]; rfl
theorem drop_cons' {l : List α} {k : Nat} {x : α} (h : l[k]? = some x) : l.drop k = x :: l.drop (k + 1) := by
  obtain ⟨hk, he⟩ := List.getElem?_eq_some_iff.1 h
  rw [List.drop_eq_getElem_cons hk, he]
theorem swR_get [Inhabited α] {A X M Y Z : List α} {d : Array α} {n i : Nat} (hx : X.length = n) (hy : Y.length = n) (hi : i < n) (h : SwR A X M Y Z i d) : ∃ x y, X[i]? = some x ∧ Y[i]? = some y ∧ d[A.length + i]! = x ∧ d[A.length + n + M.length + i]! = y ∧ SwR A X M Y Z (i + 1) (swp d (A.length + i) (A.length + n + M.length + i)) := by
  obtain ⟨x, hx1⟩ : ∃ x, X[i]? = some x := ⟨_, List.getElem?_eq_getElem (by omega)⟩
  obtain ⟨y, hy1⟩ : ∃ y, Y[i]? = some y := ⟨_, List.getElem?_eq_getElem (by omega)⟩
  unfold SwR at h
  rw [drop_cons' hx1, drop_cons' hy1] at h
  have ltx : (X.take i).length = i := by rw [List.length_take]; omega
  have lty : (Y.take i).length = i := by rw [List.length_take]; omega
  have h2 : d.toList = (A ++ Y.take i) ++ x :: ((X.drop (i + 1) ++ (M ++ X.take i)) ++ y :: (Y.drop (i + 1) ++ Z)) := by rw [h]; simp
  have e1 : A.length + i = (A ++ Y.take i).length := by rw [List.length_append, lty]
  have e2 : A.length + n + M.length + i = (A ++ Y.take i).length + 1 + (X.drop (i + 1) ++ (M ++ X.take i)).length := by
    simp only [List.length_append, lty, ltx, List.length_drop]; omega
  refine ⟨x, y, hx1, hy1, get_at h2 e1, get_at (A := (A ++ Y.take i) ++ x :: (X.drop (i + 1) ++ (M ++ X.take i))) (Z := Y.drop (i + 1) ++ Z) (by rw [h2]; simp) (by rw [e2]; simp; omega), ?_⟩
  unfold SwR
  rw [swp_app h2 e1 e2, take_snoc hx1, take_snoc hy1]
  simp
/-- rotations: what is left to be turned -/
def Rot (W : List α) (m i j : Nat) (d : Array α) : Prop := ∃ P U V Q : List α, d.toList = P ++ (U ++ (V ++ Q)) ∧ U.length = i ∧ V.length = j ∧ P.length + i = m ∧ P ++ (V ++ (U ++ Q)) = W
theorem rot_start {P U V Q : List α} {d : Array α} (h : d.toList = P ++ (U ++ (V ++ Q))) : Rot (P ++ (V ++ (U ++ Q))) (P.length + U.length) U.length V.length d := ⟨P, U, V, Q, h, rfl, rfl, rfl, rfl⟩
/-- i > j -/
theorem rot_left {W : List α} {m i j : Nat} {d : Array α} (h : Rot W m i j d) (hij : j < i) : ∃ A X M Y Z : List α, d.toList = A ++ (X ++ (M ++ (Y ++ Z))) ∧ X.length = j ∧ Y.length = j ∧ A.length = m - i ∧ A.length + j + M.length = m ∧ ∀ d' : Array α, d'.toList = A ++ (Y ++ (M ++ (X ++ Z))) → Rot W m (i - j) j d' := by
  obtain ⟨P, U, V, Q, h1, h2, h3, h4, h5⟩ := h
  refine ⟨P, U.take j, U.drop j, V, Q, by rw [h1, ← List.append_assoc (U.take j), List.take_append_drop], by rw [List.length_take]; omega, h3, by omega, by rw [List.length_drop]; omega, fun d' hd => ?_⟩
  refine ⟨P ++ V, U.drop j, U.take j, Q, by rw [hd]; simp, by rw [List.length_drop]; omega, by rw [List.length_take]; omega, by rw [List.length_append]; omega, ?_⟩
  rw [← h5, ← List.append_assoc (U.take j), List.take_append_drop, List.append_assoc]
/-- i < j -/
theorem rot_right {W : List α} {m i j : Nat} {d : Array α} (h : Rot W m i j d) (hij : i < j) : ∃ A X M Y Z : List α, d.toList = A ++ (X ++ (M ++ (Y ++ Z))) ∧ X.length = i ∧ Y.length = i ∧ A.length = m - i ∧ A.length + i + M.length = m + j - i ∧ ∀ d' : Array α, d'.toList = A ++ (Y ++ (M ++ (X ++ Z))) → Rot W m i (j - i) d' := by
  obtain ⟨P, U, V, Q, h1, h2, h3, h4, h5⟩ := h
  refine ⟨P, U, V.take (j - i), V.drop (j - i), Q, by rw [h1, ← List.append_assoc (V.take (j - i)), List.take_append_drop], h2, by rw [List.length_drop]; omega, by omega, by rw [List.length_take]; omega, fun d' hd => ?_⟩
  refine ⟨P, V.drop (j - i), V.take (j - i), U ++ Q, hd, by rw [List.length_drop]; omega, by rw [List.length_take]; omega, h4, ?_⟩
  rw [← h5, ← List.append_assoc (V.take (j - i)), List.take_append_drop]
/-- i = j -/
theorem rot_last {W : List α} {m i : Nat} {d : Array α} (h : Rot W m i i d) : ∃ A X Y Z : List α, d.toList = A ++ (X ++ ([] ++ (Y ++ Z))) ∧ X.length = i ∧ Y.length = i ∧ A.length = m - i ∧ A.length + i + ([] : List α).length = m ∧ ∀ d' : Array α, d'.toList = A ++ (Y ++ ([] ++ (X ++ Z))) → d'.toList = W := by
  obtain ⟨P, U, V, Q, h1, h2, h3, h4, h5⟩ := h
  exact ⟨P, U, V, Q, by simpa using h1, h2, h3, by omega, by simpa using h4, fun d' hd => by rw [← h5]; simpa using hd⟩
end
/-! the order -/
section
variable {α : Type} {R : α → α → Prop}
/-- the parts of a merge: what stands ahead is ahead of what stands behind -/
theorem merge_cross (ht : ∀ x y z, R x y → R y z → R x z) {A1 A2 B1 B2 : List α} (hA : (A1 ++ A2).Pairwise R) (hB : (B1 ++ B2).Pairwise R)
    (h1 : A1 = [] ∨ B2 = [] ∨ ∃ x y, A1.getLast? = some x ∧ B2.head? = some y ∧ R x y) (h2 : B1 = [] ∨ A2 = [] ∨ ∃ x y, B1.getLast? = some x ∧ A2.head? = some y ∧ R x y) :
    ∀ x ∈ A1 ++ B1, ∀ y ∈ A2 ++ B2, R x y := by
  have ends : ∀ {L K : List α} {x y : α}, L.Pairwise R → K.Pairwise R → L.getLast? = some x → K.head? = some y → R x y → ∀ a ∈ L, ∀ b ∈ K, R a b := by
    intro L K x y hL hK hx hy hxy a ha b hb
    have h3 : a = x ∨ R a x := by
      obtain ⟨L', rfl⟩ : ∃ L', L = L' ++ [x] := by
        obtain ⟨ys, h⟩ := List.getLast?_eq_some_iff.1 hx
        exact ⟨ys, h⟩
      rcases List.mem_append.1 ha with q | q
      · exact .inr ((List.pairwise_append.1 hL).2.2 a q x (by simp))
      · simp at q; exact .inl q
    have h4 : b = y ∨ R y b := by
      cases K with
      | nil => simp at hy
      | cons z K =>
        simp at hy; subst hy
        rcases List.mem_cons.1 hb with q | q
        · exact .inl q
        · exact .inr ((List.pairwise_cons.1 hK).1 b q)
    rcases h3 with rfl | h3 <;> rcases h4 with rfl | h4
    · exact hxy
    · exact ht _ _ _ hxy h4
    · exact ht _ _ _ h3 hxy
    · exact ht _ _ _ (ht _ _ _ h3 hxy) h4
  obtain ⟨a1, a2, a3⟩ := List.pairwise_append.1 hA
  obtain ⟨b1, b2, b3⟩ := List.pairwise_append.1 hB
  intro x hx y hy
  rcases List.mem_append.1 hx with hx | hx <;> rcases List.mem_append.1 hy with hy | hy
  · exact a3 x hx y hy
  · rcases h1 with rfl | rfl | ⟨u, v, hu, hv, huv⟩
    · simp at hx
    · simp at hy
    · exact ends a1 b2 hu hv huv x hx y hy
  · rcases h2 with rfl | rfl | ⟨u, v, hu, hv, huv⟩
    · simp at hx
    · simp at hy
    · exact ends b1 a2 hu hv huv x hx y hy
  · exact b3 x hx y hy
theorem merge_done {A1 A2 B1 B2 S1 S2 : List α} (hx : ∀ x ∈ A1 ++ B1, ∀ y ∈ A2 ++ B2, R x y) (p1 : S1.Perm (A1 ++ B1)) (p2 : S2.Perm (A2 ++ B2)) (s1 : S1.Pairwise R) (s2 : S2.Pairwise R) : (S1 ++ S2).Perm ((A1 ++ A2) ++ (B1 ++ B2)) ∧ (S1 ++ S2).Pairwise R := by
  refine ⟨?_, List.pairwise_append.2 ⟨s1, s2, fun x hx1 y hy1 => hx x (p1.mem_iff.1 hx1) y (p2.mem_iff.1 hy1)⟩⟩
  refine (p1.append p2).trans ?_
  rw [List.append_assoc, List.append_assoc]
  refine List.Perm.append_left A1 ?_
  rw [← List.append_assoc, ← List.append_assoc A2]
  exact List.Perm.append_right B2 List.perm_append_comm
/-- one element put into a row that is in order -/
theorem put_sorted (ht : ∀ x y z, R x y → R y z → R x z) {P Q : List α} {x : α} (h : (P ++ Q).Pairwise R) (h1 : P = [] ∨ ∃ y, P.getLast? = some y ∧ R y x) (h2 : Q = [] ∨ ∃ y, Q.head? = some y ∧ R x y) : (P ++ x :: Q).Pairwise R := by
  have := merge_cross ht (A1 := P) (A2 := Q) (B1 := [x]) (B2 := []) h (by simp) (.inr (.inl rfl)) (by
    rcases h2 with rfl | ⟨y, hy, hxy⟩
    · exact .inr (.inl rfl)
    · exact .inr (.inr ⟨x, y, rfl, hy, hxy⟩))
  obtain ⟨a1, a2, a3⟩ := List.pairwise_append.1 h
  refine List.pairwise_append.2 ⟨a1, List.pairwise_cons.2 ⟨fun y hy => this x (by simp) y (by simp [hy]), a2⟩, fun p hp y hy => ?_⟩
  rcases List.mem_cons.1 hy with rfl | hy
  · rcases h1 with rfl | ⟨z, hz, hzx⟩
    · simp at hp
    · obtain ⟨P', rfl⟩ : ∃ P', P = P' ++ [z] := by
        obtain ⟨ys, h⟩ := List.getLast?_eq_some_iff.1 hz
        exact ⟨ys, h⟩
      rcases List.mem_append.1 hp with q | q
      · exact ht _ _ _ ((List.pairwise_append.1 a1).2.2 p q z (by simp)) hzx
      · simp at q; subst q; exact hzx
  · exact a3 p hp y hy
/-- one sorted row of elements that are there once -/
theorem sorted_one (hirr : ∀ x, ¬ R x x) (ht : ∀ x y z, R x y → R y z → R x z) : ∀ {A B : List α}, A.Perm B → A.Pairwise R → B.Pairwise R → A = B := by
  intro A B hp ha hb
  exact hp.eq_of_pairwise (fun x y _ _ h1 h2 => absurd (ht x y x h1 h2) (hirr x)) ha hb
end
end Go.Proofs.Ytbmdclgndlddbaa
