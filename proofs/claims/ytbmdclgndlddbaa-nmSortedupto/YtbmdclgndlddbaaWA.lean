
-- NmSorted, plainly: how often a row stands, neighbours.
import Derived.Test.YtbmdclgndlddbaaRA
import Derived.Test.YtbmdclgndlddbaaRG
namespace Go.Proofs.Ytbmdclgndlddbaa
open Go.Sort
set_option linter.unusedVariables false
set_option maxRecDepth 100000
def cntR (L : List Rw) (x : Rw) : Nat := (L.filter (fun y => decide (y = x))).length
theorem cnt_take {L : List Rw} {k : Nat} {x y : Rw} (h : L[k]? = some y) : cntR (L.take (k + 1)) x = if y = x then cntR (L.take k) x + 1 else cntR (L.take k) x := by
  unfold cntR
  rw [takeSucc h, List.filter_append, List.length_append]
  by_cases e : y = x <;> simp [e]
theorem cnt_le (L : List Rw) (x : Rw) : cntR L x ≤ L.length := List.length_filter_le _ _
theorem cnt_perm {A B : List Rw} (h : A.Perm B) (x : Rw) : cntR A x = cntR B x := (h.filter _).length_eq
theorem cnt_pick (g u : Bool) (L : List Rw) (x : Rw) : cntR (pickL g u L) x = if leftO g u x = true then 0 else cntR L x := by
  unfold cntR pickL
  rw [List.filter_filter]
  by_cases hl : leftO g u x = true
  · rw [if_pos hl, List.length_eq_zero_iff, List.filter_eq_nil_iff]
    intro a _ h
    simp only [Bool.and_eq_true, decide_eq_true_eq, Bool.not_eq_true'] at h
    rw [h.1] at h
    rw [h.2] at hl
    cases hl
  · rw [if_neg hl]
    congr 1
    apply List.filter_congr
    intro a _
    by_cases e : a = x
    · subst e; simp [hl]
    · simp [e]
theorem cmp_low (num : Bool) : Cmp (ltR num) (fun _ _ => True) (fun x y => ¬ LtR num y x) where
  yes := fun x y _ h => by
    unfold ltR at h; rw [decide_eq_true_iff, lt_iff] at h
    exact fun h2 => LtR.irr num x (h2.tr h)
  no := fun x y _ h => by
    unfold ltR at h; rw [decide_eq_false_iff_not, lt_iff] at h
    exact h
  tr := fun x y z h1 h2 => LtR.neg h2 h1
theorem ord_perm (o : Op7) (L : List Rw) : (ordL o L).Perm (pickL o.g o.u L) := by
  unfold ordL
  split
  · exact List.Perm.refl _
  · exact (ordG_ok (cmp_low o.n) _ _ (Nat.le_refl _) (List.pairwise_of_forall (fun _ _ => trivial))).1
theorem ord_adj {o : Op7} {L : List Rw} (hp : o.p = false) {i : Nat} {x y : Rw} (hx : (ordL o L)[i]? = some x) (hy : (ordL o L)[i + 1]? = some y) : ltR o.n y x = false := by
  have h : (ordL o L).Pairwise (fun x y => ¬ LtR o.n y x) := by
    unfold ordL
    rw [if_neg (by rw [hp]; decide)]
    exact (ordG_ok (cmp_low o.n) _ _ (Nat.le_refl _) (List.pairwise_of_forall (fun _ _ => trivial))).2
  obtain ⟨h1, e1⟩ := List.getElem?_eq_some_iff.1 hx
  obtain ⟨h2, e2⟩ := List.getElem?_eq_some_iff.1 hy
  have h3 := List.pairwise_iff_getElem.1 h i (i + 1) h1 h2 (by omega)
  rw [e1, e2] at h3
  unfold ltR
  rw [decide_eq_false_iff_not, lt_iff]
  exact h3
def opR (o : Op7) (b : Bool) : Op7 := ⟨o.g, o.u, o.n, o.p, b, o.a, o.s⟩
theorem ord_r (o : Op7) (b : Bool) (L : List Rw) : ordL (opR o b) L = ordL o L := rfl
theorem sort_no (o : Op7) (L : List Rw) : sortL (opR o false) L = ordL o L := rfl
theorem sort_yes (o : Op7) (L : List Rw) : sortL (opR o true) L = (ordL o L).reverse := rfl
theorem rev_at {L : List Rw} {i : Nat} {x : Rw} (h : L[i]? = some x) : L.reverse[L.length - 1 - i]? = some x := by
  obtain ⟨h1, e1⟩ := List.getElem?_eq_some_iff.1 h
  rw [List.getElem?_reverse (by omega)]
  rw [show L.length - 1 - (L.length - 1 - i) = i by omega]; exact h
theorem cnt_ord (o : Op7) (L : List Rw) (x : Rw) : cntR (ordL o L) x = if leftO o.g o.u x = true then 0 else cntR L x := by
  rw [cnt_perm (ord_perm o L), cnt_pick]
theorem ord_pick (o : Op7) (L : List Rw) : (ordL o L).length = (pickL o.g o.u L).length := (ord_perm o L).length_eq
end Go.Proofs.Ytbmdclgndlddbaa
