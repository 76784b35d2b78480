
-- Plain: members put in.
import Derived.Test.YtaaagdmhokgcjaaR1
namespace Go.Proofs.Ytaaagdmhokgcjaa
set_option linter.unusedVariables false
set_option maxRecDepth 100000
/-- one member is put in: the list, and what was done -/
def addL (ms : List Mx) (x : Mx) (u : Bool) : List Mx := match nthO (nms ms) x.n 0 with
  | none => ms ++ [x]
  | some i => if u = true ∧ x.d ≤ ((ms[i]?).map Mx.d).getD 0 then ms else ms.set i x
def addW (ms : List Mx) (x : Mx) (u : Bool) : Int := match nthO (nms ms) x.n 0 with
  | none => 97
  | some i => if u = true ∧ x.d ≤ ((ms[i]?).map Mx.d).getD 0 then 117 else 114
def insL (L M : List Mx) (u : Bool) : Nat → List Mx
  | 0 => L
  | k + 1 => match M[k]? with | some x => addL (insL L M u k) x u | none => insL L M u k
def insE (L M : List Mx) (u : Bool) : Nat → List Ev
  | 0 => []
  | k + 1 => match M[k]? with | some x => insE L M u k ++ [⟨addW (insL L M u k) x u, x.n⟩] | none => insE L M u k
theorem insL_step {L M : List Mx} {u : Bool} {k : Nat} {x : Mx} (h : M[k]? = some x) : insL L M u (k + 1) = addL (insL L M u k) x u := by rw [insL, h]
theorem insE_step {L M : List Mx} {u : Bool} {k : Nat} {x : Mx} (h : M[k]? = some x) : insE L M u (k + 1) = insE L M u k ++ [⟨addW (insL L M u k) x u, x.n⟩] := by rw [insE, h]
theorem addL_none {ms : List Mx} {x : Mx} {u : Bool} (h : nthO (nms ms) x.n 0 = none) : addL ms x u = ms ++ [x] ∧ addW ms x u = 97 := by unfold addL addW; rw [h]; exact ⟨rfl, rfl⟩
theorem addL_old {ms : List Mx} {x y : Mx} {u : Bool} {i : Nat} (h : nthO (nms ms) x.n 0 = some i) (hy : ms[i]? = some y) (hc : u = true ∧ x.d ≤ y.d) : addL ms x u = ms ∧ addW ms x u = 117 := by
  unfold addL addW; simp only [h, hy]
  have : (u = true ∧ x.d ≤ ((some y).map Mx.d).getD 0) := hc
  simp only [if_pos this]
  exact ⟨trivial, trivial⟩
theorem addL_new {ms : List Mx} {x y : Mx} {u : Bool} {i : Nat} (h : nthO (nms ms) x.n 0 = some i) (hy : ms[i]? = some y) (hc : ¬ (u = true ∧ x.d ≤ y.d)) : addL ms x u = ms.set i x ∧ addW ms x u = 114 := by
  unfold addL addW; simp only [h, hy]
  have : ¬ (u = true ∧ x.d ≤ ((some y).map Mx.d).getD 0) := hc
  simp only [if_neg this]
  exact ⟨trivial, trivial⟩
theorem addL_len (ms : List Mx) (x : Mx) (u : Bool) : ms.length ≤ (addL ms x u).length ∧ (addL ms x u).length ≤ ms.length + 1 := by
  unfold addL
  split
  · simp
  · split <;> simp
theorem insL_len (L M : List Mx) (u : Bool) : ∀ k, L.length ≤ (insL L M u k).length ∧ (insL L M u k).length ≤ L.length + k
  | 0 => ⟨Nat.le_refl _, Nat.le_refl _⟩
  | k + 1 => by
    have ih := insL_len L M u k
    rw [insL]
    cases M[k]? with
    | none => exact ⟨ih.1, by show (insL L M u k).length ≤ _; omega⟩
    | some x => have := addL_len (insL L M u k) x u; exact ⟨by show _ ≤ (addL _ _ _).length; omega, by show (addL _ _ _).length ≤ _; omega⟩
theorem insE_len (L M : List Mx) (u : Bool) : ∀ k, k ≤ M.length → (insE L M u k).length = k
  | 0, _ => rfl
  | k + 1, h => by
    have ih := insE_len L M u k (by omega)
    rw [insE_step (List.getElem?_eq_getElem (show k < M.length by omega)), List.length_append, ih]; rfl
/-- names are as they were behind a replacement -/
theorem nms_set {ms : List Mx} {x : Mx} {i : Nat} (h : nthO (nms ms) x.n 0 = some i) : nms (ms.set i x) = nms ms := by
  obtain ⟨hl, hg⟩ := nthO_lt h
  apply List.ext_getElem?
  intro j
  rw [List.getElem?_map]
  by_cases hj : j = i
  · subst hj
    rw [List.length_map] at hl
    rw [List.getElem?_set_self hl, hg]; rfl
  · rw [List.getElem?_set_ne (Ne.symm hj), List.getElem?_map]
theorem nthO_app {A B : List ByteArray} {q : ByteArray} : nthO (A ++ B) q 0 = match nthO A q 0 with | some i => some i | none => (nthO B q 0).map (· + A.length) := by
  induction A with
  | nil =>
    show nthO B q 0 = (nthO B q 0).map (· + 0)
    cases nthO B q 0 <;> rfl
  | cons x r ih =>
    by_cases hx : x = q
    · rw [List.cons_append, nthO_hit hx, nthO_hit hx]
    · rw [List.cons_append, nthO_miss hx, nthO_miss hx, ih]
      cases nthO r q 0 with
      | some i => rfl
      | none =>
        cases nthO B q 0 with
        | none => rfl
        | some j => simp; omega
/-- the map behind a new one -/
def mapN (ms : List Mx) : ByteArray → Option Int := fun n => (nthO (nms ms) n 0).map Int.ofNat
theorem mapN_new {ms : List Mx} {x : Mx} (h : nthO (nms ms) x.n 0 = none) : mapN (ms ++ [x]) = (fun m => if m = x.n then some (ms.length : Int) else mapN ms m) := by
  funext n
  unfold mapN
  have e : nms (ms ++ [x]) = nms ms ++ [x.n] := by unfold nms; simp
  rw [e, nthO_app]
  by_cases hn : n = x.n
  · subst hn
    rw [if_pos rfl, h, nthO_hit rfl]
    simp
  · rw [if_neg hn, nthO_miss (Ne.symm hn)]
    cases nthO (nms ms) n 0 with
    | some i => rfl
    | none => rfl
theorem mapN_set {ms : List Mx} {x : Mx} {i : Nat} (h : nthO (nms ms) x.n 0 = some i) : mapN (ms.set i x) = mapN ms := by unfold mapN; rw [nms_set h]
theorem fromF_mapN (L : List Mx) : fromF (nms L) 0 = mapN L := by
  funext n
  unfold fromF mapN
  rw [List.drop_zero]; rfl
end Go.Proofs.Ytaaagdmhokgcjaa
