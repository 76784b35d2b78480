
-- Plain: the document keeps the old ones and the new ones apart.
import Derived.Test.YtaaagdmhokgcjaaI0
namespace Go.Proofs.Ytaaagdmhokgcjaa
set_option linter.unusedVariables false
set_option maxRecDepth 100000
theorem nms_app (A D : List Mx) : nms (A ++ D) = nms A ++ nms D := by unfold nms; simp
theorem addS_new {A D : List Mx} {x : Mx} {u : Bool} (h1 : nthO (nms A) x.n 0 = none) (h2 : nthO (nms D) x.n 0 = none) : addL (A ++ D) x u = A ++ (D ++ [x]) ∧ addW (A ++ D) x u = 97 := by
  have h : nthO (nms (A ++ D)) x.n 0 = none := by rw [nms_app, nthO_app, h1, h2]; rfl
  obtain ⟨e1, e2⟩ := addL_none (u := u) h
  exact ⟨by rw [e1, List.append_assoc], e2⟩
theorem addS_old {A D : List Mx} {x y : Mx} {u : Bool} {i : Nat} (h1 : nthO (nms A) x.n 0 = some i) (hy : A[i]? = some y) : nthO (nms (A ++ D)) x.n 0 = some i ∧ (A ++ D)[i]? = some y ∧ (A ++ D).set i x = A.set i x ++ D := by
  have hi := (List.getElem?_eq_some_iff.1 hy).1
  refine ⟨by rw [nms_app, nthO_app, h1], by rw [List.getElem?_append_left hi]; exact hy, ?_⟩
  rw [List.set_append, if_pos hi]
theorem addS_added {A D : List Mx} {x y : Mx} {u : Bool} {j : Nat} (h1 : nthO (nms A) x.n 0 = none) (h2 : nthO (nms D) x.n 0 = some j) (hy : D[j]? = some y) : nthO (nms (A ++ D)) x.n 0 = some (j + A.length) ∧ (A ++ D)[j + A.length]? = some y ∧ (A ++ D).set (j + A.length) x = A ++ D.set j x := by
  refine ⟨by rw [nms_app, nthO_app, h1, h2]; simp, ?_, ?_⟩
  · rw [List.getElem?_append_right (by omega), Nat.add_sub_cancel]; exact hy
  · rw [List.set_append, if_neg (by omega), Nat.add_sub_cancel]
end Go.Proofs.Ytaaagdmhokgcjaa
