
-- Plain: Normal ahead of the operations or behind them.
import Derived.Test.YtaaagdmhokgcjabI4
import Derived.Test.YtaaagdmhokgcjabD4
namespace Go.Proofs.Ytaaagdmhokgcjab
set_option linter.unusedVariables false
set_option maxRecDepth 100000
theorem nms_nrm (L : List Mx) : nms (L.map nrm) = nms L := by unfold nms; rw [List.map_map]; rfl
section
variable {α β : Type} (f : α → β)
theorem othersTo_map (L : List α) (J : List Nat) (k : Nat) : othersTo (L.map f) J k = (othersTo L J k).map f := by
  unfold othersTo
  rw [List.map_filterMap]
  congr 1
  funext i
  by_cases h : i ∈ J
  · simp [h]
  · simp [h, List.getElem?_map]
theorem othersA_map (L : List α) (J : List Nat) : othersA (L.map f) J = (othersA L J).map f := by unfold othersA; rw [List.length_map, othersTo_map]
theorem takenA_map (L : List α) (J : List Nat) : takenA (L.map f) J = (takenA L J).map f := by
  unfold takenA
  rw [List.map_filterMap]
  congr 1
  funext i
  rw [List.getElem?_map]
end
theorem delX_nrm (L : List Mx) (Q : List ByteArray) : delX (L.map nrm) Q = (delX L Q).map nrm := by
  unfold delX
  rw [nms_nrm]
  split
  · exact othersA_map nrm L _
  · rfl
theorem delE_nrm (L : List Mx) (Q : List ByteArray) : delE (L.map nrm) Q = delE L Q := by unfold delE; rw [nms_nrm]
theorem delS_nrm (L : List Mx) (Q : List ByteArray) : delS (L.map nrm) Q = delS L Q := by unfold delS; rw [nms_nrm]
theorem spotO_nrm (L : List Mx) (pw : Int) (pa : ByteArray) : spotO (L.map nrm) pw pa = spotO L pw pa := by unfold spotO; rw [nms_nrm, List.length_map]
theorem movX_nrm (L : List Mx) (Q : List ByteArray) (pw : Int) (pa : ByteArray) : movX (L.map nrm) Q pw pa = (movX L Q pw pa).map nrm := by
  unfold movX
  rw [nms_nrm, othersA_map, spotO_nrm, takenA_map]
  split
  · split
    · simp only [List.map_append, List.map_take, List.map_drop]
    · rfl
  · rfl
theorem movE_nrm (L : List Mx) (Q : List ByteArray) (pw : Int) (pa : ByteArray) : movE (L.map nrm) Q pw pa = movE L Q pw pa := by
  unfold movE; rw [nms_nrm, othersA_map, spotO_nrm]
theorem addL_nrm (ms : List Mx) (x : Mx) : addL (ms.map nrm) (nrm x) false = (addL ms x false).map nrm := by
  unfold addL
  rw [nms_nrm]
  have e : (nrm x).n = x.n := rfl
  rw [e]
  cases nthO (nms ms) x.n 0 with
  | none => simp
  | some i => simp [List.map_set]
theorem insL_nrm (L M : List Mx) : ∀ k, insL (L.map nrm) (M.map nrm) false k = (insL L M false k).map nrm
  | 0 => rfl
  | k + 1 => by
    rw [insL, insL, List.getElem?_map]
    cases M[k]? with
    | none => exact insL_nrm L M k
    | some x =>
      show addL (insL (L.map nrm) (M.map nrm) false k) (nrm x) false = _
      rw [insL_nrm L M k, addL_nrm]
theorem insX_nrm (L M : List Mx) (pw : Int) (pa : ByteArray) : insX (L.map nrm) (M.map nrm) pw pa false = (insX L M pw pa false).map nrm := by
  unfold insX
  rw [spotO_nrm, List.length_map, List.length_map, insL_nrm]
  split
  · simp only [List.map_append, List.map_take, List.map_drop]
  · rfl
theorem insC_nrm (L M : List Mx) (pw : Int) (pa : ByteArray) : insC (L.map nrm) (M.map nrm) pw pa = insC L M pw pa := by unfold insC; rw [spotO_nrm]
/-- the fields that hang on who added them, taken from elsewhere -/
def wth (a b c d : Int) (x : Mx) : Mx := ⟨a, b, c, d, x.n, x.s, x.dt⟩
theorem nrm_wth (a b c d : Int) (L : List Mx) : (L.map (wth a b c d)).map nrm = L.map nrm := by rw [List.map_map]; rfl
end Go.Proofs.Ytaaagdmhokgcjab
