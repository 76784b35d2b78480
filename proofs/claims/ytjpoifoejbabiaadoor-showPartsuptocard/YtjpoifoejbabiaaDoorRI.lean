
-- The document's List.
import Derived.Test.YtjpoifoejbabiaaDoorRL
namespace Go.Proofs.YtjpoifoejbabiaaDoor
open Go.ChangeShapes Go.WideShapes Go.ChangeAt Go.RowKit
set_option linter.unusedVariables false
set_option maxRecDepth 100000
set_option linter.unusedSimpArgs false
theorem one_byteL (c : Int) : ∀ u ∈ [Value.int .u8 c], u.oneCell' = true := by
  intro u hu
  simp only [List.mem_cons, List.not_mem_nil, or_false] at hu
  subst hu; rfl
/-- what is told of a member -/
def lstL (vb : Bool) (m : Mx) : List UInt8 := if vb then lsq (lineB m) else QL m.n ++ [10]
def lstsL (vb : Bool) (L : List Mx) : List UInt8 := L.flatMap (lstL vb)
theorem lineB_size {m : Mx} (h : okM m) : (lineB m).size ≤ 600 + 4 * m.n.size := by
  obtain ⟨_, h2, h3, _, h5⟩ := h
  unfold lineB
  simp only [ByteArray.size_append]
  have e1 : (⟨#[32]⟩ : ByteArray).size = 1 := rfl
  have e2 : (⟨#[47]⟩ : ByteArray).size = 1 := rfl
  have e3 : (⟨#[10]⟩ : ByteArray).size = 1 := rfl
  have a1 := modeB_size m.m
  have a2 := itB_size h2
  have a3 := itB_size h3
  have a4 := itB_size h5
  have a5 := padB_size (itB m.s)
  have a6 := dateT_size m.d
  have a7 := QL_len m.n
  rw [strB_size]
  omega
theorem lstL_len {vb : Bool} {m : Mx} (h : okM m) : (lstL vb m).length ≤ 600 + 4 * (m.n.size + m.dt.size) := by
  unfold lstL
  have a := lineB_size h
  have b := QL_len m.n
  cases vb with
  | false => rw [if_neg (by simp), List.length_append]; simp; omega
  | true => rw [if_pos rfl, lsq_size]; omega
theorem lsts_len (vb : Bool) (L : List Mx) (h : ∀ m ∈ L, okM m) : (lstsL vb L).length ≤ 4 * totM L + 600 * L.length := by
  unfold lstsL totM
  induction L with
  | nil => simp
  | cons e r ih =>
    have := lstL_len (vb := vb) (h e (by simp))
    have := ih (fun m hm => h m (by simp [hm]))
    simp only [List.flatMap_cons, List.length_append, List.map_cons, List.sum_cons, List.length_cons]; omega
theorem lsts_take {vb : Bool} {L : List Mx} {k : Nat} {x : Mx} (h : L[k]? = some x) : lstsL vb (L.take (k + 1)) = lstsL vb (L.take k) ++ lstL vb x := by
  unfold lstsL; rw [takeSucc h, List.flatMap_append]; simp
def ListOk (f : Nat) : Prop := ∀ (v : Value) (L : List Mx) (vb : Bool) (w : World), RowM w v L → L.length ≤ 2097152 → totM L ≤ 2097152 → (∀ m ∈ L, okM m) → LTabs w → Calls Tryd.prog f #[v, .bool vb] w fun e w' => e = .returned (.string (strB (lstsL vb L))) ∧ Below w.heap.size w w'
end Go.Proofs.YtjpoifoejbabiaaDoor
