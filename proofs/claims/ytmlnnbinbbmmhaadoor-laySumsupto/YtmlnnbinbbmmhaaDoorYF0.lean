
-- What Plan answers.
import Derived.Test.YtmlnnbinbbmmhaaDoorYE0
namespace Go.Proofs.YtmlnnbinbbmmhaaDoor
open Go.ChangeShapes Go.WideShapes Go.ChangeAt Go.RowKit
set_option linter.unusedVariables false
set_option maxRecDepth 100000
/-- what Plan answers -/
def PlanSays (A : Pa) (w : World) (e : Ending) (w' : World) : Prop := ∃ ao n c, e = .returned (.tuple #[.agg #[.slice ao n c, .int .i64 A.tb, .int .i64 A.tt], .int .i64 A.e]) ∧ w'.ownsRow w.heap.size 3 1 (.slice ao n c) A.a.length (A.a.flatMap nmL) ∧ n = A.a.length ∧ Below w.heap.size w w'
theorem planNo (x : Int) {w w' : World} (hb : Below w.heap.size w w') : PlanSays ⟨[], 0, 0, x⟩ w (.returned (.tuple #[.agg #[.slice none 0 0, .int .i64 0, .int .i64 0], .int .i64 x])) w' := ⟨none, 0, 0, rfl, ⟨rfl, .inl ⟨rfl, rfl⟩⟩, rfl, hb⟩
theorem intAt_own {f : Nat → Int} {w : World} {B g n : Nat} (hm : n ≤ 1100000) (hB : B ≤ g) (h : w.heap[g]? = some (.cells (intAt f n n) 3 (0, 0))) : w.ownsRow B 3 1 (.slice (some ⟨g, 0, none⟩) n n) ((List.range n).map f).length (((List.range n).map f).flatMap nmL) := by
  have e : ((List.range n).map f).flatMap nmL = (List.range n).map fun i => Value.int .i64 (f i) := by
    generalize List.range n = l
    induction l with
    | nil => rfl
    | cons a r ih => rw [List.map_cons, List.flatMap_cons, List.map_cons, ih]; rfl
  have hl : ((List.range n).map f).length = n := by simp
  rw [hl, e]
  refine ⟨by simp, .inr ⟨g, n, intAt f n n, rfl, hB, h, Nat.le_refl _, by unfold maxLen; omega, by rw [intAt_size, Nat.mul_one], ?_⟩⟩
  unfold intAt
  rw [List.toList_toArray, Nat.mul_one, List.take_of_length_le (by simp)]
  refine List.map_congr_left fun i hi => ?_
  rw [if_pos (List.mem_range.1 hi)]
theorem inl_size (k : Int) (LL : List ByteArray) (j : Nat) : isz (encA k LL).i j ≤ tot LL := by
  unfold isz encA
  split
  · split
    · show ((iL k LL).getD j ⟨#[]⟩).size ≤ _
      unfold iL
      by_cases hj : j < LL.length
      · rw [List.getD_eq_getElem?_getD, List.getElem?_map, List.getElem?_range hj]
        show (strL _).size ≤ _
        rw [strL_size]
        have h := size_tot LL j hj
        unfold iAt inlOf
        have e : ((LL.map (·.data.toList)).getD j []).length = (LL.getD j .empty).size := by
          rw [List.getD_eq_getElem?_getD, List.getD_eq_getElem?_getD, List.getElem?_map, List.getElem?_eq_getElem hj]
          simp
        split
        · omega
        · simp
      · rw [List.getD_eq_getElem?_getD, List.getElem?_eq_none (by simp; omega)]
        exact Nat.zero_le _
    · exact Nat.zero_le _
  · exact Nat.zero_le _
end Go.Proofs.YtmlnnbinbbmmhaaDoor
