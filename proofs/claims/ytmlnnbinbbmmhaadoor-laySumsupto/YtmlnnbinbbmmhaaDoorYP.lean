
-- A layout, plainly: with the names' texts.
import Derived.Test.YtmlnnbinbbmmhaaDoorEA
import Derived.Test.YtmlnnbinbbmmhaaDoorYP0
namespace Go.Proofs.YtmlnnbinbbmmhaaDoor
set_option linter.unusedVariables false
set_option maxRecDepth 100000
def layN (k : Int) (S : List Sp) (ix : Int) (E : EncA) : Pa := ⟨(List.range S.length).map (plN k S E.i (headN ix E.t.size)), (E.t.size : Int), plN k S E.i (headN ix E.t.size) S.length, 0⟩
def planA (k : Int) (S : List Sp) (ix : Int) : Pa :=
  if kindB k = true ∧ (ix = -1 ∨ sizeB ix = true) ∧ S.length ≤ 65536 then
    (if (encA k (nmS S)).e = 0 then (if sizesB S (encA k (nmS S)).i = true then layN k S ix (encA k (nmS S)) else ⟨[], 0, 0, 100⟩) else ⟨[], 0, 0, (encA k (nmS S)).e⟩)
  else ⟨[], 0, 0, 12⟩
theorem encA_i_len (k : Int) (LL : List ByteArray) (h : (encA k LL).e = 0) : (encA k LL).i.length = LL.length := by
  unfold encA at h ⊢
  split at h
  · rename_i hk
    rw [if_pos hk]
    split at h
    · rename_i hv
      rw [if_pos hv]
      unfold iL; simp
    · cases h
  · cases h
/-- a table's length -/
theorem encA_t_le (k : Int) (LL : List ByteArray) : (encA k LL).t.size ≤ 2 * tot LL := by
  unfold encA
  split
  · split
    · show (strL _).size ≤ _
      rw [strL_size]
      have := tab_take k LL LL.length
      rw [List.take_of_length_le (by simp)] at this
      exact this
    · exact Nat.zero_le _
  · exact Nat.zero_le _
theorem encA_t0 (k : Int) (LL : List ByteArray) (h : k = 2) : (encA k LL).t.size = 0 := by
  subst h
  unfold encA
  rw [if_pos (by decide)]
  split
  · show (strL _).size = 0
    rw [strL_size]
    have : ∀ L : List (List UInt8), tabL 2 L = [] := fun L => by
      unfold tabL
      rw [List.flatMap_eq_nil_iff]
      intro x _
      rfl
    rw [this]; rfl
  · rfl
end Go.Proofs.YtmlnnbinbbmmhaaDoor
