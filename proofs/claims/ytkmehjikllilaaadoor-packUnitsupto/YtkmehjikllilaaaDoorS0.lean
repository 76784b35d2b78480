
-- Plain: where a string ends in a table.
import Derived.Test.YtkmehjikllilaaaDoorE0
import Derived.Lib.Bytealg
namespace Go.Proofs.YtkmehjikllilaaaDoor
/-- the string at off ends at j: there is the first byte 0 from off on -/
def StrAt (b : ByteArray) (off j : Nat) : Prop := off ≤ j ∧ j < b.size ∧ byt b j = 0 ∧ ∀ i, off ≤ i → i < j → byt b i ≠ 0
def NoStr (b : ByteArray) (off : Nat) : Prop := ∀ i, off ≤ i → i < b.size → byt b i ≠ 0
theorem str_or (b : ByteArray) (off : Nat) : (∃ j, StrAt b off j) ∨ NoStr b off := by
  suffices h : ∀ n, (∃ j, StrAt b off j) ∨ (∀ i, off ≤ i → i < off + n → i < b.size → byt b i ≠ 0) by
    rcases h (b.size) with h | h
    · exact Or.inl h
    · exact Or.inr fun i h1 h2 => h i h1 (by omega) h2
  intro n
  induction n with
  | zero => exact Or.inr fun i h1 h2 => by omega
  | succ n ih =>
    rcases ih with ih | ih
    · exact Or.inl ih
    · by_cases h1 : off + n < b.size
      · by_cases h0 : byt b (off + n) = 0
        · exact Or.inl ⟨off + n, by omega, h1, h0, fun i h2 h3 => ih i h2 h3 (by omega)⟩
        · refine Or.inr fun i h2 h3 h4 => ?_
          by_cases e : i = off + n
          · subst e; exact h0
          · exact ih i h2 (by omega) h4
      · exact Or.inr fun i h2 h3 h4 => ih i h2 (by omega) h4

theorem index_ok (c : UInt8) : ∀ (l : List UInt8) (k : Nat), l[k]? = some c → (∀ i, i < k → l[i]? ≠ some c) → Lib.indexByte l c = k
  | [], k, h, _ => by simp at h
  | b :: l, 0, h, _ => by
    have e : b = c := by simpa using h
    simp [Lib.indexByte, e]
  | b :: l, k + 1, h, hb => by
    have e : b ≠ c := by have := hb 0 (by omega); simpa using this
    have ih := index_ok c l k (by simpa using h) (fun i hi => by have := hb (i + 1) (by omega); simpa using this)
    have e2 : (b == c) = false := by simpa using e
    have e3 : ((k : Int) == -1) = false := by simp
    simp only [Lib.indexByte, e2, ih, e3, Bool.false_eq_true, if_false]
    omega
theorem index_none (c : UInt8) : ∀ (l : List UInt8), (∀ i : Nat, l[i]? ≠ some c) → Lib.indexByte l c = -1
  | [], _ => rfl
  | b :: l, hb => by
    have e : b ≠ c := by have := hb 0; simpa using this
    have ih := index_none c l (fun i => by have := hb (i + 1); simpa using this)
    have e2 : (b == c) = false := by simpa using e
    simp [Lib.indexByte, e2, ih]
theorem ext_get (b : ByteArray) (off i : Nat) : (b.extract off b.size).data.toList[i]? = b.data.toList[off + i]? := by
  rw [ext_toList, List.getElem?_drop, List.take_of_length_le (by simp)]
theorem byt_zero_iff (b : ByteArray) (i : Nat) (h : i < b.size) : b.data.toList[i]? = some 0 ↔ byt b i = 0 := by
  have hl : i < b.data.toList.length := by simpa using h
  unfold byt
  rw [List.getD_eq_getElem?_getD, List.getElem?_eq_getElem hl]
  simp only [Option.some.injEq, Option.getD_some]
  constructor
  · intro e; rw [e]; rfl
  · intro e; exact UInt8.toNat_inj.1 (by simpa using e)
theorem index_str (b : ByteArray) (off j : Nat) (h : StrAt b off j) : Lib.indexByte (b.extract off b.size).data.toList 0 = (j : Int) - off := by
  obtain ⟨h1, h2, h3, h4⟩ := h
  have := index_ok 0 (b.extract off b.size).data.toList (j - off) (by rw [ext_get, show off + (j - off) = j by omega]; exact (byt_zero_iff b j h2).2 h3)
    (fun i hi => by
      rw [ext_get]; intro e
      exact h4 (off + i) (by omega) (by omega) ((byt_zero_iff b _ (by omega)).1 e))
  rw [this]; omega
theorem index_no (b : ByteArray) (off : Nat) (h : NoStr b off) : Lib.indexByte (b.extract off b.size).data.toList 0 = -1 := by
  refine index_none 0 _ fun i => ?_
  rw [ext_get]; intro e
  have hl : b.data.toList.length = b.size := by simp
  have hi : off + i < b.size := by
    by_cases h : off + i < b.size
    · exact h
    · rw [List.getElem?_eq_none (by omega)] at e; cases e
  exact h (off + i) (by omega) hi ((byt_zero_iff b _ hi).1 e)
end Go.Proofs.YtkmehjikllilaaaDoor
