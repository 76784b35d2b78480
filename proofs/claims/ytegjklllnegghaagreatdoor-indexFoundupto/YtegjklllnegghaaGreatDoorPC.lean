
-- Plain mathematics: a row's names cut off one by one.
import Derived.Test.YtegjklllnegghaaGreatDoorRB
import Derived.Lib.IndexMore
import Derived.Lib.TrimByte
namespace Go.Proofs.YtegjklllnegghaaGreatDoor
set_option linter.unusedVariables false
set_option maxRecDepth 100000
theorem occ_zero (l : List UInt8) (j : Nat) : Lib.occAt l [0] j = decide (l[j]? = some 0) := by
  unfold Lib.occAt
  rw [Bool.eq_iff_iff]
  rw [List.isPrefixOf_iff_prefix, decide_eq_true_eq]
  constructor
  · rintro ⟨t, ht⟩
    have : (l.drop j)[0]? = some 0 := by rw [← ht]; rfl
    rw [List.getElem?_drop, Nat.add_zero] at this; exact this
  · intro h
    obtain ⟨h1, h2⟩ := List.getElem?_eq_some_iff.1 h
    refine ⟨l.drop (j + 1), ?_⟩
    rw [List.drop_eq_getElem_cons h1, h2]; rfl
theorem cut_yes {b : List UInt8} {p e : Nat} (h : zAt b p = some e) : Lib.cut (b.drop p) [0] = ((b.drop p).take (e - p), b.drop (e + 1), true) := by
  obtain ⟨h1, h2, h3, h4⟩ := zAt_some h
  have hi : Lib.index (b.drop p) [0] = ((e - p : Nat) : Int) := Lib.index_first (by rw [List.length_drop]; omega) (by rw [occ_zero, List.getElem?_drop, show p + (e - p) = e by omega, h3]; rfl) (fun j hj => by rw [occ_zero, List.getElem?_drop]; exact decide_eq_false (h4 (p + j) (by omega) (by omega)))
  unfold Lib.cut
  rw [hi, if_pos (by omega), Int.toNat_natCast, List.drop_drop]
  simp only [List.length_cons, List.length_nil]
  rw [show p + (e - p + (0 + 1)) = e + 1 by omega]
theorem cut_no {b : List UInt8} {p : Nat} (h : zAt b p = none) : Lib.cut (b.drop p) [0] = (b.drop p, [], false) := by
  have hi : Lib.index (b.drop p) [0] = -1 := Lib.index_none (fun j hj => by rw [occ_zero, List.getElem?_drop]; exact decide_eq_false (zAt_none h (p + j) (by omega)))
  unfold Lib.cut
  rw [hi, if_neg (by omega)]
theorem dwnil (q : UInt8 → Bool) (l : List UInt8) : l.dropWhile q = [] ↔ ∀ x ∈ l, q x = true := by
  induction l with
  | nil => simp
  | cons a r ih =>
    rw [List.dropWhile_cons]
    by_cases h : q a = true
    · rw [if_pos h, ih]; simp [h]
    · rw [if_neg h]; simp [h]
theorem twmem (q : UInt8 → Bool) (l : List UInt8) (x : UInt8) (h : x ∈ l.takeWhile q) : q x = true := by
  induction l with
  | nil => simp at h
  | cons a r ih =>
    rw [List.takeWhile_cons] at h
    by_cases ha : q a = true
    · rw [if_pos ha] at h
      rcases List.mem_cons.1 h with rfl | h
      · exact ha
      · exact ih h
    · rw [if_neg ha] at h; simp at h
theorem trim_zero (b : List UInt8) (p : Nat) : Lib.trimB (b.drop p) 0 = [] ↔ zerosB b p = true := by
  unfold Lib.trimB Lib.trimLeftB Lib.trimRightB zerosB
  rw [dwnil, List.all_eq_true]
  constructor
  · intro h c hc
    by_cases e : c ∈ ((b.drop p).reverse.dropWhile (· == 0)).reverse
    · simpa using h c e
    · have h2 : (b.drop p).reverse.takeWhile (· == 0) ++ (b.drop p).reverse.dropWhile (· == 0) = (b.drop p).reverse := List.takeWhile_append_dropWhile
      have h3 : c ∈ (b.drop p).reverse := by simpa using hc
      rw [← h2, List.mem_append] at h3
      rcases h3 with h3 | h3
      · exact twmem (fun x => x == 0) _ _ h3
      · exact absurd (by simpa using h3) e
  · intro h c hc
    rw [List.mem_reverse] at hc
    exact h c (by have := (List.dropWhile_sublist (fun x : UInt8 => x == 0)).subset hc; simpa using this)
theorem beW_drop (b : List UInt8) (q p w : Nat) : beW (b.drop q) p w = beW b (q + p) w := by unfold beW; rw [List.drop_drop]
theorem leW_drop (b : List UInt8) (q p w : Nat) : leW (b.drop q) p w = leW b (q + p) w := by unfold leW; rw [List.drop_drop]
/-- a row that fills up -/
def rowF (f : Nat → En) (n k : Nat) : Array Value := (cellsE ((List.range n).map (fun i => if i < k then f i else ⟨⟨#[]⟩, 0⟩))).toArray
theorem rowF_size (f : Nat → En) (n k : Nat) : (rowF f n k).size = n * 2 := by unfold rowF; simp [cellsE_len]
theorem rowF_get (f : Nat → En) (n k i : Nat) (h : i < n) : (rowF f n k)[2 * i]? = some (.string (if i < k then f i else ⟨⟨#[]⟩, 0⟩).name) ∧ (rowF f n k)[2 * i + 1]? = some (.int .i64 (if i < k then f i else ⟨⟨#[]⟩, 0⟩).pl) := by
  unfold rowF
  have := cellsE_get ((List.range n).map (fun i => if i < k then f i else ⟨⟨#[]⟩, 0⟩)) i (if i < k then f i else ⟨⟨#[]⟩, 0⟩) (by simp [h])
  simpa using this
theorem rowF_ext {A : Array Value} {f : Nat → En} {n k : Nat} (hs : A.size = n * 2) (h : ∀ i, i < n → A[2 * i]? = some (.string (if i < k then f i else ⟨⟨#[]⟩, 0⟩).name) ∧ A[2 * i + 1]? = some (.int .i64 (if i < k then f i else ⟨⟨#[]⟩, 0⟩).pl)) : A = rowF f n k := by
  apply Array.ext_getElem?
  intro j
  by_cases hj : j < n * 2
  · obtain ⟨i, hi⟩ : ∃ i, j = 2 * i ∨ j = 2 * i + 1 := ⟨j / 2, by omega⟩
    have hin : i < n := by omega
    rcases hi with rfl | rfl
    · rw [(h i hin).1, (rowF_get f n k i hin).1]
    · rw [(h i hin).2, (rowF_get f n k i hin).2]
  · rw [Array.getElem?_eq_none (by omega), Array.getElem?_eq_none (by rw [rowF_size]; omega)]
theorem putAt_two (old : Array Value) (i : Nat) (x y : Value) (h : i + 2 ≤ old.size) (j : Nat) : (putAt old i #[x, y])[j]? = if j = i then some x else if j = i + 1 then some y else old[j]? := by
  unfold putAt
  simp only [List.getElem?_toArray, List.getElem?_append, List.length_append, List.length_take, Array.length_toList]
  have e : min i old.size = i := by omega
  rw [e]
  by_cases h1 : j < i
  · simp [h1, show j < i + 2 by omega, show ¬ j = i by omega, show ¬ j = i + 1 by omega]
  · by_cases h2 : j = i
    · subst h2; simp
    · by_cases h3 : j = i + 1
      · subst h3; simp; intro q; omega
      · simp [h2, h3, show ¬ j < i + 2 by omega, show i + 2 + (j - (i + 2)) = j by omega]
theorem putAt_two_size (old : Array Value) (i : Nat) (x y : Value) (h : i + 2 ≤ old.size) : (putAt old i #[x, y]).size = old.size := by
  unfold putAt; simp; omega
theorem rowF_put (f : Nat → En) (n k : Nat) (hk : k < n) (nm : ByteArray) (pl : Int) (hf : f k = ⟨nm, pl⟩) : putAt (rowF f n k) (2 * k) #[.string nm, .int .i64 pl] = rowF f n (k + 1) := by
  have hz := rowF_size f n k
  refine rowF_ext (by rw [putAt_two_size _ _ _ _ (by omega), hz]) fun i hi => ?_
  obtain ⟨g1, g2⟩ := rowF_get f n k i hi
  have p1 := putAt_two (rowF f n k) (2 * k) (.string nm) (.int .i64 pl) (by omega) (2 * i)
  have p2 := putAt_two (rowF f n k) (2 * k) (.string nm) (.int .i64 pl) (by omega) (2 * i + 1)
  rw [p1, p2]
  by_cases e : i = k
  · subst e
    refine ⟨?_, ?_⟩
    · rw [if_pos rfl, if_pos (show i < i + 1 by omega), hf]
    · rw [if_neg (show ¬ 2 * i + 1 = 2 * i by omega), if_pos rfl, if_pos (show i < i + 1 by omega), hf]
  · have hq : (if i < k + 1 then f i else (⟨⟨#[]⟩, 0⟩ : En)) = if i < k then f i else ⟨⟨#[]⟩, 0⟩ := by
      by_cases h : i < k
      · rw [if_pos h, if_pos (by omega)]
      · rw [if_neg h, if_neg (by omega)]
    rw [hq]
    refine ⟨?_, ?_⟩
    · rw [if_neg (show ¬ 2 * i = 2 * k by omega), if_neg (show ¬ 2 * i = 2 * k + 1 by omega)]; exact g1
    · rw [if_neg (show ¬ 2 * i + 1 = 2 * k by omega), if_neg (show ¬ 2 * i + 1 = 2 * k + 1 by omega)]; exact g2
theorem rowF_full (f : Nat → En) (n : Nat) : (rowF f n n).toList = cellsE ((List.range n).map f) := by
  unfold rowF
  have : (List.range n).map (fun i => if i < n then f i else ⟨⟨#[]⟩, 0⟩) = (List.range n).map f := by
    apply List.map_congr_left; intro i hi; rw [if_pos (by simpa using hi)]
  rw [this]
end Go.Proofs.YtegjklllnegghaaGreatDoor
