
-- index.nameAll: a contract.
import Derived.Test.YtegjklllnegghaaGreatDoorNB
import Derived.Test.YtegjklllnegghaaGreatDoorShelf
namespace Go.Proofs.YtegjklllnegghaaGreatDoor
open Go.ChangeShapes Go.WideShapes Go.ChangeAt Go.RowKit
set_option linter.unusedVariables false
set_option maxRecDepth 100000
theorem ib_at (l : List UInt8) (i : Nat) (h : l[i]? = some 0) (hb : ∀ j, j < i → l[j]? ≠ some 0) : Lib.indexByte l 0 = (i : Int) := by
  induction l generalizing i with
  | nil => simp at h
  | cons a r ih =>
    unfold Lib.indexByte
    cases i with
    | zero => simp at h; subst h; simp
    | succ i =>
      have ha : (a == 0) = false := by
        have := hb 0 (by omega)
        simpa using this
      have hr := ih i (by simpa using h) (fun j hj => by have := hb (j + 1) (by omega); simpa using this)
      rw [ha, hr]
      have : ((i : Int) == -1) = false := by first | (simp; done) | (simp; omega)
      simp [this]
theorem ib_no (l : List UInt8) (hb : ∀ j : Nat, l[j]? ≠ some 0) : Lib.indexByte l 0 = -1 := by
  induction l with
  | nil => rfl
  | cons a r ih =>
    unfold Lib.indexByte
    have ha : (a == 0) = false := by
      have := hb 0
      simpa using this
    have hr := ih (fun j => by have := hb (j + 1); simpa using this)
    rw [ha, hr]; rfl
theorem ibd_at {b : List UInt8} {p e : Nat} (h : zAt b p = some e) : Lib.indexByte (b.drop p) 0 = ((e - p : Nat) : Int) := by
  obtain ⟨h1, h2, h3, h4⟩ := zAt_some h
  exact ib_at _ _ (by rw [List.getElem?_drop, show p + (e - p) = e by omega]; exact h3) (fun j hj => by rw [List.getElem?_drop]; exact h4 (p + j) (by omega) (by omega))
theorem ibd_no {b : List UInt8} {p : Nat} (h : zAt b p = none) : Lib.indexByte (b.drop p) 0 = -1 :=
  ib_no _ (fun j => by rw [List.getElem?_drop]; exact zAt_none h (p + j) (by omega))
theorem zAt_mono {b : List UInt8} {p q e : Nat} (h : zAt b p = some e) (h1 : p ≤ q) (h2 : q ≤ e) : zAt b q = some e := by
  obtain ⟨a1, a2, a3, a4⟩ := zAt_some h
  exact zAt_at _ _ _ h2 a3 (fun j hj hje => a4 j (by omega) hje)
/-- a row of numbers that fills up -/
def rowU (f : Nat → Int) (n k : Nat) : Array Value := ((List.range n).map (fun i => Value.int .i64 (if i < k then f i else 0))).toArray
theorem rowU_size (f : Nat → Int) (n k : Nat) : (rowU f n k).size = n := by simp [rowU]
theorem rowU_get (f : Nat → Int) (n k i : Nat) (h : i < n) : (rowU f n k)[i]? = some (.int .i64 (if i < k then f i else 0)) := by simp [rowU, h]
theorem putAt_oneU (old : Array Value) (i : Nat) (v : Value) (h : i < old.size) (j : Nat) : (putAt old i #[v])[j]? = if j = i then some v else old[j]? := by
  unfold putAt
  simp only [List.getElem?_toArray, List.getElem?_append, List.length_append, List.length_take, Array.length_toList]
  have e : min i old.size = i := by omega
  rw [e]
  by_cases h1 : j < i
  · simp [h1, show j < i + 1 by omega, show ¬ j = i by omega]
  · by_cases h2 : j = i
    · subst h2; simp
    · simp [h2, show ¬ j < i + 1 by omega, show i + 1 + (j - (i + 1)) = j by omega]
theorem putAt_oneU_size (old : Array Value) (i : Nat) (v : Value) (h : i < old.size) : (putAt old i #[v]).size = old.size := by
  unfold putAt; simp; omega
theorem rowU_put (f : Nat → Int) (n k : Nat) (hk : k < n) (z : Int) (hz : z = f k) : putAt (rowU f n k) k #[.int .i64 z] = rowU f n (k + 1) := by
  subst hz
  have hs := rowU_size f n k
  apply Array.ext_getElem?
  intro j
  rw [putAt_oneU _ _ _ (by omega)]
  by_cases hj : j < n
  · rw [rowU_get f n (k + 1) j hj]
    by_cases e : j = k
    · subst e; rw [if_pos rfl, if_pos (by omega)]
    · rw [if_neg e, rowU_get f n k j hj]
      by_cases h : j < k
      · rw [if_pos h, if_pos (by omega)]
      · rw [if_neg h, if_neg (by omega)]
  · rw [if_neg (by omega), Array.getElem?_eq_none (by omega), Array.getElem?_eq_none (by rw [rowU_size]; omega)]
theorem mk_ints (f : Nat → Int) (n : Nat) (hn : n ≤ 67108864) (W : World) : (Instr.makeSlice 105 (.int .i64 n) (.int .i64 n)).run Tryz.prog W = .ok (.slice (some ⟨W.heap.size, 0, none⟩) n n) (W.alloc (.cells (rowU f n 0) 3)) := by
  have i3 : (Tryz.prog.info? 3).map (fun i => (i.zero, i.size, i.bytes)) = some (some (.int .i64 0), 1, 8) := by kernel_rfl
  obtain ⟨i0, hi, hz0, hz1, hz2⟩ := info_parts i3
  rw [run_make W 105 3 i0 _ Tryz.underlying105 hi hz0 .i64 .i64 n n (by omega) (by omega) (by rw [hz2]; omega) (by omega), hz1, Int.toNat_natCast, Nat.mul_one]
  have : madeCells (Value.int .i64 0).cells n = rowU f n 0 := by
    apply Array.ext_getElem?
    intro j
    by_cases hj : j < n
    · rw [rowU_get f n 0 j hj, if_neg (by omega)]
      simp [madeCells, Value.cells, hj, Nat.mod_one]
    · rw [Array.getElem?_eq_none (by rw [size_madeCells]; omega), Array.getElem?_eq_none (by rw [rowU_size]; omega)]
  rw [this]
theorem rowF_name (f g : Nat → En) (n i : Nat) (hi : i < n) (nm : ByteArray) (h1 : g i = ⟨nm, (f i).pl⟩) (h2 : ∀ j, j ≠ i → g j = f j) : putAt (rowF f n n) (2 * i) #[.string nm] = rowF g n n := by
  have hz := rowF_size f n n
  refine rowF_ext (by rw [putAt_oneU_size _ _ _ (by omega), hz]) fun j hj => ?_
  obtain ⟨g1, g2⟩ := rowF_get f n n j hj
  rw [if_pos hj] at g1 g2 ⊢
  have p1 := putAt_oneU (rowF f n n) (2 * i) (.string nm) (by omega) (2 * j)
  have p2 := putAt_oneU (rowF f n n) (2 * i) (.string nm) (by omega) (2 * j + 1)
  rw [p1, p2, if_neg (show ¬ 2 * j + 1 = 2 * i by omega)]
  by_cases e : j = i
  · subst e; rw [if_pos rfl, h1]; exact ⟨rfl, g2⟩
  · rw [if_neg (by omega), h2 j e]; exact ⟨g1, g2⟩
/-- the names that are given behind k of the places -/
def fM (SL : List UInt8) (bg : Nat → Nat) (pl : Nat → Int) (p : Nat → Nat) (k i : Nat) : En := ⟨if (List.range k).any (fun j => p j == i) = true then nmS SL (bg i) else ⟨#[]⟩, pl i⟩
def fN (SL : List UInt8) (bg : Nat → Nat) (pl : Nat → Int) (i : Nat) : En := ⟨nmS SL (bg i), pl i⟩
theorem fM_next (SL : List UInt8) (bg : Nat → Nat) (pl : Nat → Int) (p : Nat → Nat) (k : Nat) : fM SL bg pl p (k + 1) (p k) = ⟨nmS SL (bg (p k)), (fM SL bg pl p k (p k)).pl⟩ := by
  unfold fM; rw [if_pos (by rw [List.any_eq_true]; exact ⟨k, by simp, by simp⟩)]
theorem fM_other (SL : List UInt8) (bg : Nat → Nat) (pl : Nat → Int) (p : Nat → Nat) (k j : Nat) (h : j ≠ p k) : fM SL bg pl p (k + 1) j = fM SL bg pl p k j := by
  unfold fM
  have e : (List.range (k + 1)).any (fun x => p x == j) = (List.range k).any (fun x => p x == j) := by
    rw [List.range_succ, List.any_append]; simp [show ¬ p k = j from fun q => h q.symm]
  rw [e]
def namesOk (SL : List UInt8) (bg : Nat → Nat) (n : Nat) : Bool := (List.range n).all (fun i => (nmE SL (bg i)).isSome)
def stopOk (SL : List UInt8) (bg : Nat → Nat) (p : Nat → Nat) (k : Nat) (st : Int) : Prop := (k = 0 ∧ st = -1) ∨ (0 < k ∧ ∃ e : Nat, st = (e : Int) ∧ zAt SL (bg (p (k - 1))) = some e)
theorem rowF_congr {f g : Nat → En} {n : Nat} (h : ∀ i, i < n → f i = g i) : rowF f n n = rowF g n n := by
  refine rowF_ext (rowF_size f n n) fun i hi => ?_
  have := rowF_get f n n i hi
  rw [if_pos hi] at this ⊢
  rw [← h i hi]; exact this
end Go.Proofs.YtegjklllnegghaaGreatDoor
