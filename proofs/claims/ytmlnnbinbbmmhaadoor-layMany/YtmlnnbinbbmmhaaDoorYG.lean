
-- LayMany: its list, plainly.
import Derived.Test.YtmlnnbinbbmmhaaDoorYF0
import Derived.Laws.MakeOwn
namespace Go.Proofs.YtmlnnbinbbmmhaaDoor
open Go.ChangeShapes Go.WideShapes Go.ChangeAt Go.RowKit
set_option linter.unusedVariables false
set_option maxRecDepth 100000
def mA : ByteArray := ⟨#[97]⟩
def manyS (m j : Nat) : List Sp := (List.range m).map fun i => (if i < j then mA else ⟨#[]⟩, 0)
theorem manyS_len (m j : Nat) : (manyS m j).length = m := by simp [manyS]
theorem manyS_at {m i : Nat} (j : Nat) (h : i < m) : (manyS m j)[i]? = some (if i < j then mA else ⟨#[]⟩, 0) := by
  unfold manyS
  rw [List.getElem?_map, List.getElem?_range h]; rfl
theorem manyS_zero (m : Nat) : manyS m 0 = List.replicate m (⟨#[]⟩, 0) := by
  apply List.ext_getElem?
  intro i
  by_cases h : i < m
  · rw [manyS_at 0 h, List.getElem?_replicate, if_pos h]; rfl
  · rw [List.getElem?_eq_none (by rw [manyS_len]; omega), List.getElem?_eq_none (by simp; omega)]
theorem manyS_put {m j : Nat} (h : j < m) : (manyS m j).set j (mA, 0) = manyS m (j + 1) := by
  apply List.ext_getElem?
  intro i
  by_cases hi : i < m
  · rw [manyS_at (j + 1) hi, List.getElem?_set]
    by_cases e : j = i
    · subst e
      rw [if_pos rfl, if_pos (by rw [manyS_len]; exact h), if_pos (by omega)]
    · rw [if_neg e, manyS_at j hi]
      by_cases h2 : i < j
      · rw [if_pos h2, if_pos (by omega)]
      · rw [if_neg h2, if_neg (by omega)]
  · rw [List.getElem?_eq_none (by rw [List.length_set, manyS_len]; omega), List.getElem?_eq_none (by rw [manyS_len]; omega)]
theorem manyS_full (m : Nat) : manyS m m = List.replicate m (mA, 0) := by
  apply List.ext_getElem?
  intro i
  by_cases h : i < m
  · rw [manyS_at m h, List.getElem?_replicate, if_pos h, if_pos h]
  · rw [List.getElem?_eq_none (by rw [manyS_len]; omega), List.getElem?_eq_none (by simp; omega)]
theorem flat_set0 (a : ByteArray) : ∀ (L : List Sp) (j : Nat) (x : ByteArray) (z : Int), L[j]? = some (x, z) → (L.flatMap enL).set (j * 2) (.string a) = (L.set j (a, z)).flatMap enL
  | [], j, x, z, h => by simp at h
  | y :: r, 0, x, z, h => by
    simp at h
    subst h
    rfl
  | y :: r, j + 1, x, z, h => by
    have ih := flat_set0 a r j x z (by simpa using h)
    rw [List.set_cons_succ, List.flatMap_cons, List.flatMap_cons, ← ih, show (j + 1) * 2 = j * 2 + 1 + 1 by omega]
    rfl
theorem many_put {m j : Nat} (h : j < m) : putAt ((manyS m j).flatMap enL).toArray (j * 2) #[.string mA] = ((manyS m (j + 1)).flatMap enL).toArray := by
  rw [putAt_at _ _ _ (by rw [List.size_toArray, flatG_len enL 2 enL_len, manyS_len]; omega)]
  apply Array.ext'
  rw [Array.toList_setIfInBounds, ← manyS_put h, ← flat_set0 mA (manyS m j) j _ 0 (manyS_at j h)]
theorem made_flatY {α : Type} (c : α → List Value) (z : Nat) (hz : 0 < z) (hc : ∀ x, (c x).length = z) (x0 : α) (n : Nat) : (madeCells (c x0).toArray (n * z)).toList = (List.replicate n x0).flatMap c := by
  apply List.ext_getElem?
  intro j
  by_cases hj : j < n * z
  · have hk : j / z < n := Nat.div_lt_of_lt_mul (by rw [Nat.mul_comm]; exact hj)
    have hm : j % z < z := Nat.mod_lt _ hz
    have e : j = j / z * z + j % z := by have := Nat.div_add_mod j z; rw [Nat.mul_comm] at this; exact this.symm
    have hr : (List.replicate n x0)[j / z]? = some x0 := by rw [List.getElem?_replicate, if_pos hk]
    have h2 := flatG_get hc (List.replicate n x0) (j / z) (j % z) x0 hr hm
    rw [← e] at h2
    have hcx := hc x0
    have h3 : (c x0)[j % z]? = some ((c x0)[j % z]'(by omega)) := List.getElem?_eq_getElem (by omega)
    rw [h2, h3]
    simp only [madeCells, Array.toList_map, Array.toList_range, List.getElem?_map, List.getElem?_range hj, Option.map_some, List.size_toArray, hcx]
    rw [getElem!_pos (c x0).toArray (j % z) (by simpa [hcx] using hm)]
    simp
  · rw [List.getElem?_eq_none (by rw [Array.length_toList, size_madeCells]; omega), List.getElem?_eq_none (by rw [flatG_len c z hc, List.length_replicate]; omega)]
theorem infoSp : (Tryd.prog.info? 24).map (fun i => (i.zero, i.size, i.bytes)) = some (some (.agg #[.string ⟨#[]⟩, .int .i64 0]), 2, 24) := by kernel_rfl
theorem mk_specs (n : Nat) (hn : n ≤ 1048576) (W : World) : (Instr.makeSlice 22 (.int .i64 n) (.int .i64 n)).run Tryd.prog W = .ok (.slice (some ⟨W.heap.size, 0, none⟩) n n) (W.alloc (.cells ((manyS n 0).flatMap enL).toArray 24)) := by
  obtain ⟨i0, hi, hz0, hz1, hz2⟩ := info_parts infoSp
  rw [run_make W 22 24 i0 _ Tryd.underlying22 hi hz0 .i64 .i64 n n (by omega) (by omega) (by rw [hz2]; omega) (by omega), hz1, Int.toNat_natCast, manyS_zero, ← made_flatY enL 2 (by decide) enL_len (⟨#[]⟩, 0) n]
  rfl
theorem many_row {w : World} {g m : Nat} (hm : m ≤ 1048576) (h : w.heap[g]? = some (.cells ((manyS m m).flatMap enL).toArray 24 (0, 0))) : RowG enL w (.slice (some ⟨g, 0, none⟩) m m) (manyS m m) := by
  refine ⟨some ⟨g, 0, none⟩, m, by rw [manyS_len], by rw [manyS_len]; exact Nat.le_refl _, by unfold maxLen; omega, (fun e => by cases e), fun _ => ⟨g, 0, rfl, fun j u hu => ?_⟩⟩
  rw [Nat.zero_add]
  exact cell_rowK h j u (by rw [List.getElem?_toArray]; exact hu)
theorem nm_many (m : Nat) : nmS (manyS m m) = List.replicate m mA := by unfold nmS; rw [manyS_full, List.map_replicate]
theorem tot_many (m : Nat) : tot (nmS (manyS m m)) = 2 * m := by
  rw [nm_many]
  unfold tot
  rw [List.map_replicate, List.sum_replicate_nat]
  show m * 2 = 2 * m
  omega
def aheadN (k : Int) (m : Nat) : Int := if k = 1 then 68 + 3 * (m : Int) + (m : Int) % 2 else 8
theorem enc_many (k : Int) (m : Nat) (hk : kindB k = true) : (encA k (nmS (manyS m m))).e = 0 ∧ (∀ j, isz (encA k (nmS (manyS m m))).i j = 0) ∧ (encA k (nmS (manyS m m))).t.size = if k = 1 then 3 * m else 0 := by
  rw [nm_many]
  have hv : allV (List.replicate m mA) = true := by
    unfold allV
    rw [List.all_eq_true]
    intro s hs
    rw [List.eq_of_mem_replicate hs]
    decide
  have e : encA k (List.replicate m mA) = ⟨fL k (List.replicate m mA), iL k (List.replicate m mA), strL (tabL k ((List.replicate m mA).map (·.data.toList))), 0⟩ := by
    unfold encA
    rw [if_pos (kindB_iff.1 hk), if_pos hv]
  rw [e]
  refine ⟨rfl, fun j => ?_, ?_⟩
  · unfold isz
    show ((iL k (List.replicate m mA)).getD j ⟨#[]⟩).size = 0
    unfold iL
    by_cases hj : j < m
    · rw [List.getD_eq_getElem?_getD, List.getElem?_map, List.getElem?_range (by rw [List.length_replicate]; exact hj)]
      show (strL _).size = 0
      rw [strL_size]
      unfold iAt
      rw [List.map_replicate, List.getD_eq_getElem?_getD, List.getElem?_replicate, if_pos hj]
      show (inlOf k [97]).length = 0
      unfold inlOf
      rw [if_neg (fun h => by have := h.2; revert this; decide)]
      rfl
    · rw [List.getD_eq_getElem?_getD, List.getElem?_eq_none (by simp; omega)]
      rfl
  · show (strL _).size = _
    rw [strL_size, List.map_replicate]
    have ht : ∀ n, (tabL k (List.replicate n mA.data.toList)).length = n * (tabOf k mA.data.toList).length := by
      intro n
      induction n with
      | zero => simp [tabL]
      | succ n ih =>
        unfold tabL at ih ⊢
        rw [List.replicate_succ, List.flatMap_cons, List.length_append, ih, Nat.add_mul, Nat.one_mul, Nat.add_comm]
    rw [ht]
    rcases kindB_iff.1 hk with rfl | rfl | rfl
    · rw [if_neg (by decide)]; rfl
    · rw [if_pos rfl, Nat.mul_comm]; rfl
    · rw [if_neg (by decide)]; rfl
theorem many_plan (k : Int) (m : Nat) (hk : kindB k = true) (hm : m ≤ 65536) (hp : 0 < m) : ∃ tb, planA k (manyS m m) (-1) = ⟨(List.range m).map (fun j : Nat => aheadN k m + 60 * (j : Int)), tb, aheadN k m + 60 * (m : Int), 0⟩ := by
  obtain ⟨h1, h2, h3⟩ := enc_many k m hk
  have hz : ∀ j, spz (manyS m m) j = 0 := fun j => by
    unfold spz
    by_cases hj : j < m
    · rw [List.getD_eq_getElem?_getD, manyS_at m hj]; rfl
    · rw [List.getD_eq_getElem?_getD, List.getElem?_eq_none (by rw [manyS_len]; omega)]; rfl
  have hs : sizesB (manyS m m) (encA k (nmS (manyS m m))).i = true := by
    unfold sizesB
    rw [List.all_eq_true]
    intro j _
    rw [hz, h2]
    decide
  have hp2 : ∀ t0 j, plN k (manyS m m) (encA k (nmS (manyS m m))).i t0 j = t0 + 60 * (j : Int) := by
    intro t0 j
    induction j with
    | zero => simp [plN]
    | succ j ih =>
      have e : plN k (manyS m m) (encA k (nmS (manyS m m))).i t0 (j + 1) = plN k (manyS m m) (encA k (nmS (manyS m m))).i t0 j + tkN k (manyS m m) (encA k (nmS (manyS m m))).i j := rfl
      rw [e, ih]
      unfold tkN bodyN roomN evN
      rw [hz, h2]
      split <;> omega
  have hh : headN (-1) (encA k (nmS (manyS m m))).t.size = aheadN k m := by
    unfold headN aheadN roomN evN
    rw [h3]
    by_cases h : k = 1
    · simp only [if_pos h]
      rw [if_pos True.intro, if_pos (by omega)]
      omega
    · simp only [if_neg h]
      rw [if_pos True.intro, if_neg (by omega)]
      rfl
  refine ⟨((encA k (nmS (manyS m m))).t.size : Int), ?_⟩
  unfold planA
  rw [if_pos ⟨hk, .inl rfl, by rw [manyS_len]; exact hm⟩, if_pos h1, if_pos hs]
  unfold layN
  rw [hh, manyS_len, hp2]
  congr 1
  exact List.map_congr_left fun j _ => hp2 _ j
theorem many_no (k : Int) (m : Nat) (h : ¬ (kindB k = true ∧ m ≤ 65536)) : planA k (manyS m m) (-1) = ⟨[], 0, 0, 12⟩ := by
  unfold planA
  rw [if_neg (fun q => h ⟨q.1, by have := q.2.2; rw [manyS_len] at this; exact this⟩)]
end Go.Proofs.YtmlnnbinbbmmhaaDoor
