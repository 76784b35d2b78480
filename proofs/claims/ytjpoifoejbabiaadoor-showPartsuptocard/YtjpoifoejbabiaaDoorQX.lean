
-- same, sameTexts, sameInts, sameEvents; rows that were made.
import Derived.Test.YtjpoifoejbabiaaDoorA1
import Derived.Laws.MakeOwn
namespace Go.Proofs.YtjpoifoejbabiaaDoor
open Go.ChangeShapes Go.WideShapes Go.ChangeAt Go.RowKit
set_option linter.unusedVariables false
set_option maxRecDepth 100000
set_option linter.unusedSimpArgs false
theorem made_flat {α : Type} (c : α → List Value) (z : Nat) (hz : 0 < z) (hc : ∀ x, (c x).length = z) (x0 : α) (n : Nat) : (madeCells (c x0).toArray (n * z)).toList = (List.replicate n x0).flatMap c := by
  apply List.ext_getElem?
  intro j
  by_cases hj : j < n * z
  · have hk : j / z < n := Nat.div_lt_of_lt_mul (by rw [Nat.mul_comm]; exact hj)
    have hm : j % z < z := Nat.mod_lt _ hz
    have e : j = j / z * z + j % z := by have := Nat.div_add_mod j z; rw [Nat.mul_comm] at this; exact this.symm
    have hr : (List.replicate n x0)[j / z]? = some x0 := by rw [List.getElem?_replicate, if_pos hk]
    have h2 := flatG_get hc (List.replicate n x0) (j / z) (j % z) x0 hr hm
    rw [← e] at h2
    have hcx := hc x0
    have h3 : (c x0)[j % z]? = some ((c x0)[j % z]'(by omega)) := List.getElem?_eq_getElem (by omega)
    rw [h2, h3]
    simp only [madeCells, Array.toList_map, Array.toList_range, List.getElem?_map, List.getElem?_range hj, Option.map_some, List.size_toArray, hcx]
    rw [getElem!_pos (c x0).toArray (j % z) (by simpa [hcx] using hm)]
    simp
  · rw [List.getElem?_eq_none (by rw [Array.length_toList, size_madeCells]; omega), List.getElem?_eq_none (by rw [flatG_len c z hc, List.length_replicate]; omega)]
def zMx : Mx := ⟨0, 0, 0, 0, ⟨#[]⟩, 0, ⟨#[]⟩⟩
theorem mk_memsR (n : Nat) (hn : n ≤ 67108864) (W : World) : (Instr.makeSlice 22 (.int .i64 n) (.int .i64 n)).run Tryd.prog W = .ok (.slice (some ⟨W.heap.size, 0, none⟩) n n) (W.alloc (.cells ((List.replicate n zMx).flatMap mxL).toArray 26)) := by
  obtain ⟨i0, hi, hz0, hz1, hz2⟩ := info_parts infoMx
  rw [run_make W 22 26 i0 _ Tryd.underlying22 hi hz0 .i64 .i64 n n (by omega) (by omega) (by rw [hz2]; omega) (by omega), hz1, Int.toNat_natCast, ← made_flat mxL 7 (by decide) mxL_len zMx n]
  rfl
theorem own_wholeG {α : Type} {c : α → List Value} {z e : Nat} {w : World} {B g n : Nat} {L : List α} (hc : ∀ x, (c x).length = z) (hl : L.length = n) (hB : B ≤ g) (hn : n ≤ maxLen) (hg : w.heap[g]? = some (.cells (L.flatMap c).toArray e (0, 0))) : w.ownsRow B e z (.slice (some ⟨g, 0, none⟩) n n) L.length (L.flatMap c) := by
  subst hl
  exact ownG_of c z hc hg hB (Nat.le_refl _) hn (by rw [List.size_toArray, flatG_len c z hc]) (by rw [List.toList_toArray, List.take_of_length_le (by rw [flatG_len c z hc]; exact Nat.le_refl _)]) rfl
theorem eqMeta13 (a b c d : Int) (w : World) : (Op.equalIn 9999 24 (.agg #[.int .i64 a, .int .i64 b, .int .i64 c, .int .i64 d]) (.agg #[.int .i64 a, .int .i64 b, .int .i64 c, .int .i64 d])).run Tryd.prog w = .ok true w := by
  have u3 := Tryd.underlying3
  have a3 := Tryd.isAgg3
  have z3 := Tryd.sizeOf3
  have hS : Tryd.prog.underlying 24 = some (.struct (Tryd.prog.fieldsOf 24)) := by kernel_rfl
  rw [show (9999 : Nat) = 9998 + 1 from rfl, run_equalIn_agg w 9998 24 _ _ hS (by kernel_rfl)]
  simp only [Program.fieldsOf, Tryd.underlying24]
  go_simp
theorem eqMx (a b c d : Int) (n : ByteArray) (s : Int) (dt : ByteArray) (w : World) : (Op.equalIn 10000 26 (.agg #[.int .i64 a, .int .i64 b, .int .i64 c, .int .i64 d, .string n, .int .i64 s, .string dt]) (.agg #[.int .i64 a, .int .i64 b, .int .i64 c, .int .i64 d, .string n, .int .i64 s, .string dt])).run Tryd.prog w = .ok true w := by
  have u3 := Tryd.underlying3
  have a3 := Tryd.isAgg3
  have z3 := Tryd.sizeOf3
  have u9 := Tryd.underlying9
  have a9 := Tryd.isAgg9
  have z9 := Tryd.sizeOf9
  have uM := Tryd.underlying24
  have aM := Tryd.isAgg24
  have zM := Tryd.sizeOf24
  have hM := eqMeta13 a b c d
  have hS : Tryd.prog.underlying 26 = some (.struct (Tryd.prog.fieldsOf 26)) := by kernel_rfl
  rw [show (10000 : Nat) = 9999 + 1 from rfl, run_equalIn_agg w 9999 26 _ _ hS (by kernel_rfl)]
  simp only [Program.fieldsOf, Tryd.underlying26]
  go_simp
theorem belDrewN {B : Nat} {w w' : World} (h : Below B w w') (m : Nat) : Below B w (w'.drewN m) := by
  induction m with
  | zero => exact h
  | succ m ih => exact ih.drew
end Go.Proofs.YtjpoifoejbabiaaDoor
