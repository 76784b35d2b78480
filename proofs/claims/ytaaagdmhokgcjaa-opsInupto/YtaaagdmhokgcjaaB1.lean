
-- same, sameTexts, sameInts, sameEvents; rows that were made.
import Derived.Test.YtaaagdmhokgcjaaA1
import Derived.Laws.MakeOwn
namespace Go.Proofs.Ytaaagdmhokgcjaa
open Go.ChangeShapes Go.WideShapes Go.ChangeAt Go.RowKit
set_option linter.unusedVariables false
set_option maxRecDepth 100000
set_option linter.unusedSimpArgs false
theorem made_flat {α : Type} (c : α → List Value) (z : Nat) (hz : 0 < z) (hc : ∀ x, (c x).length = z) (x0 : α) (n : Nat) : (madeCells (c x0).toArray (n * z)).toList = (List.replicate n x0).flatMap c := by
  apply List.ext_getElem?
  intro j
  by_cases hj : j < n * z
  · have hk : j / z < n := Nat.div_lt_of_lt_mul (by rw [Nat.mul_comm]; exact hj)
    have hm : j % z < z := Nat.mod_lt _ hz
    have e : j = j / z * z + j % z := by have := Nat.div_add_mod j z; rw [Nat.mul_comm] at this; exact this.symm
    have hr : (List.replicate n x0)[j / z]? = some x0 := by rw [List.getElem?_replicate, if_pos hk]
    have h2 := flatG_get hc (List.replicate n x0) (j / z) (j % z) x0 hr hm
    rw [← e] at h2
    have hcx := hc x0
    have h3 : (c x0)[j % z]? = some ((c x0)[j % z]'(by omega)) := List.getElem?_eq_getElem (by omega)
    rw [h2, h3]
    simp only [madeCells, Array.toList_map, Array.toList_range, List.getElem?_map, List.getElem?_range hj, Option.map_some, List.size_toArray, hcx]
    rw [getElem!_pos (c x0).toArray (j % z) (by simpa [hcx] using hm)]
    simp
  · rw [List.getElem?_eq_none (by rw [Array.length_toList, size_madeCells]; omega), List.getElem?_eq_none (by rw [flatG_len c z hc, List.length_replicate]; omega)]
def zMx : Mx := ⟨0, 0, 0, 0, ⟨#[]⟩, 0, ⟨#[]⟩⟩
theorem mk_memsR (n : Nat) (hn : n ≤ 67108864) (W : World) : (Instr.makeSlice 22 (.int .i64 n) (.int .i64 n)).run Try.prog W = .ok (.slice (some ⟨W.heap.size, 0, none⟩) n n) (W.alloc (.cells ((List.replicate n zMx).flatMap mxL).toArray 32)) := by
  obtain ⟨i0, hi, hz0, hz1, hz2⟩ := info_parts infoMx
  rw [run_make W 22 32 i0 _ Try.underlying22 hi hz0 .i64 .i64 n n (by omega) (by omega) (by rw [hz2]; omega) (by omega), hz1, Int.toNat_natCast, ← made_flat mxL 7 (by decide) mxL_len zMx n]
  rfl
theorem own_wholeG {α : Type} {c : α → List Value} {z e : Nat} {w : World} {B g n : Nat} {L : List α} (hc : ∀ x, (c x).length = z) (hl : L.length = n) (hB : B ≤ g) (hn : n ≤ maxLen) (hg : w.heap[g]? = some (.cells (L.flatMap c).toArray e (0, 0))) : w.ownsRow B e z (.slice (some ⟨g, 0, none⟩) n n) L.length (L.flatMap c) := by
  subst hl
  exact ownG_of c z hc hg hB (Nat.le_refl _) hn (by rw [List.size_toArray, flatG_len c z hc]) (by rw [List.toList_toArray, List.take_of_length_le (by rw [flatG_len c z hc]; exact Nat.le_refl _)]) rfl
theorem eqMeta13 (a b c d : Int) (w : World) : (Op.equalIn 9999 30 (.agg #[.int .i64 a, .int .i64 b, .int .i64 c, .int .i64 d]) (.agg #[.int .i64 a, .int .i64 b, .int .i64 c, .int .i64 d])).run Try.prog w = .ok true w := by
  have u3 := Try.underlying3
  have a3 := Try.isAgg3
  have z3 := Try.sizeOf3
  have hS : Try.prog.underlying 30 = some (.struct (Try.prog.fieldsOf 30)) := by kernel_rfl
  rw [show (9999 : Nat) = 9998 + 1 from rfl, run_equalIn_agg w 9998 30 _ _ hS (by kernel_rfl)]
  simp only [Program.fieldsOf, Try.underlying30]
  go_simp
theorem eqMx (a b c d : Int) (n : ByteArray) (s : Int) (dt : ByteArray) (w : World) : (Op.equalIn 10000 32 (.agg #[.int .i64 a, .int .i64 b, .int .i64 c, .int .i64 d, .string n, .int .i64 s, .string dt]) (.agg #[.int .i64 a, .int .i64 b, .int .i64 c, .int .i64 d, .string n, .int .i64 s, .string dt])).run Try.prog w = .ok true w := by
  have u3 := Try.underlying3
  have a3 := Try.isAgg3
  have z3 := Try.sizeOf3
  have u9 := Try.underlying9
  have a9 := Try.isAgg9
  have z9 := Try.sizeOf9
  have uM := Try.underlying30
  have aM := Try.isAgg30
  have zM := Try.sizeOf30
  have hM := eqMeta13 a b c d
  have hS : Try.prog.underlying 32 = some (.struct (Try.prog.fieldsOf 32)) := by kernel_rfl
  rw [show (10000 : Nat) = 9999 + 1 from rfl, run_equalIn_agg w 9999 32 _ _ hS (by kernel_rfl)]
  simp only [Program.fieldsOf, Try.underlying32]
  go_simp
theorem belDrewN {B : Nat} {w w' : World} (h : Below B w w') (m : Nat) : Below B w (w'.drewN m) := by
  induction m with
  | zero => exact h
  | succ m ih => exact ih.drew
set_option maxHeartbeats 4000000 in
theorem same_c (v1 v2 : Value) (l : List Mx) (w : World) (h1 : RowM w v1 l) (h2 : RowM w v2 l) (hn : l.length ≤ 67108864) :
    Calls Try.prog 15 #[v1, v2] w fun e w' => e = .returned (.bool true) ∧ Below w.heap.size w w' := by
  obtain ⟨a1, c1, q1, _, _⟩ := h1.form
  obtain ⟨a2, c2, q2, _, _⟩ := h2.form
  obtain ⟨n, hnn⟩ : ∃ n, n = l.length := ⟨_, rfl⟩
  have HN := hidK hnn
  have HQ1 := hidK h1
  have HQ2 := hidK h2
  subst q1
  subst q2
  rw [← hnn] at hn ⊢ HQ1 HQ2
  clear h1 h2 hnn
  go_enter Try.func15, Try.ntmps15
  go_wp2
  go_loopw [5] (fun i wx => ∃ k : Nat, i = .int .i64 k ∧ k ≤ n ∧ Below w.heap.size w wx) (fun i _ => n - (intOf i).toNat)
  case atStart => exact ⟨0, rfl, Nat.zero_le _, Below.refl _ _⟩
  case round =>
    obtain ⟨k, rfl, hkn, hB⟩ := hrel
    by_cases hk : k < n
    · have kI : (k : Int) < (n : Int) := by omega
      have k0 : (0 : Int) ≤ (k : Int) := by omega
      have hkl : k < l.length := by have := HN.out; omega
      obtain ⟨⟨dd, uu, gg, mm, nn, zz, dt⟩, hx⟩ : ∃ x, l[k]? = some x := ⟨_, List.getElem?_eq_getElem hkl⟩
      obtain ⟨b1, o1, p1, e1, d0, d1, d2, d3, d4, d5, d6⟩ := (HQ1.out.on hB).mx hx
      obtain ⟨b2, o2, p2, e2, f0, f1, f2, f3, f4, f5, f6⟩ := (HQ2.out.on hB).mx hx
      injection e1 with e1 e1b e1c
      injection e2 with e2 e2b e2c
      subst e1
      subst e2
      have hE := eqMx dd uu gg mm nn zz dt
      clear hx HQ1 HQ2 hkl e1b e1c e2b e2c
      go_wp2_with fail
      go_quiet (fail)
      have hB2 := belDrewN hB nq
      go_wp2
      go_roundw
      case rel => exact ⟨k + 1, by go_num, by omega, hB2⟩
      case measure => simp [intOf]; omega
    · obtain rfl : k = n := by omega
      clear HQ1 HQ2
      go_wp2
      go_ret
      exact ⟨rfl, hB⟩
set_option maxHeartbeats 4000000 in
theorem sameTexts_c (v1 v2 : Value) (l : List ByteArray) (w : World) (h1 : RowT w v1 l) (h2 : RowT w v2 l) (hn : l.length ≤ 67108864) :
    Calls Try.prog 24 #[v1, v2] w fun e w' => e = .returned (.bool true) ∧ Below w.heap.size w w' := by
  obtain ⟨a1, c1, q1, _, _⟩ := h1.form
  obtain ⟨a2, c2, q2, _, _⟩ := h2.form
  obtain ⟨n, hnn⟩ : ∃ n, n = l.length := ⟨_, rfl⟩
  have HN := hidK hnn
  have HQ1 := hidK h1
  have HQ2 := hidK h2
  subst q1
  subst q2
  rw [← hnn] at hn ⊢ HQ1 HQ2
  clear h1 h2 hnn
  go_enter Try.func24, Try.ntmps24
  go_wp2
  go_loopw [5] (fun i wx => ∃ k : Nat, i = .int .i64 k ∧ k ≤ n ∧ Below w.heap.size w wx) (fun i _ => n - (intOf i).toNat)
  case atStart => exact ⟨0, rfl, Nat.zero_le _, Below.refl _ _⟩
  case round =>
    obtain ⟨k, rfl, hkn, hB⟩ := hrel
    by_cases hk : k < n
    · have kI : (k : Int) < (n : Int) := by omega
      have k0 : (0 : Int) ≤ (k : Int) := by omega
      have hkl : k < l.length := by have := HN.out; omega
      obtain ⟨x, hx⟩ : ∃ x, l[k]? = some x := ⟨_, List.getElem?_eq_getElem hkl⟩
      obtain ⟨b1, o1, p1, e1, d0⟩ := (HQ1.out.on hB).tx hx
      obtain ⟨b2, o2, p2, e2, f0⟩ := (HQ2.out.on hB).tx hx
      injection e1 with e1 e1b e1c
      injection e2 with e2 e2b e2c
      subst e1
      subst e2
      clear hx HQ1 HQ2 hkl e1b e1c e2b e2c
      go_wp2_with fail
      go_quiet (fail)
      have hB2 := belDrewN hB nq
      go_wp2
      go_roundw
      case rel => exact ⟨k + 1, by go_num, by omega, hB2⟩
      case measure => simp [intOf]; omega
    · obtain rfl : k = n := by omega
      clear HQ1 HQ2
      go_wp2
      go_ret
      exact ⟨rfl, hB⟩
set_option maxHeartbeats 4000000 in
theorem sameInts_c (v1 v2 : Value) (l : List Int) (w : World) (h1 : RowI w v1 l) (h2 : RowI w v2 l) (hn : l.length ≤ 67108864) :
    Calls Try.prog 23 #[v1, v2] w fun e w' => e = .returned (.bool true) ∧ Below w.heap.size w w' := by
  obtain ⟨a1, c1, q1, _, _⟩ := h1.form
  obtain ⟨a2, c2, q2, _, _⟩ := h2.form
  obtain ⟨n, hnn⟩ : ∃ n, n = l.length := ⟨_, rfl⟩
  have HN := hidK hnn
  have HQ1 := hidK h1
  have HQ2 := hidK h2
  subst q1
  subst q2
  rw [← hnn] at hn ⊢ HQ1 HQ2
  clear h1 h2 hnn
  go_enter Try.func23, Try.ntmps23
  go_wp2
  go_loopw [5] (fun i wx => ∃ k : Nat, i = .int .i64 k ∧ k ≤ n ∧ Below w.heap.size w wx) (fun i _ => n - (intOf i).toNat)
  case atStart => exact ⟨0, rfl, Nat.zero_le _, Below.refl _ _⟩
  case round =>
    obtain ⟨k, rfl, hkn, hB⟩ := hrel
    by_cases hk : k < n
    · have kI : (k : Int) < (n : Int) := by omega
      have k0 : (0 : Int) ≤ (k : Int) := by omega
      have hkl : k < l.length := by have := HN.out; omega
      obtain ⟨x, hx⟩ : ∃ x, l[k]? = some x := ⟨_, List.getElem?_eq_getElem hkl⟩
      obtain ⟨b1, o1, p1, e1, d0⟩ := (HQ1.out.on hB).nm hx
      obtain ⟨b2, o2, p2, e2, f0⟩ := (HQ2.out.on hB).nm hx
      injection e1 with e1 e1b e1c
      injection e2 with e2 e2b e2c
      subst e1
      subst e2
      clear hx HQ1 HQ2 hkl e1b e1c e2b e2c
      go_wp2_with fail
      go_quiet (fail)
      have hB2 := belDrewN hB nq
      go_wp2
      go_roundw
      case rel => exact ⟨k + 1, by go_num, by omega, hB2⟩
      case measure => simp [intOf]; omega
    · obtain rfl : k = n := by omega
      clear HQ1 HQ2
      go_wp2
      go_ret
      exact ⟨rfl, hB⟩
end Go.Proofs.Ytaaagdmhokgcjaa
