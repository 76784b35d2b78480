
-- has, member, among; the same lists.
import Derived.Test.YtebgannhecmnmaaGP
import Derived.Deep.QuietTactic
namespace Go.Proofs.Ytebgannhecmnmaa
open Go.ChangeShapes Go.WideShapes Go.ChangeAt Go.RowKit Go.MapKept
set_option linter.unusedVariables false
set_option maxRecDepth 100000
theorem strNe18 {x y : ByteArray} (h : x ≠ y) : (x.toList == y.toList) = false := strNe h
set_option maxHeartbeats 2000000 in
theorem has_c (v : Value) (L : List ByteArray) (x : ByteArray) (w : World) (h : RowT w v L) (hn : L.length < 4611686018427387904) :
    Calls Try.prog 13 #[v, .string x] w fun e w' => e = .returned (.bool (isIn L x)) ∧ w' = w := by
  obtain ⟨a1, c1, q1, _, _⟩ := h.form
  obtain ⟨n, hnn⟩ : ∃ n, n = L.length := ⟨_, rfl⟩
  have HN := hidK hnn
  have HV := hidK h
  subst q1
  rw [← hnn] at hn ⊢ HV
  clear h hnn
  go_enter Try.func13, Try.ntmps13
  go_wp2
  go_loopw [5] (fun i wx => ∃ k : Nat, i = .int .i64 k ∧ k ≤ n ∧ x ∉ L.take k ∧ wx = w) (fun i _ => n - (intOf i).toNat)
  case atStart => exact ⟨0, rfl, Nat.zero_le _, by simp, rfl⟩
  case round =>
    obtain ⟨k, rfl, hkn, ho, hB⟩ := hrel
    subst wr
    have HO := hidK ho
    clear ho
    by_cases hk : k < n
    · have kI : (k : Int) < (n : Int) := by omega
      have k0 : (0 : Int) ≤ (k : Int) := by omega
      have kw : IntKind.i64.wrap ((k : Int) + 1) = (k : Int) + 1 := by rw [IntKind.wrap_i64]; omega
      have hkl : k < L.length := by have := HN.out; omega
      obtain ⟨y, hy⟩ : ∃ x, L[k]? = some x := ⟨_, List.getElem?_eq_getElem hkl⟩
      obtain ⟨b1, o1, p1, e1, d0⟩ := HV.out.tx hy
      have HY := hidK hy
      injection e1 with e1 e1b e1c
      subst e1
      clear hy hkl e1b e1c HV
      by_cases hxy : y = x
      · subst hxy
        go_wp2
        go_ret
        refine ⟨?_, rfl⟩
        rw [isIn_iff.2 (List.mem_of_getElem? HY.out)]
        rfl
      · have hne := strNe18 hxy
        have HNE := hidK hxy
        clear hxy
        go_wp2
        go_roundw
        case rel =>
          refine ⟨k + 1, by go_num, by omega, ?_, by first | rfl | trivial⟩
          rw [takeSucc HY.out]
          intro hm
          rcases List.mem_append.1 hm with q | q
          · exact HO.out q
          · exact HNE.out (List.mem_singleton.1 q).symm
        case measure => simp [intOf]; omega
    · obtain rfl : k = n := by omega
      clear HV
      go_wp2
      go_ret
      refine ⟨?_, rfl⟩
      have := HO.out
      rw [HN.out, List.take_length] at this
      rw [isIn_no.2 this]
      rfl
def idxI (A : List Int) (x : Int) : Int := match idx A x with
  | some i => (i : Int)
  | none => -1
theorem idxI_some {A : List Int} {x : Int} {k : Nat} (h : A[k]? = some x) (hn : x ∉ A.take k) : idxI A x = (k : Int) := by
  have : idx A x = some k := by
    unfold idx
    rw [List.findIdx?_eq_some_iff_getElem]
    obtain ⟨hl, he⟩ := List.getElem?_eq_some_iff.1 h
    refine ⟨hl, by simp [he], fun j hj => ?_⟩
    simp
    intro e
    exact hn (by rw [← e]; exact List.mem_take_iff_getElem.2 ⟨j, by omega, rfl⟩)
  unfold idxI; rw [this]
theorem idxI_none {A : List Int} {x : Int} (h : x ∉ A) : idxI A x = -1 := by
  have : idx A x = none := by
    unfold idx
    rw [List.findIdx?_eq_none_iff]
    intro y hy
    simp
    intro e; exact h (e ▸ hy)
  unfold idxI; rw [this]
set_option maxHeartbeats 2000000 in
theorem member_c (ve va vn vf vg : Value) (A : List Int) (x : Int) (w : World) (h : RowI w va A) (hn : A.length < 4611686018427387904) :
    Calls Try.prog 11 #[.agg #[ve, va, vn, vf, vg], .int .i64 x] w fun e w' => e = .returned (.int .i64 (idxI A x)) ∧ Below w.heap.size w w' := by
  obtain ⟨a1, c1, q1, _, _⟩ := h.form
  obtain ⟨n, hnn⟩ : ∃ n, n = A.length := ⟨_, rfl⟩
  have HN := hidK hnn
  subst q1
  rw [← hnn] at hn ⊢
  obtain ⟨X, hX⟩ : ∃ X, X = Obj.cells #[ve, .slice a1 n c1, vn, vf, vg] 37 := ⟨_, rfl⟩
  obtain ⟨w1, hw1⟩ : ∃ w1, w1 = w.alloc X := ⟨_, rfl⟩
  have hb1 : Below w.heap.size w w1 := by rw [hw1]; exact (Below.refl _ w).alloc (Nat.le_refl _) X
  have x0 : w1.heap[w.heap.size]? = some (.cells #[ve, .slice a1 n c1, vn, vf, vg] 37 (0, 0)) := by rw [hw1, heap_alloc_new, hX]
  have y1 : w1.cell? ⟨w.heap.size, 1, none⟩ = some (.slice a1 n c1) := cell_rowK x0 1 _ rfl
  have HV := hidK (h.on hb1)
  rw [← hnn] at HV
  have HB1 := hidK hb1
  clear h hnn hb1 x0
  subst hX
  go_enter Try.func11, Try.ntmps11
  go_upto_region 1 with fail
  rw [← hw1]
  clear hw1
  go_wp2
  go_loopw [5] (fun i wx => ∃ k : Nat, i = .int .i64 k ∧ k ≤ n ∧ x ∉ A.take k ∧ wx = w1) (fun i _ => n - (intOf i).toNat)
  case atStart => exact ⟨0, rfl, Nat.zero_le _, by simp, rfl⟩
  case round =>
    obtain ⟨k, rfl, hkn, ho, hB⟩ := hrel
    subst wr
    have HO := hidK ho
    clear ho
    by_cases hk : k < n
    · have kI : (k : Int) < (n : Int) := by omega
      have k0 : (0 : Int) ≤ (k : Int) := by omega
      have kw : IntKind.i64.wrap ((k : Int) + 1) = (k : Int) + 1 := by rw [IntKind.wrap_i64]; omega
      have hkl : k < A.length := by have := HN.out; omega
      obtain ⟨y, hy⟩ : ∃ x, A[k]? = some x := ⟨_, List.getElem?_eq_getElem hkl⟩
      obtain ⟨b1, o1, p1, e1, d0⟩ := HV.out.nm hy
      have HY := hidK hy
      injection e1 with e1 e1b e1c
      subst e1
      clear hy hkl e1b e1c HV
      by_cases hxy : y = x
      · subst hxy
        have HI := hidK (idxI_some HY.out HO.out)
        go_wp2
        go_ret
        rw [HI.out]
        exact ⟨rfl, HB1.out⟩
      · have hne : (y == x) = false := by simpa using hxy
        have HNE := hidK hxy
        clear hxy
        go_wp2
        go_roundw
        case rel =>
          refine ⟨k + 1, by go_num, by omega, ?_, by first | rfl | trivial⟩
          rw [takeSucc HY.out]
          intro hm
          rcases List.mem_append.1 hm with q | q
          · exact HO.out q
          · exact HNE.out (List.mem_singleton.1 q).symm
        case measure => simp [intOf]; omega
    · obtain rfl : k = n := by omega
      have HI : Hid (idxI A x = -1) := idxI_none (by have := HO.out; rw [HN.out, List.take_length] at this; exact this)
      clear HV
      go_wp2
      go_ret
      rw [HI.out]
      exact ⟨rfl, HB1.out⟩
end Go.Proofs.Ytebgannhecmnmaa
