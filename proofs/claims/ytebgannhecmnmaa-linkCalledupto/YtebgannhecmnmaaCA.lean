
-- called.
import Derived.Test.YtebgannhecmnmaaHB
namespace Go.Proofs.Ytebgannhecmnmaa
open Go.ChangeShapes Go.WideShapes Go.ChangeAt Go.RowKit Go.MapKept
set_option linter.unusedVariables false
set_option maxRecDepth 100000
def cldB (E : List (ByteArray × Int)) (a : Int) (A : List ByteArray) : Bool := E.any fun x => decide (x.2 = a) && isIn A x.1
theorem cldB_yes {E : List (ByteArray × Int)} {a : Int} {A : List ByteArray} {n : ByteArray} (h : (n, a) ∈ E) (hn : n ∈ A) : cldB E a A = true := by
  unfold cldB
  rw [List.any_eq_true]
  exact ⟨_, h, by simp [isIn_iff.2 hn]⟩
theorem cldB_take {E : List (ByteArray × Int)} {a : Int} {A : List ByteArray} {k : Nat} {n : ByteArray} {b : Int} (h : E[k]? = some (n, b)) (h0 : cldB (E.take k) a A = false) (h1 : (decide (b = a) && isIn A n) = false) : cldB (E.take (k + 1)) a A = false := by
  rw [takeSucc h]
  unfold cldB at h0 ⊢
  rw [List.any_append, h0]
  simp [h1]
set_option maxHeartbeats 4000000 in
theorem called_c (ve va vn vf vg : Value) (E : List (ByteArray × Int)) (a : Int) (u : Value) (A : List ByteArray) (w : World) (h : RowG enL w ve E) (hu : RowT w u A) (hn : E.length < 4611686018427387904) (hA : A.length < 4611686018427387904) :
    Calls Try.prog 12 #[.agg #[ve, va, vn, vf, vg], .int .i64 a, u] w fun e w' => e = .returned (.bool (cldB E a A)) ∧ Below w.heap.size w w' := by
  obtain ⟨a1, c1, q1, _, _⟩ := h.form
  obtain ⟨n, hnn⟩ : ∃ n, n = E.length := ⟨_, rfl⟩
  have HN := hidK hnn
  subst q1
  rw [← hnn] at hn ⊢
  obtain ⟨X, hX⟩ : ∃ X, X = Obj.cells #[.slice a1 n c1, va, vn, vf, vg] 37 := ⟨_, rfl⟩
  obtain ⟨w1, hw1⟩ : ∃ w1, w1 = w.alloc X := ⟨_, rfl⟩
  have hb1 : Below w.heap.size w w1 := by rw [hw1]; exact (Below.refl _ w).alloc (Nat.le_refl _) X
  have x0 : w1.heap[w.heap.size]? = some (.cells #[.slice a1 n c1, va, vn, vf, vg] 37 (0, 0)) := by rw [hw1, heap_alloc_new, hX]
  have y0 : w1.cell? ⟨w.heap.size, 0, none⟩ = some (.slice a1 n c1) := cell_rowK x0 0 _ rfl
  have HV := hidK (h.on hb1)
  rw [← hnn] at HV
  have HHAS : Hid (∀ nm, Calls Try.prog 13 #[u, .string nm] w1 fun e w' => e = .returned (.bool (isIn A nm)) ∧ w' = w1) := fun nm => has_c u A nm w1 (hu.on hb1) hA
  have HB1 := hidK hb1
  clear h hu hnn hb1 x0
  subst hX
  go_enter Try.func12, Try.ntmps12
  go_upto_region 1 with fail
  rw [← hw1]
  clear hw1
  go_wp2
  go_loopw [7] (fun i wx => ∃ k : Nat, i = .int .i64 k ∧ k ≤ n ∧ cldB (E.take k) a A = false ∧ wx = w1) (fun i _ => n - (intOf i).toNat)
  case atStart => exact ⟨0, rfl, Nat.zero_le _, by simp [cldB], rfl⟩
  case round =>
    obtain ⟨k, rfl, hkn, ho, hB⟩ := hrel
    subst wr
    have HO := hidK ho
    clear ho
    by_cases hk : k < n
    · have kI : (k : Int) < (n : Int) := by omega
      have k0 : (0 : Int) ≤ (k : Int) := by omega
      have kw : IntKind.i64.wrap ((k : Int) + 1) = (k : Int) + 1 := by rw [IntKind.wrap_i64]; omega
      have hkl : k < E.length := by have := HN.out; omega
      obtain ⟨⟨nm, b⟩, hy⟩ : ∃ x, E[k]? = some x := ⟨_, List.getElem?_eq_getElem hkl⟩
      obtain ⟨b1, o1, p1, e1, d0, d1⟩ := HV.out.en hy
      have HY := hidK hy
      injection e1 with e1 e1b e1c
      subst e1
      simp only at d0 d1
      have HH := hidK (HHAS.out nm)
      clear hy hkl e1b e1c HV
      cases hi : isIn A nm with
      | true =>
        rw [hi] at HH
        have HI := hidK hi
        clear hi
        by_cases hxy : b = a
        · subst hxy
          go_wp2_with (go_at_call 13; refine HH.out.mono ?_; rintro e w2 ⟨rfl, hw2⟩; subst w2)
          go_ret
          refine ⟨?_, HB1.out⟩
          rw [cldB_yes (List.mem_of_getElem? HY.out) (isIn_iff.1 HI.out)]
          rfl
        · have hne : (b == a) = false := by simpa using hxy
          have HNE : Hid ((decide (b = a) && isIn A nm) = false) := by rw [decide_eq_false hxy]; rfl
          clear hxy
          go_wp2_with (go_at_call 13; refine HH.out.mono ?_; rintro e w2 ⟨rfl, hw2⟩; subst w2)
          go_roundw
          case rel => exact ⟨k + 1, by go_num, by omega, cldB_take HY.out HO.out HNE.out, by first | rfl | trivial⟩
          case measure => simp [intOf]; omega
      | false =>
        rw [hi] at HH
        have HNE : Hid (∀ z : Bool, (z && isIn A nm) = false) := fun z => by rw [hi, Bool.and_false]
        clear hi
        by_cases hxy : b = a
        · subst hxy
          go_wp2_with (go_at_call 13; refine HH.out.mono ?_; rintro e w2 ⟨rfl, hw2⟩; subst w2)
          go_roundw
          case rel => exact ⟨k + 1, by go_num, by omega, cldB_take HY.out HO.out (HNE.out _), by first | rfl | trivial⟩
          case measure => simp [intOf]; omega
        · have hne : (b == a) = false := by simpa using hxy
          clear hxy
          go_wp2_with (go_at_call 13; refine HH.out.mono ?_; rintro e w2 ⟨rfl, hw2⟩; subst w2)
          go_roundw
          case rel => exact ⟨k + 1, by go_num, by omega, cldB_take HY.out HO.out (HNE.out _), by first | rfl | trivial⟩
          case measure => simp [intOf]; omega
    · obtain rfl : k = n := by omega
      have HI : Hid (cldB E a A = false) := by have := HO.out; rw [HN.out, List.take_length] at this; exact this
      clear HV
      go_wp2
      go_ret
      rw [HI.out]
      exact ⟨rfl, HB1.out⟩
end Go.Proofs.Ytebgannhecmnmaa
