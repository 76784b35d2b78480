
-- among; lists that are the same.
import Derived.Test.YtnnpdomfkedhpaaHA
namespace Go.Proofs.Ytnnpdomfkedhpaa
open Go.ChangeShapes Go.WideShapes Go.ChangeAt Go.RowKit Go.MapKept
set_option linter.unusedVariables false
set_option maxRecDepth 100000
theorem belDrewN {n : Nat} {a b : World} (h : Below n a b) (k : Nat) : Below n a (b.drewN k) := by
  induction k with
  | zero => exact h
  | succ k ih => exact ih.drew
theorem rowP_box {w : World} {b : Nat} {x y : Int} (h : w.heap[b]? = some (.cells #[.int .i64 x, .int .i64 y] 56 (0, 0))) : w.cell? ⟨b, 0, none⟩ = some (.int .i64 x) ∧ w.cell? ⟨b, 1, none⟩ = some (.int .i64 y) := ⟨cell_rowK h 0 _ rfl, cell_rowK h 1 _ rfl⟩
set_option maxHeartbeats 4000000 in
theorem among_c (v : Value) (L : List (Int × Int)) (x y : Int) (w : World) (h : RowP w v L) (hn : L.length < 4611686018427387904) :
    Calls Try.prog 15 #[v, .agg #[.int .i64 x, .int .i64 y]] w fun e w' => e = .returned (.bool (isIn L (x, y))) ∧ Below w.heap.size w w' := by
  obtain ⟨a1, c1, q1, _, _⟩ := h.form
  obtain ⟨n, hnn⟩ : ∃ n, n = L.length := ⟨_, rfl⟩
  have HN := hidK hnn
  subst q1
  rw [← hnn] at hn ⊢
  obtain ⟨X, hX⟩ : ∃ X, X = Obj.cells #[.int .i64 x, .int .i64 y] 56 := ⟨_, rfl⟩
  obtain ⟨w1, hw1⟩ : ∃ w1, w1 = w.alloc X := ⟨_, rfl⟩
  have hb1 : Below w.heap.size w w1 := by rw [hw1]; exact (Below.refl _ w).alloc (Nat.le_refl _) X
  have x0 : w1.heap[w.heap.size]? = some (.cells #[.int .i64 x, .int .i64 y] 56 (0, 0)) := by rw [hw1, heap_alloc_new, hX]
  have HX0 := hidK x0
  have HV := hidK (h.on hb1)
  rw [← hnn] at HV
  have HB1 := hidK hb1
  clear h hnn hb1 x0
  subst hX
  go_enter Try.func15, Try.ntmps15
  go_upto_region 1 with fail
  rw [← hw1]
  clear hw1
  go_wp2
  go_loopw [5] (fun i wx => ∃ k : Nat, i = .int .i64 k ∧ k ≤ n ∧ (x, y) ∉ L.take k ∧ Below w1.heap.size w1 wx) (fun i _ => n - (intOf i).toNat)
  case atStart => exact ⟨0, rfl, Nat.zero_le _, by simp, Below.refl _ _⟩
  case round =>
    obtain ⟨k, rfl, hkn, ho, hB⟩ := hrel
    have HO := hidK ho
    clear ho
    have hB2 : Below w.heap.size w wr := HB1.out.trans (hB.mono HB1.out.size)
    by_cases hk : k < n
    · have kI : (k : Int) < (n : Int) := by omega
      have k0 : (0 : Int) ≤ (k : Int) := by omega
      have kw : IntKind.i64.wrap ((k : Int) + 1) = (k : Int) + 1 := by rw [IntKind.wrap_i64]; omega
      have hkl : k < L.length := by have := HN.out; omega
      obtain ⟨⟨p, q⟩, hy⟩ : ∃ x, L[k]? = some x := ⟨_, List.getElem?_eq_getElem hkl⟩
      obtain ⟨b1, o1, p1, e1, d0, d1⟩ := (HV.out.on hB).pa hy
      obtain ⟨g0, g1⟩ := rowP_box (hkeepK hB HX0.out)
      have HY := hidK hy
      injection e1 with e1 e1b e1c
      subst e1
      simp only at d0 d1
      have hE := fun W => run_equalIn_pl W p q x y
      clear hy hkl e1b e1c HV
      by_cases hxy : p = x ∧ q = y
      · have hd : decide (p = x ∧ q = y) = true := decide_eq_true hxy
        simp only [hd] at hE
        obtain ⟨rfl, rfl⟩ := hxy
        clear hd
        go_wp2_with fail
        go_quiet (fail)
        have hB3 := belDrewN hB2 nq
        go_wp2
        go_ret
        refine ⟨?_, hB3⟩
        rw [isIn_iff.2 (List.mem_of_getElem? HY.out)]
        rfl
      · have hd : decide (p = x ∧ q = y) = false := decide_eq_false hxy
        simp only [hd] at hE
        have HNE := hidK hxy
        clear hxy hd
        go_wp2_with fail
        go_quiet (fail)
        have hB3 := belDrewN hB nq
        go_wp2
        go_roundw
        case rel =>
          refine ⟨k + 1, by go_num, by omega, ?_, hB3⟩
          rw [takeSucc HY.out]
          intro hm
          rcases List.mem_append.1 hm with z | z
          · exact HO.out z
          · have := List.mem_singleton.1 z
            injection this with z1 z2
            exact HNE.out ⟨z1.symm, z2.symm⟩
        case measure => simp [intOf]; omega
    · obtain rfl : k = n := by omega
      have HI : Hid (isIn L (x, y) = false) := isIn_no.2 (by have := HO.out; rw [HN.out, List.take_length] at this; exact this)
      clear HV
      go_wp2
      go_ret
      rw [HI.out]
      exact ⟨rfl, hB2⟩
end Go.Proofs.Ytnnpdomfkedhpaa
