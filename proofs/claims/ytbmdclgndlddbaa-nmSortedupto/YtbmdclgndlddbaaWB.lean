
-- count.
import Derived.Test.YtbmdclgndlddbaaWA
import Derived.Deep.RegionHeld3
namespace Go.Proofs.Ytbmdclgndlddbaa
open Go.ChangeShapes Go.WideShapes Go.ChangeAt Go.RowKit Go.Sort
set_option linter.unusedVariables false
set_option maxRecDepth 100000
set_option maxHeartbeats 8000000 in
theorem count_c (v : Value) (L : List Rw) (x : Rw) (w : World) (h : RowG rwL w v L) (hn : L.length ≤ 1048576) :
    Calls Try.prog 7 #[v, rwV x] w fun e w' => e = .returned (.int .i64 (cntR L x : Nat)) ∧ Below w.heap.size w w' := by
  obtain ⟨a1, c1, q1, _, _⟩ := h.form
  obtain ⟨n, hnn⟩ : ∃ n, n = L.length := ⟨_, rfl⟩
  have HN := hidK hnn
  subst q1
  rw [← hnn] at hn ⊢ h
  obtain ⟨X, hX⟩ : ∃ X, X = rwO x := ⟨_, rfl⟩
  obtain ⟨w1, hw1⟩ : ∃ w1, w1 = w.alloc X := ⟨_, rfl⟩
  have hb1 : Below w.heap.size w w1 := by rw [hw1]; exact (Below.refl _ _).alloc (Nat.le_refl _) _
  have x0 : w1.heap[w.heap.size]? = some (rwO x) := by rw [hw1, heap_alloc_new, hX]
  have HV := hidK (h.on hb1)
  have HB1 := hidK hb1
  have HX := hidK x0
  unfold rwO at hX
  unfold rwV
  clear h hnn hb1 x0
  subst hX
  go_enter Try.func7, Try.ntmps7
  go_upto_region 1 with fail
  rw [← hw1]
  clear hw1
  go_wp2
  go_loopw [5, 6] (fun m i wx => ∃ k : Nat, i = .int .i64 k ∧ k ≤ n ∧ m = .int .i64 (cntR (L.take k) x : Nat) ∧ Below w1.heap.size w1 wx) (fun _ i _ => n - (intOf i).toNat)
  case atStart => exact ⟨0, rfl, Nat.zero_le _, rfl, Below.refl _ _⟩
  case round =>
    obtain ⟨k, rfl, hkn, rfl, hB⟩ := hrel
    obtain ⟨q, hq⟩ : ∃ q, q = cntR (L.take k) x := ⟨_, rfl⟩
    rw [← hq]
    by_cases hk : k < n
    · have kI : (k : Int) < (n : Int) := by omega
      have k0 : (0 : Int) ≤ (k : Int) := by omega
      have kw : IntKind.i64.wrap ((k : Int) + 1) = (k : Int) + 1 := by rw [IntKind.wrap_i64]; omega
      have hql : q ≤ 1048576 := by have h1 := cnt_le (L.take k) x; have h2 := List.length_take_le k L; omega
      have qw : IntKind.i64.wrap ((q : Int) + 1) = (q : Int) + 1 := by rw [IntKind.wrap_i64]; omega
      obtain ⟨y, hy⟩ : ∃ y, L[k]? = some y := ⟨_, List.getElem?_eq_getElem (by have := HN.out; omega)⟩
      have HQ : Hid (cntR (L.take (k + 1)) x = if y = x then q + 1 else q) := by show _ = _; rw [cnt_take hy, hq]
      have HQ0 := hidK hq
      obtain ⟨b1, o1, p1, e1, d0, d1, d2, d3, d4, d5, d6, d7⟩ := (HV.out.on hB).rw hy
      obtain ⟨x1, x2, x3, x4, x5, x6, x7, x8⟩ := rw_cells (hkeepK hB HX.out)
      injection e1 with e1 e1b e1c
      subst e1
      have HB0 := hidK hB
      by_cases e : y = x
      · have hE := fun W => eqRw y x W
        simp only [decide_eq_true e] at hE
        unfold rwV at hE
        have HE := hidK e
        clear hy e1b e1c hB hq e
        go_wp2_with fail
        go_quiet (fail)
        have hB3 : Below w1.heap.size w1 (wr.drewN nq) := HB0.out.trans (((Gr.refl wr).drewN nq).below.mono HB0.out.size)
        go_wp2
        go_roundw
        case rel => exact ⟨k + 1, by go_num, by omega, by rw [HQ.out, if_pos HE.out]; go_num, hB3⟩
        case measure => simp [intOf]; omega
      · have hE := fun W => eqRw y x W
        simp only [decide_eq_false e] at hE
        unfold rwV at hE
        have HE := hidK e
        clear hy e1b e1c hB hq e
        go_wp2_with fail
        go_quiet (fail)
        have hB3 : Below w1.heap.size w1 (wr.drewN nq) := HB0.out.trans (((Gr.refl wr).drewN nq).below.mono HB0.out.size)
        go_wp2
        go_roundw
        case rel => exact ⟨k + 1, by go_num, by omega, by rw [HQ.out, if_neg HE.out], hB3⟩
        case measure => simp [intOf]; omega
    · obtain rfl : k = n := by omega
      have HE : Hid (q = cntR L x) := by show _ = _; rw [hq, HN.out, List.take_length]
      clear hq
      go_wp2
      go_ret
      exact ⟨by rw [HE.out]; rfl, HB1.out.trans (hB.mono HB1.out.size)⟩
end Go.Proofs.Ytbmdclgndlddbaa
