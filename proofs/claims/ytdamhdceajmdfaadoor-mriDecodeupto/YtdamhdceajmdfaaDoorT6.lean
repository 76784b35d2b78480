
-- sameTexts, sameList: of lists that are the same.
import Derived.Test.YtdamhdceajmdfaaDoorJB
import Derived.Deep.RegionHeld3
import Derived.Deep.CutRange
namespace Go.Proofs.YtdamhdceajmdfaaDoor
open Go.ChangeShapes Go.WideShapes Go.ChangeAt Go.RowKit
set_option linter.unusedVariables false
set_option maxRecDepth 100000
set_option linter.unusedSimpArgs false
theorem belDrew19 {B : Nat} {w w' : World} (h : Below B w w') (m : Nat) : Below B w (w'.drewN m) := by
  induction m with
  | zero => exact h
  | succ m ih => exact ih.drew
set_option maxHeartbeats 4000000 in
theorem sameTexts_c (v1 v2 : Value) (l : List ByteArray) (w : World) (h1 : RowT w v1 l) (h2 : RowT w v2 l) (hn : l.length ≤ 67108864) :
    Calls Tryd.prog 22 #[v1, v2] w fun e w' => e = .returned (.bool true) ∧ Below w.heap.size w w' := by
  obtain ⟨a1, c1, q1, _, _⟩ := h1.form
  obtain ⟨a2, c2, q2, _, _⟩ := h2.form
  obtain ⟨n, hnn⟩ : ∃ n, n = l.length := ⟨_, rfl⟩
  have HN := hidK hnn
  have HQ1 := hidK h1
  have HQ2 := hidK h2
  subst q1
  subst q2
  rw [← hnn] at hn ⊢ HQ1 HQ2
  clear h1 h2 hnn
  go_enter Tryd.func22, Tryd.ntmps22
  go_wp2
  go_loopw [5] (fun i wx => ∃ k : Nat, i = .int .i64 k ∧ k ≤ n ∧ Below w.heap.size w wx) (fun i _ => n - (intOf i).toNat)
  case atStart => exact ⟨0, rfl, Nat.zero_le _, Below.refl _ _⟩
  case round =>
    obtain ⟨k, rfl, hkn, hB⟩ := hrel
    by_cases hk : k < n
    · have kI : (k : Int) < (n : Int) := by omega
      have k0 : (0 : Int) ≤ (k : Int) := by omega
      have hkl : k < l.length := by have := HN.out; omega
      obtain ⟨x, hx⟩ : ∃ x, l[k]? = some x := ⟨_, List.getElem?_eq_getElem hkl⟩
      obtain ⟨b1, o1, p1, e1, d0⟩ := (HQ1.out.on hB).tx hx
      obtain ⟨b2, o2, p2, e2, f0⟩ := (HQ2.out.on hB).tx hx
      injection e1 with e1 e1b e1c
      injection e2 with e2 e2b e2c
      subst e1
      subst e2
      clear hx HQ1 HQ2 hkl e1b e1c e2b e2c
      go_wp2_with fail
      go_quiet (fail)
      have hB2 := belDrew19 hB nq
      go_wp2
      go_roundw
      case rel => exact ⟨k + 1, by go_num, by omega, hB2⟩
      case measure => simp [intOf]; omega
    · obtain rfl : k = n := by omega
      clear HQ1 HQ2
      go_wp2
      go_ret
      exact ⟨rfl, hB⟩
set_option maxHeartbeats 8000000 in
theorem sameList_c (v1 v2 : Value) (P Q : List (Mr × Value)) (w : World) (h1 : RowR w v1 P) (h2 : RowR w v2 Q) (hPQ : P.map (·.1) = Q.map (·.1)) (ht : totR (P.map (·.1)) ≤ 16777216) :
    Calls Tryd.prog 11 #[v1, v2] w fun e w' => e = .returned (.bool true) ∧ Below w.heap.size w w' := by
  obtain ⟨a1, c1, q1, _, _⟩ := h1.row.form
  obtain ⟨a2, c2, q2, _, _⟩ := h2.row.form
  have hll : Q.length = P.length := by have := congrArg List.length hPQ; simpa using this.symm
  obtain ⟨n, hnn⟩ : ∃ n, n = P.length := ⟨_, rfl⟩
  have HN := hidK hnn
  have HQ1 := hidK h1
  have HQ2 := hidK h2
  have HT := hidK ht
  have HE := hidK hPQ
  have HLL := hidK hll
  have hn : n ≤ 16777216 := by have := totR_len (P.map (·.1)); rw [List.length_map] at this; omega
  rw [hll, ← hnn] at q2
  rw [← hnn] at q1
  subst q1
  subst q2
  clear h1 h2 hnn hPQ hll ht
  go_enter Tryd.func11, Tryd.ntmps11
  go_wp2
  go_loopw [5] (fun i wx => ∃ k : Nat, i = .int .i64 k ∧ k ≤ n ∧ Below w.heap.size w wx) (fun i _ => n - (intOf i).toNat)
  case atStart => exact ⟨0, rfl, Nat.zero_le _, Below.refl _ _⟩
  case round =>
    obtain ⟨k, rfl, hkn, hB⟩ := hrel
    by_cases hk : k < n
    · have kI : (k : Int) < (n : Int) := by omega
      have k0 : (0 : Int) ≤ (k : Int) := by omega
      have kw : IntKind.i64.wrap ((k : Int) + 1) = (k : Int) + 1 := by rw [IntKind.wrap_i64]; omega
      have hkl : k < P.length := by have := HN.out; omega
      have hkq : k < Q.length := by have := HLL.out; omega
      obtain ⟨⟨⟨vv, nn, ns⟩, u1⟩, hx⟩ : ∃ x, P[k]? = some x := ⟨_, List.getElem?_eq_getElem hkl⟩
      obtain ⟨⟨c', u2⟩, hy⟩ : ∃ x, Q[k]? = some x := ⟨_, List.getElem?_eq_getElem hkq⟩
      obtain rfl : c' = ⟨vv, nn, ns⟩ := by
        have g1 := fst_at hx
        have g2 := fst_at hy
        rw [HE.out, g2] at g1
        exact Option.some.inj g1
      have hm := totR_mem (fst_at hx)
      have hns : ns.length ≤ 67108864 := by have := HT.out; have := sumS_len ns; unfold szM at hm; simp only at hm; omega
      obtain ⟨b1, o1, p1, e1, d0, d1, d2⟩ := (HQ1.out.on hB).at hx
      obtain ⟨b2, o2, p2, e2, f0, f1, f2⟩ := (HQ2.out.on hB).at hy
      have hr1 := (HQ1.out.on hB).names _ (List.mem_of_getElem? hx)
      have hr2 := (HQ2.out.on hB).names _ (List.mem_of_getElem? hy)
      simp only [] at d0 d1 d2 f0 f1 f2 hr1 hr2
      injection e1 with e1 e1b e1c
      injection e2 with e2 e2b e2c
      subst e1 e2
      have HD2 := hidK d2
      have HF2 := hidK f2
      have hv0 : ∀ W, Below wr.heap.size wr W → W.cell? ⟨b1, o1 + k * 3 + 2, none⟩ = some u1 := fun W hb => cell_onG HD2.out hb
      have hv1 : ∀ W, Below wr.heap.size wr W → W.cell? ⟨b2, o2 + k * 3 + 2, none⟩ = some u2 := fun W hb => cell_onG HF2.out hb
      have HC : Hid (∀ W, Below wr.heap.size wr W → Calls Tryd.prog 22 #[u1, u2] W fun e w' => e = .returned (.bool true) ∧ Below wr.heap.size wr w') := fun W hb => (sameTexts_c u1 u2 ns W (hr1.on hb) (hr2.on hb) hns).mono (by
        rintro e w' ⟨q1, q2⟩
        exact ⟨q1, bel3K hb q2⟩)
      have HB0 := hidK hB
      have hb0 : Below wr.heap.size wr wr := Below.refl _ _
      have H0 := hidK (And.intro (And.intro d0 d1) (And.intro f0 f1))
      obtain ⟨y1, z1, r1⟩ := hr1.slice
      obtain ⟨y2, z2, r2⟩ := hr2.slice
      have hE : decide (vv = vv) = true := by simp
      clear hx hy e1b e1c e2b e2c HQ1 HQ2 hB d2 f2 d0 d1 f0 f1 hr1 hr2 hm hns hkl hkq
      subst r1 r2
      go_upto_region 6 with fail
      go_region_held3 (fun w' => Below wr.heap.size wr w') (first | assumption | exact hb0.drew | exact hSw.drew) (first
        | (go_at_call 22; refine (HC.out _ (by assumption)).mono ?_; rintro e w6 ⟨rfl, hS6⟩))
      have HS6 := hidK hS6
      have g0 := cell_onG H0.out.1.1 hS6
      have g1 := cell_onG H0.out.1.2 hS6
      have g2 := cell_onG H0.out.2.1 hS6
      have g3 := cell_onG H0.out.2.2 hS6
      clear hv0 hv1 hb0 hS6
      go_wp2_with fail
      go_quiet (fail)
      go_wp2
      go_roundw
      case rel => exact ⟨k + 1, by go_num, by omega, belDrew19 (HB0.out.trans (HS6.out.mono HB0.out.size)) _⟩
      case measure => simp [intOf]; omega
    · obtain rfl : k = n := by omega
      clear HQ1 HQ2
      go_wp2
      go_ret
      exact ⟨rfl, hB⟩
end Go.Proofs.YtdamhdceajmdfaaDoor
