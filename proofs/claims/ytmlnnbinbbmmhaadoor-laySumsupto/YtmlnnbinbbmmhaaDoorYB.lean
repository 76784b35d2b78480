
-- lay.areSizes.
import Derived.Test.YtmlnnbinbbmmhaaDoorYB0
namespace Go.Proofs.YtmlnnbinbbmmhaaDoor
open Go.ChangeShapes Go.WideShapes Go.ChangeAt Go.RowKit
set_option linter.unusedVariables false
set_option maxRecDepth 100000
theorem sizes_stop {S : List Sp} {I : List ByteArray} {j : Nat} (hj : j < S.length) (h : (sizeB (spz S j) && sizeB ((isz I j : Int) + spz S j)) = false) : sizesB S I = false := by
  unfold sizesB
  rw [List.all_eq_false]
  exact ⟨j, List.mem_range.2 hj, by rw [h]; decide⟩
set_option maxHeartbeats 4000000 in
theorem areSizes_c (v u : Value) (S : List Sp) (I : List ByteArray) (w : World) (hv : RowG enL w v S) (hu : RowS w u I) (hI : I.length = S.length) (hn : S.length ≤ 1048576) (hz : ∀ j, isz I j ≤ 1099999) :
    Calls Tryd.prog 23 #[v, u] w fun e w' => e = .returned (.bool (sizesB S I)) ∧ Below w.heap.size w w' := by
  obtain ⟨a1, c1, q1, _, _⟩ := hv.form
  obtain ⟨n, hnn⟩ : ∃ n, n = S.length := ⟨_, rfl⟩
  have HN := hidK hnn
  rw [← hnn] at q1 hI hn
  subst q1
  have HV := hidK hv
  have HU := hidK hu
  have HI := hidK hI
  have HZ := hidK hz
  have HIS : Hid (∀ (n : Int) (w : World), Calls Tryd.prog 21 #[.int .i64 n] w fun e w' => e = .returned (.bool (sizeB n)) ∧ w' = w) := isSize_c
  have HOK : Hid (∀ k, k ≤ n → (∀ j, j < k → (sizeB (spz S j) && sizeB ((isz I j : Int) + spz S j)) = true) → k = n → sizesB S I = true) := fun k _ h hk => by
    unfold sizesB
    rw [List.all_eq_true]
    intro j hj
    rw [List.mem_range] at hj
    exact h j (by rw [hk, HN.out]; exact hj)
  clear hv hu hI hz hnn
  go_enter Tryd.func23, Tryd.ntmps23
  go_wp2
  go_loopw [9] (fun i wx => ∃ k : Nat, i = .int .i64 k ∧ k ≤ n ∧ (∀ j, j < k → (sizeB (spz S j) && sizeB ((isz I j : Int) + spz S j)) = true) ∧ Below w.heap.size w wx) (fun i _ => n - (intOf i).toNat)
  case atStart => exact ⟨0, rfl, Nat.zero_le _, (fun j hj => absurd hj (Nat.not_lt_zero _)), Below.refl _ _⟩
  case round =>
    obtain ⟨k, rfl, hkn, hok, hB⟩ := hrel
    obtain ⟨wo, hwo⟩ : ∃ y, y = wr := ⟨_, rfl⟩
    subst hwo
    have HB := hidK hB
    have HK := hidK hok
    clear hok
    by_cases hk : k < n
    · have kI : (k : Int) < (n : Int) := by omega
      have k0 : (0 : Int) ≤ (k : Int) := by omega
      have kw : IntKind.i64.wrap ((k : Int) + 1) = (k : Int) + 1 := by rw [IntKind.wrap_i64]; omega
      obtain ⟨⟨nm, z⟩, hx⟩ : ∃ x, S[k]? = some x := ⟨_, List.getElem?_eq_getElem (by have := HN.out; omega)⟩
      have hzz := spz_at hx
      simp only at hzz
      obtain ⟨b1, o1, p1, e1, d0, d1⟩ := (HV.out.on hB).en hx
      injection e1 with e1 e1b e1c
      subst e1
      simp only at d0 d1
      obtain ⟨b2, o2, p2, e2, g0⟩ := (HU.out.onY hB).getY (j := k) (by rw [HI.out]; exact hk)
      subst e2
      obtain ⟨s, hs⟩ : ∃ s, s = I.getD k .empty := ⟨_, rfl⟩
      rw [← hs] at g0
      have hsz : isz I k = s.size := by rw [hs]; rfl
      have hsb : s.size ≤ 1099999 := by rw [← hsz]; exact HZ.out k
      have HST : Hid ((sizeB z && sizeB ((s.size : Int) + z)) = false → sizesB S I = false) := fun h => sizes_stop (j := k) (by have := HN.out; omega) (by rw [hzz, hsz]; exact h)
      have HGO : Hid ((sizeB z && sizeB ((s.size : Int) + z)) = true → ∀ j, j < k + 1 → (sizeB (spz S j) && sizeB ((isz I j : Int) + spz S j)) = true) := fun h j hj => by
        by_cases hjk : j < k
        · exact HK.out j hjk
        · obtain rfl : j = k := by omega
          rw [hzz, hsz]; exact h
      have hlI : I.length = n := HI.out
      obtain ⟨W4, hW4⟩ : ∃ W4, W4 = wo.alloc (.cells #[.string nm, .int .i64 z] 24) := ⟨_, rfl⟩
      have b4 : Below wo.heap.size wo W4 := by rw [hW4]; exact (Below.refl _ _).alloc (Nat.le_refl _) _
      have e4 : W4.heap[wo.heap.size]? = some (.cells #[.string nm, .int .i64 z] 24 (0, 0)) := by rw [hW4]; exact heap_alloc_new _ _
      have f0 := cell_rowK e4 0 _ rfl
      have f1 := cell_rowK e4 1 _ rfl
      have g4 := cell_onG g0 b4
      have HB4 : Hid (Below w.heap.size w W4) := hB.trans (b4.mono hB.size)
      clear hx hs e1b e1c b4 e4 hB hzz hsz
      go_upto_region 4 with fail
      rw [← hW4]
      clear hW4
      clear d0 d1 g0 f0
      by_cases hz1 : sizeB z = true
      · have HI1 : Hid (∀ w : World, Calls Tryd.prog 21 #[.int .i64 z] w fun e w' => e = .returned (.bool true) ∧ w' = w) := fun w => by
          have := HIS.out z w
          rw [hz1] at this
          exact this
        have hzz := sizeB_iff.1 hz1
        have hsw : IntKind.i64.wrap ((s.size : Int) + z) = (s.size : Int) + z := by rw [IntKind.wrap_i64]; omega
        rw [hz1, Bool.true_and] at HST HGO
        obtain ⟨q, hq⟩ : ∃ q, q = sizeB ((s.size : Int) + z) := ⟨_, rfl⟩
        have HI2 : Hid (∀ w : World, Calls Tryd.prog 21 #[.int .i64 ((s.size : Int) + z)] w fun e w' => e = .returned (.bool q) ∧ w' = w) := fun w => by
          have := HIS.out ((s.size : Int) + z) w
          rw [← hq] at this
          exact this
        rw [← hq] at HST HGO
        clear hq hz1 hzz HIS
        go_quiet (first | (go_at_call 21; first | exact Calls.quiet_of_same (HI1.out _) | exact Calls.quiet_of_same (HI2.out _)))
        have HB5 : Hid (∀ n, Below w.heap.size w (W4.drewN n)) := fun n => below_drewY HB4.out n
        cases q with
        | false =>
          have hans := hidK (HST.out rfl)
          clear HGO HST HI2
          go_wp2
          go_ret
          exact ⟨congrArg (fun b => Ending.returned (Value.bool b)) hans.out.symm, HB5.out _⟩
        | true =>
          have hgo := hidK (HGO.out rfl)
          clear HGO HST HI2
          go_wp2
          go_roundw
          case rel => exact ⟨k + 1, by go_num, by omega, hgo.out, HB5.out _⟩
          case measure => simp [intOf]; omega
      · have hz2 : sizeB z = false := by simpa using hz1
        have HI1 : Hid (∀ w : World, Calls Tryd.prog 21 #[.int .i64 z] w fun e w' => e = .returned (.bool false) ∧ w' = w) := fun w => by
          have := HIS.out z w
          rw [hz2] at this
          exact this
        have hans := hidK (HST.out (by rw [hz2]; rfl))
        have HB5 : Hid (∀ n, Below w.heap.size w (W4.drewN n)) := fun n => below_drewY HB4.out n
        clear hz1 hz2 HIS
        go_quiet (first | (go_at_call 21; exact Calls.quiet_of_same (HI1.out _)))
        go_wp2
        go_ret
        exact ⟨congrArg (fun b => Ending.returned (Value.bool b)) hans.out.symm, HB5.out _⟩
    · obtain rfl : k = n := by omega
      have hans := hidK (HOK.out k (Nat.le_refl _) HK.out rfl)
      go_wp2
      go_ret
      exact ⟨congrArg (fun b => Ending.returned (Value.bool b)) hans.out.symm, hB⟩
end Go.Proofs.YtmlnnbinbbmmhaaDoor
