import Derived.Test.YtmlnnbinbbmmhaaDoorM1

-- The document's sized.
namespace Go.Proofs.YtmlnnbinbbmmhaaDoor
open Go.ChangeShapes Go.WideShapes Go.ChangeAt Go.RowKit
set_option linter.unusedVariables false
set_option maxRecDepth 100000
/-- one member's sizes, as the document looks at them -/
def rszB (k : Int) (n : Nat) (z : Int) : Bool := !(decide (z < 0) || decide (z > 9999999999)) && !(decide (k = 2) && decide (z + (n : Int) > 9999999999))
theorem rszB_eq {k : Int} {n : Nat} {z : Int} (h : k ≠ 2 → n = 0) : rszB k n z = (sizeB z && sizeB ((n : Int) + z)) := by
  unfold rszB sizeB
  by_cases h1 : z < 0
  · simp [h1, show ¬ 0 ≤ z by omega]
  · by_cases h2 : z > 9999999999
    · simp [h1, h2, show ¬ z ≤ 9999999999 by omega]
    · by_cases hk : k = 2
      · by_cases h3 : z + (n : Int) > 9999999999
        · have h4 : ¬ ((n : Int) + z ≤ 9999999999) := by omega
          simp [h1, h2, hk, h3, h4]
        · have h4 : (n : Int) + z ≤ 9999999999 := by omega
          have h5 : 0 ≤ (n : Int) + z := by omega
          have h6 : 0 ≤ z := by omega
          have h7 : z ≤ 9999999999 := by omega
          simp [h1, h2, hk, h3, h4, h5, h6, h7]
      · have h0 := h hk
        subst h0
        have h6 : 0 ≤ z := by omega
        have h7 : z ≤ 9999999999 := by omega
        simp [h1, h2, hk, h6, h7]
set_option maxHeartbeats 4000000 in
theorem sized_c (k : Int) (v : Value) (S : List Sp) (fa ia : Option Addr) (fl fc il ic : Nat) (t : ByteArray) (I : List ByteArray) (w : World) (hv : RowG enL w v S) (hi : RowS w (.slice ia il ic) I) (hI : I.length = S.length) (hn : S.length ≤ 1048576) (ht : t.size ≤ 67108864) (hz : ∀ j, isz I j ≤ 1099999) (hk : ∀ j, k ≠ 2 → isz I j = 0) :
    Calls Tryd.prog 35 #[.int .i64 k, v, .agg #[.slice fa fl fc, .slice ia il ic, .string t]] w fun e w' => e = .returned (.bool (sizesB S I)) ∧ Below w.heap.size w w' := by
  obtain ⟨a1, c1, q1, _, _⟩ := hv.form
  obtain ⟨n, hnn⟩ : ∃ n, n = S.length := ⟨_, rfl⟩
  rw [← hnn] at q1 hI hn
  subst q1
  obtain ⟨aoi, cpi, eui⟩ := hi.form
  injection eui with eu1 eu2 eu3
  have hil : n = il := by omega
  subst hil
  clear eu1 eu2 eu3
  have HN := hidK hnn
  have HI := hidK hI
  have HZ := hidK hz
  have HK := hidK hk
  have HV : Hid (∀ W, Below w.heap.size w W → RowG enL W (.slice a1 n c1) S) := fun W hb => hv.on hb
  have HU : Hid (∀ W, Below w.heap.size w W → RowS W (.slice ia n ic) I) := fun W hb => hi.onY hb
  have HOK : Hid (∀ k, (∀ j, j < k → (sizeB (spz S j) && sizeB ((isz I j : Int) + spz S j)) = true) → k = n → sizesB S I = true) := fun k h hk => by
    unfold sizesB
    rw [List.all_eq_true]
    intro j hj
    rw [List.mem_range] at hj
    exact h j (by rw [hk, HN.out]; exact hj)
  have HNO : Hid (∀ j, j < n → (sizeB (spz S j) && sizeB ((isz I j : Int) + spz S j)) = false → sizesB S I = false) := fun j hj h => by
    unfold sizesB
    rw [List.all_eq_false]
    exact ⟨j, List.mem_range.2 (by rw [← HN.out]; exact hj), by rw [h]; decide⟩
  obtain ⟨W0, hW0⟩ : ∃ x, x = w.alloc (.cells #[.slice fa fl fc, .slice ia n ic, .string t] 36) := ⟨_, rfl⟩
  have HB0 : Hid (Below w.heap.size w W0) := by rw [hW0]; exact bupK (Below.refl _ w) _
  have HN0 : Hid (W0.heap[w.heap.size]? = some (.cells #[.slice fa fl fc, .slice ia n ic, .string t] 36 (0, 0))) := by rw [hW0]; exact heap_alloc_new w _
  have c2 := cell_rowK HN0.out 2 _ rfl
  have htI : ¬ ((t.size : Int) > 67108864) := by omega
  clear hv hi hI hz hk hnn
  go_enter Tryd.func35, Tryd.ntmps35
  go_upto_region 1 with fail
  rw [← hW0]
  clear hW0
  go_wp2
  go_loopw [7] (fun i wx => ∃ j : Nat, i = .int .i64 j ∧ j ≤ n ∧ (∀ i, i < j → (sizeB (spz S i) && sizeB ((isz I i : Int) + spz S i)) = true) ∧ Below W0.heap.size W0 wx) (fun i _ => n - (intOf i).toNat)
  case atStart => exact ⟨0, rfl, Nat.zero_le _, (fun j hj => absurd hj (Nat.not_lt_zero _)), Below.refl _ _⟩
  case round =>
    obtain ⟨j, rfl, hjn, hok, hB0⟩ := hrel
    obtain ⟨wo, hwo⟩ : ∃ y, y = wr := ⟨_, rfl⟩
    subst hwo
    have hB : Below w.heap.size w wo := HB0.out.trans (hB0.mono HB0.out.size)
    have HB := hidK hB0
    have HBW := hidK hB
    have HO := hidK hok
    clear hok c2 htI
    by_cases hj : j < n
    · have jI : (j : Int) < (n : Int) := by omega
      have j0 : (0 : Int) ≤ (j : Int) := by omega
      have jw : IntKind.i64.wrap ((j : Int) + 1) = (j : Int) + 1 := by rw [IntKind.wrap_i64]; omega
      obtain ⟨⟨nm, z⟩, hx⟩ : ∃ x, S[j]? = some x := ⟨_, List.getElem?_eq_getElem (by have := HN.out; omega)⟩
      have hzz := spz_at hx
      simp only at hzz
      obtain ⟨b1, o1, p1, e1, d0, d1⟩ := (HV.out wo hB).en hx
      injection e1 with e1 e1b e1c
      subst e1
      simp only at d0 d1
      obtain ⟨b2, o2, p2, e2, g0⟩ := (HU.out wo hB).getY (j := j) (by rw [HI.out]; exact hj)
      injection e2 with e2 e2b e2c
      subst e2
      obtain ⟨s, hs⟩ : ∃ s, s = I.getD j .empty := ⟨_, rfl⟩
      rw [← hs] at g0
      have hsz : isz I j = s.size := by rw [hs]; rfl
      have hsb : s.size ≤ 1099999 := by rw [← hsz]; exact HZ.out j
      have hks : k ≠ 2 → s.size = 0 := by rw [← hsz]; exact HK.out j
      have HEQ := hidK (rszB_eq (z := z) hks)
      have HST := hidK (HNO.out j hj)
      have HGO : Hid ((sizeB z && sizeB ((s.size : Int) + z)) = true → ∀ i, i < j + 1 → (sizeB (spz S i) && sizeB ((isz I i : Int) + spz S i)) = true) := fun h i hi => by
        by_cases hij : i < j
        · exact HO.out i hij
        · obtain rfl : i = j := by omega
          rw [hzz, hsz]; exact h
      rw [hzz, hsz, ← HEQ.out] at HST
      rw [← HEQ.out] at HGO
      have m1 := cell_rowK (hkeepK hB0 HN0.out) 1 _ rfl
      clear hx hs e1b e1c e2b e2c hB hB0 hzz hsz hks HEQ HNO
      by_cases h1 : z < 0
      · have HR : Hid (rszB k s.size z = false) := by show _ = _; unfold rszB; simp [h1]
        have hans := hidK (HST.out HR.out)
        go_wp2
        go_ret
        exact ⟨congrArg (fun b => Ending.returned (Value.bool b)) hans.out.symm, HB.out.mono HB0.out.size |> HB0.out.trans⟩
      · by_cases h2 : z > 9999999999
        · have HR : Hid (rszB k s.size z = false) := by show _ = _; unfold rszB; simp [h2]
          have hans := hidK (HST.out HR.out)
          go_wp2
          go_ret
          exact ⟨congrArg (fun b => Ending.returned (Value.bool b)) hans.out.symm, HB.out.mono HB0.out.size |> HB0.out.trans⟩
        · by_cases h3 : k = 2
          · subst h3
            have hsw : IntKind.i64.wrap (z + (s.size : Int)) = z + (s.size : Int) := by rw [IntKind.wrap_i64]; omega
            by_cases h4 : z + (s.size : Int) > 9999999999
            · have HR : Hid (rszB 2 s.size z = false) := by show _ = _; unfold rszB; simp [h4]
              have hans := hidK (HST.out HR.out)
              have HB5 : Hid (∀ n, Below w.heap.size w (wo.drewN n)) := fun n => below_drewY HBW.out n
              go_upto_region 8 with fail
              go_quiet (fail)
              go_wp2
              go_ret
              exact ⟨congrArg (fun b => Ending.returned (Value.bool b)) hans.out.symm, HB5.out _⟩
            · have HR : Hid (rszB 2 s.size z = true) := by show _ = _; unfold rszB; simp [h1, h2, h4]
              have hgo := hidK (HGO.out HR.out)
              have HB5 : Hid (∀ n, Below W0.heap.size W0 (wo.drewN n)) := fun n => below_drewY HB.out n
              go_upto_region 8 with fail
              go_quiet (fail)
              go_wp2
              go_roundw
              case rel => exact ⟨j + 1, by go_num, by omega, hgo.out, HB5.out _⟩
              case measure => simp [intOf]; omega
          · have h3b : (k == 2) = false := by simp [h3]
            have HR : Hid (rszB k s.size z = true) := by show _ = _; unfold rszB; simp [h1, h2, h3]
            have hgo := hidK (HGO.out HR.out)
            have HB5 : Hid (∀ n, Below W0.heap.size W0 (wo.drewN n)) := fun n => below_drewY HB.out n
            go_upto_region 8 with fail
            go_quiet (fail)
            go_wp2
            go_roundw
            case rel => exact ⟨j + 1, by go_num, by omega, hgo.out, HB5.out _⟩
            case measure => simp [intOf]; omega
    · obtain rfl : j = n := by omega
      have hans := hidK (HOK.out j HO.out rfl)
      go_wp2
      go_ret
      exact ⟨congrArg (fun b => Ending.returned (Value.bool b)) hans.out.symm, HBW.out⟩
end Go.Proofs.YtmlnnbinbbmmhaaDoor
