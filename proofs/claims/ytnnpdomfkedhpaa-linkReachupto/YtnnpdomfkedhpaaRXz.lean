import Derived.Test.YtnnpdomfkedhpaaRX1z

-- LinkReach: the walk.
namespace Go.Proofs.Ytnnpdomfkedhpaa
open Go.ChangeShapes Go.WideShapes Go.ChangeAt Go.RowKit Go.MapKept
set_option linter.unusedVariables false
set_option maxRecDepth 100000
set_option maxHeartbeats 16000000 in
theorem reach_w (v u : Value) (ovs : List Ov) (O : List Ob) (roots : List ByteArray) (w : World) (hV : ObsAt (fun b => w.heap.size ≤ b) w v ovs O) (hu : RowT w u roots) (hR : roots.length ≤ 1048576) (hM : ∀ o ∈ O, o.df.length ≤ 1048576 ∧ o.nd.length ≤ 1048576) :
    Calls Try.prog 3 #[v, u] w fun e w' => e = .returned (.bool true) ∧ Below w.heap.size w w' := by
  obtain ⟨a1, c1, q1, _, _⟩ := hV.row.row.form
  obtain ⟨n, hnn⟩ : ∃ n, n = O.length := ⟨_, rfl⟩
  rw [hV.len, ← hnn] at q1
  subst q1
  obtain ⟨au, cu, eu, _, _⟩ := hu.form
  obtain ⟨lu, hlu⟩ : ∃ l, l = roots.length := ⟨_, rfl⟩
  rw [← hlu] at eu
  subst eu
  clear hlu
  have H0 : Hid (n ≤ 1000 → Calls Try.prog 4 #[.slice a1 n c1] w fun e w' => ∃ a l c, ∃ ous : List Ov, e = .returned (.slice a l c) ∧ O1Ok ous (onlyN O).1 n roots ∧ RcW w (.slice au lu cu) (.slice a l c) ous (onlyN O).1 roots w') := fun hn => (only_c _ ovs O w hV (by omega) (fun o ho => (hM o ho).1)).mono (by
    rintro e w' ⟨a, l, c, ous, rfl, h1, h2, h3⟩
    have ho := on_ok O
    refine ⟨a, l, c, ous, rfl, ⟨ho.l.trans hnn.symm, hn, h1.len, by rw [← ho.s]; exact ho.u, h2, fun o' ho' => ?_, hR⟩, ⟨h3, h1, hu.on h3⟩⟩
    obtain ⟨i, hi⟩ := List.getElem?_of_mem ho'
    obtain ⟨o, e1, e2, e3⟩ := ho.e i o' hi
    have := hM o (List.mem_of_getElem? e1)
    rw [e2]
    omega)
  clear hV hu hM hnn
  obtain ⟨O1, hO1⟩ : ∃ x, x = (onlyN O).1 := ⟨_, rfl⟩
  rw [← hO1] at H0
  clear hO1
  go_enter Try.func3, Try.ntmps3
  by_cases hbig : n ≤ 1000
  · have hI : ¬ ((1000 : Int) < (n : Int)) := by omega
    have HC := hidK (H0.out hbig)
    clear H0
    go_upto_region 3 with fail
    go_upto_region 4 with (go_at_call 4; refine HC.out.mono ?_; rintro e w1 ⟨av, lv, cv, ous, rfl, ho, hw⟩; have HO := hidK ho; have HW := hidK hw; clear ho hw)
    have HC4 := hidK (reach1 HO.out HW.out)
    clear HC
    go_upto_region 5 with (go_at_call 5; refine HC4.out.mono ?_; rintro e w2 ⟨ak, lk, ck, rfl, ha, hw, hb⟩; have HA2 := hidK ha; have HW2 := hidK hw; clear ha hw hb)
    have HC5 := hidK (shelf1 HO.out false HW2.out)
    clear HC4
    go_upto_region 6 with (go_at_call 6; refine HC5.out.mono ?_; rintro e w3 ⟨ga, lva, rfl, hl, hw, hb⟩; have HL3 := hidK hl; have HW3 := hidK hw; have HA3 := hidK (HA2.out.on hb); clear hl hw hb)
    have HC6 := hidK (shelf1 HO.out true HW3.out)
    clear HC5
    go_upto_region 7 with (go_at_call 6; refine HC6.out.mono ?_; rintro e w4 ⟨gb, lvb, rfl, hl, hw, hb⟩; have HM4 := hidK hl; have HW4 := hidK hw; have HA4 := hidK (HA3.out.on hb); have HL4 := hidK (HL3.out.on hb); clear hl hw hb)
    have HC7 := hidK (group3 HO.out false HW4.out HL4.out)
    clear HC6
    go_upto_region 8 with (go_at_call 7; refine HC7.out.mono ?_; rintro e w5 ⟨x0, l0, c0, x1, l1, c1, x2, l2, c2, rfl, q1, q2, q3, hb⟩; have HQ1 := hidK q1; have HQ2 := hidK q2; have HQ3 := hidK q3; have HB5 := hidK hb; clear q1 q2 q3 hb)
    obtain ⟨w6, hw6⟩ : ∃ x, x = w5.alloc (.cells #[.slice x0 l0 c0, .slice x1 l1 c1, .slice x2 l2 c2] 32) := ⟨_, rfl⟩
    have hb6 : Below w5.heap.size w5 w6 := by rw [hw6]; exact (Below.refl _ _).alloc (Nat.le_refl _) _
    have hz6 : w6.heap[w5.heap.size]? = some (.cells #[.slice x0 l0 c0, .slice x1 l1 c1, .slice x2 l2 c2] 32 (0, 0)) := by rw [hw6]; exact heap_alloc_new _ _
    have HX6 : Hid (XbW w5.heap.size (.slice x0 l0 c0) (.slice x1 l1 c1) (.slice x2 l2 c2) (lkR O1 ous false roots) w6) := ⟨hz6, HQ1.out.on hb6, HQ2.out.on hb6, HQ3.out.on hb6⟩
    have HW6 := hidK ((HW4.out.on HB5.out).on hb6)
    have HA6 := hidK ((HA4.out.on HB5.out).on hb6)
    have HM6 := hidK ((HM4.out.on HB5.out).on hb6)
    rw [← hw6]
    clear hw6 hb6 hz6 HC7 HQ1 HQ2 HQ3
    have HC8 := hidK (group3 HO.out true HW6.out HM6.out)
    go_upto_region 9 with (go_at_call 7; refine HC8.out.mono ?_; rintro e w7 ⟨y0, m0, d0, y1, m1, d1, y2, m2, d2, rfl, q1, q2, q3, hb⟩; have HQ1 := hidK q1; have HQ2 := hidK q2; have HQ3 := hidK q3; have HB7 := hidK hb; clear q1 q2 q3 hb)
    obtain ⟨w8, hw8⟩ : ∃ x, x = w7.alloc (.cells #[.slice y0 m0 d0, .slice y1 m1 d1, .slice y2 m2 d2] 32) := ⟨_, rfl⟩
    have hb8 : Below w7.heap.size w7 w8 := by rw [hw8]; exact (Below.refl _ _).alloc (Nat.le_refl _) _
    have hz8 : w8.heap[w7.heap.size]? = some (.cells #[.slice y0 m0 d0, .slice y1 m1 d1, .slice y2 m2 d2] 32 (0, 0)) := by rw [hw8]; exact heap_alloc_new _ _
    have HY8 : Hid (XbW w7.heap.size (.slice y0 m0 d0) (.slice y1 m1 d1) (.slice y2 m2 d2) (lkR O1 ous true roots) w8) := ⟨hz8, HQ1.out.on hb8, HQ2.out.on hb8, HQ3.out.on hb8⟩
    have HX8 := hidK ((HX6.out.on HB7.out).on hb8)
    have HW8 := hidK ((HW6.out.on HB7.out).on hb8)
    have HA8 := hidK ((HA6.out.on HB7.out).on hb8)
    rw [← hw8]
    clear hw8 hb8 hz8 HC8 HQ1 HQ2 HQ3
    have HC9 := hidK (reaches1 HO.out false HW8.out HA8.out HX8.out)
    have HC10 : Hid (∀ W, Below w8.heap.size w8 W → Calls Try.prog 8 #[.agg #[.slice y0 m0 d0, .slice y1 m1 d1, .slice y2 m2 d2], .slice av lv cv, .slice (some ⟨w1.heap.size, 0, none⟩) n n, .slice ak lk ck, .bool true] W fun e w' => e = .returned (.bool true) ∧ Below w.heap.size w w') := fun W hb => (reaches1 HO.out true (HW8.out.on hb) (HA8.out.on hb) (HY8.out.on hb)).mono (by
      rintro e w' ⟨rfl, q⟩
      exact ⟨rfl, ((HW8.out.on hb).on q).b⟩)
    have HYC : Hid (∀ W, Below w8.heap.size w8 W → W.cell? ⟨w7.heap.size, 0, none⟩ = some (.slice y0 m0 d0) ∧ W.cell? ⟨w7.heap.size, 1, none⟩ = some (.slice y1 m1 d1) ∧ W.cell? ⟨w7.heap.size, 2, none⟩ = some (.slice y2 m2 d2)) := fun W hb => lk_cells (HY8.out.on hb).g
    obtain ⟨z0, z1, z2⟩ := lk_cells HX8.out.g
    go_wp2_with (go_at_call 8; first
      | (with_reducible refine HC9.out.mono ?_; rintro e w9 ⟨rfl, hb9⟩; have HC11 := hidK (HC10.out w9 hb9); obtain ⟨t0, t1, t2⟩ := HYC.out w9 hb9; clear HC9 hb9)
      | (refine HC11.out.mono ?_; rintro e w10 ⟨rfl, hb10⟩; have HB10 := hidK hb10; clear hb10))
    go_ret
    exact ⟨rfl, HB10.out⟩
  · have hI : ((1000 : Int) < (n : Int)) := by omega
    go_wp2
    go_ret
    exact ⟨rfl, Below.refl _ _⟩
end Go.Proofs.Ytnnpdomfkedhpaa
