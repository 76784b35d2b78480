import Derived.Test.YtmlnnbinbbmmhaaDoorYLz
import Derived.Test.YtmlnnbinbbmmhaaDoorYFz
import Derived.Test.YtmlnnbinbbmmhaaDoorYR3z

-- LayPlan's walk.
namespace Go.Proofs.YtmlnnbinbbmmhaaDoor
open Go.ChangeShapes Go.WideShapes Go.ChangeAt Go.RowKit
set_option linter.unusedVariables false
set_option maxRecDepth 100000
theorem PlanSays.row {A : Pa} {w w' : World} {e : Ending} (h : PlanSays A w e w') : ∃ ao n c, e = .returned (.tuple #[.agg #[.slice ao n c, .int .i64 A.tb, .int .i64 A.tt], .int .i64 A.e]) ∧ RowI w' (.slice ao n c) A.a ∧ Below w.heap.size w w' := by
  obtain ⟨ao, n, c, h1, h2, h3, h4⟩ := h
  exact ⟨ao, n, c, h1, rowG_own (by decide) nmL_len h2, h4⟩
theorem planA_len (k ix : Int) (S : List Sp) : (planA k S ix).a.length ≤ S.length := by
  unfold planA
  split
  · split
    · split
      · unfold layN; simp
      · exact Nat.zero_le _
    · exact Nat.zero_le _
  · exact Nat.zero_le _
set_option maxHeartbeats 4000000 in
theorem layPlan_w (k ix : Int) (v : Value) (S : List Sp) (w : World) (hv : RowG enL w v S) (ht : tot (nmS S) ≤ 1099999) (hT : Tabs w) :
    Calls Tryd.prog 5 #[.int .i64 k, v, .int .i64 ix] w fun e w' => e = .returned (.bool true) ∧ Below w.heap.size w w' := by
  obtain ⟨a1, c1, q1, hcap, hmx⟩ := hv.form
  obtain ⟨n, hnn⟩ : ∃ n, n = S.length := ⟨_, rfl⟩
  rw [← hnn] at q1 hcap
  subst q1
  have hlt := tot_len (nmS S)
  have hln : (nmS S).length = n := by unfold nmS; rw [List.length_map, hnn]
  rw [hln] at hlt
  have hn : n ≤ 1099999 := Nat.le_trans hlt ht
  have HTW := hidK (twinSpecs_c (.slice a1 n c1) S w hv (by omega))
  have HV : Hid (∀ W, Below w.heap.size w W → RowG enL W (.slice a1 n c1) S) := fun W hb => hv.on hb
  have HP : Hid (∀ (u : Value) (W : World), RowG enL W u S → Below w.heap.size w W → Calls Tryd.prog 7 #[.int .i64 k, u, .int .i64 ix] W fun e w' => ∃ ao n c, e = .returned (.tuple #[.agg #[.slice ao n c, .int .i64 (planA k S ix).tb, .int .i64 (planA k S ix).tt], .int .i64 (planA k S ix).e]) ∧ RowI w' (.slice ao n c) (planA k S ix).a ∧ Below W.heap.size W w') := fun u W hu hb => (plan_c k ix u S W hu ht (hT.on hb)).mono (fun e w' h => h.row)
  have HR : Hid (∀ (u : Value) (W : World), RowG enL W u S → Below w.heap.size w W → Calls Tryd.prog 14 #[.int .i64 k, u, .int .i64 ix] W fun e w' => ∃ ao n c, e = .returned (.tuple #[.agg #[.slice ao n c, .int .i64 (planA k S ix).tb, .int .i64 (planA k S ix).tt], .int .i64 (planA k S ix).e]) ∧ RowI w' (.slice ao n c) (planA k S ix).a ∧ Below W.heap.size W w') := fun u W hu hb => (rplan_c k ix u S W hu ht (hT.on hb)).mono (fun e w' h => h.row)
  have hal := planA_len k ix S
  have HAL : Hid ((planA k S ix).a.length < 4611686018427387904) := by show _ < _; omega
  have HSL : Hid (S.length < 4611686018427387904) := by show _ < _; omega
  obtain ⟨A, hA⟩ : ∃ A, A = planA k S ix := ⟨_, rfl⟩
  rw [← hA] at HP HR HAL
  clear hv ht hT hnn hlt hln hal hA
  go_enter Tryd.func5, Tryd.ntmps5
  go_upto_region 2 with (go_at_call 13; refine HTW.out.mono ?_; rintro e w1 ⟨u, rfl, ho, hb1⟩; have HO1 := hidK (OwnF.row elSp ho); have HB1 := hidK hb1; clear ho hb1)
  have HC2 := hidK (HP.out (.slice a1 n c1) w1 (HV.out w1 HB1.out) HB1.out)
  clear HTW HP
  go_upto_region 3 with (go_at_call 7; refine HC2.out.mono ?_; rintro e w2 ⟨ao, m, c, rfl, hr, hb2⟩; have HRW2 := hidK hr; have HB2 := hidK hb2; clear hr hb2)
  obtain ⟨w3, hw3⟩ : ∃ x, x = w2.alloc (.cells #[.slice ao m c, .int .i64 A.tb, .int .i64 A.tt] 27) := ⟨_, rfl⟩
  have hb3 : Below w2.heap.size w2 w3 := by rw [hw3]; exact (Below.refl _ _).alloc (Nat.le_refl _) _
  have hz3 : w3.heap[w2.heap.size]? = some (.cells #[.slice ao m c, .int .i64 A.tb, .int .i64 A.tt] 27 (0, 0)) := by rw [hw3]; exact heap_alloc_new _ _
  have HB13 : Hid (Below w1.heap.size w1 w3) := HB2.out.trans (hb3.mono HB2.out.size)
  have HB3 : Hid (Below w.heap.size w w3) := HB1.out.trans (HB13.out.mono HB1.out.size)
  have HZ3 := hidK hz3
  have HRW3 := hidK (HRW2.out.on hb3)
  have HO3 := hidK (HO1.out.on HB13.out)
  have HC3 := hidK (HR.out u w3 HO3.out HB3.out)
  rw [← hw3]
  clear hw3 hb3 hz3 HC2 HRW2 HB2 HO1 HB1 HB13 HR
  go_upto_region 4 with (go_at_call 14; refine HC3.out.mono ?_; rintro e w4 ⟨ao2, m2, c2, rfl, hr, hb4⟩; have HRW4 := hidK hr; have HB4 := hidK hb4; clear hr hb4)
  obtain ⟨w5, hw5⟩ : ∃ x, x = w4.alloc (.cells #[.slice ao2 m2 c2, .int .i64 A.tb, .int .i64 A.tt] 27) := ⟨_, rfl⟩
  have hb5 : Below w4.heap.size w4 w5 := by rw [hw5]; exact (Below.refl _ _).alloc (Nat.le_refl _) _
  have hz5 : w5.heap[w4.heap.size]? = some (.cells #[.slice ao2 m2 c2, .int .i64 A.tb, .int .i64 A.tt] 27 (0, 0)) := by rw [hw5]; exact heap_alloc_new _ _
  have HB35 : Hid (Below w3.heap.size w3 w5) := HB4.out.trans (hb5.mono HB4.out.size)
  have HB5 : Hid (Below w.heap.size w w5) := HB3.out.trans (HB35.out.mono HB3.out.size)
  have hx5 := hkeepK HB35.out HZ3.out
  have x0 := cell_rowK hx5 0 _ rfl
  have x1 := cell_rowK hx5 1 _ rfl
  have x2 := cell_rowK hx5 2 _ rfl
  have y0 := cell_rowK hz5 0 _ rfl
  have y1 := cell_rowK hz5 1 _ rfl
  have y2 := cell_rowK hz5 2 _ rfl
  have HC4 := hidK (sameLayout_c (.slice ao m c) (.slice ao2 m2 c2) A.tb A.tt A.a w5 (HRW3.out.on HB35.out) (HRW4.out.on hb5) HAL.out)
  have HO5 := hidK (HO3.out.on HB35.out)
  rw [← hw5]
  clear hw5 hb5 hz5 hx5 HC3 HRW3 HRW4 HB4 HO3 HZ3 HB35
  go_upto_region 5 with (go_at_call 15; refine HC4.out.mono ?_; rintro e w6 ⟨rfl, hb6⟩; have HB6 := hidK hb6; clear hb6)
  have HB06 : Hid (Below w.heap.size w w6) := HB5.out.trans (HB6.out.mono HB5.out.size)
  have HC5 := hidK (sameSpecs10_c (.slice a1 n c1) u S w6 (HV.out w6 HB06.out) (HO5.out.on HB6.out) HSL.out)
  clear x0 x1 x2 y0 y1 y2 HC4
  go_upto_region 6 with (go_at_call 16; refine HC5.out.mono ?_; rintro e w7 ⟨rfl, hb7⟩; have HB7 := hidK hb7; clear hb7)
  go_wp2
  go_ret
  exact ⟨by simp, HB06.out.trans (HB7.out.mono HB06.out.size)⟩
end Go.Proofs.YtmlnnbinbbmmhaaDoor
