
-- VfsIs' walk.
import Derived.Test.YtloljimabapicacGreatS12
import Derived.Test.YtloljimabapicacGreatXA
import Derived.Deep.RegionWith
import Derived.Deep.DrawnRows
namespace Go.Proofs.YtloljimabapicacGreat
open Go.RowKit
set_option linter.unusedVariables false
variable {PS : (Nat → Prop) → Nat → St → World → Prop}
set_option maxRecDepth 100000 in
set_option maxHeartbeats 8000000 in
theorem vfsIs_w (C : PC PS) (c : Int) (v : Value) (ops : List Opv) (w : World) (hv : RowV w v ops) (hok : ∀ (j : Nat) (o : Opv), ops[j]? = some o → OpvOk w.heap.size o w) (hl : ops.length ≤ 1048576) :
    Calls Tryz.prog 4 #[.int .i64 c, v] w fun e w' => e = .returned (.bool true) ∧ Below w.heap.size w w' := by
  obtain ⟨ao, cp, hvs⟩ := hv.form
  by_cases hc : c < 0 ∨ 1073741824 < c
  · have HD : Hid (Calls Tryz.prog 5 #[.int .i64 c] w fun e w' => e = .returned (.tuple #[.pointer none, .bool true]) ∧ Below w.heap.size w w') := pair_no C c w hc
    clear hc hok hv
    subst hvs
    go_enter Tryz.func4, Tryz.ntmps4
    go_wp2_with (go_at_call 5; refine HD.out.mono ?_; rintro e w1 ⟨rfl, hb1⟩)
    go_returns
    exact ⟨rfl, hb1⟩
  · obtain ⟨cn, rfl⟩ := Int.eq_ofNat_of_zero_le (show 0 ≤ c by omega)
    have hcn : cn ≤ 1073741824 := by omega
    have HD : Hid (Calls Tryz.prog 5 #[.int .i64 (cn : Int)] w fun e w' => ∃ pb, e = .returned (.tuple #[.pointer (some ⟨pb, 0, none⟩), .bool true]) ∧ Bx PS w.heap.size pb 0 w' ∧ Below w.heap.size w w') := pair_c C cn w hcn
    have HOK : Hid (∀ (j : Nat) (o : Opv), ops[j]? = some o → OpvOk w.heap.size o w) := hok
    have HV : Hid (RowV w v ops) := hv
    have HST : Hid (∀ pb k o wx, Bx PS w.heap.size pb k wx → w.heap.size ≤ wx.heap.size → k < 2097151 → OpvOk w.heap.size o wx → Calls Tryz.prog 11 #[.pointer (some ⟨pb, 0, none⟩), o.v] wx fun e w' => e = .returned (.int .i64 0) ∧ Bx PS w.heap.size pb (k + 1) w' ∧ Below w.heap.size wx w') := fun pb k o wx h1 h2 h3 h4 => step_c C w.heap.size pb k o wx h1 h2 h3 h4
    have HBX : Hid (∀ pb k wx W, Bx PS w.heap.size pb k wx → Below wx.heap.size wx W → w.heap.size ≤ wx.heap.size → Bx PS w.heap.size pb k W) := fun pb k wx W h1 h2 h3 => h1.below C h2 h3
    obtain ⟨n, hn⟩ : ∃ n, n = ops.length := ⟨_, rfl⟩
    have HNN : Hid (n = ops.length) := hn
    rw [← hn] at hl hvs
    subst hvs
    clear hc hok hv hn hcn
    go_enter Tryz.func4, Tryz.ntmps4
    go_wp2_with (go_at_call 5; refine HD.out.mono ?_; rintro e w2 ⟨pb, rfl, hx2, hb2⟩)
    have HP0 : Hid (Bx PS w.heap.size pb 0 w2 ∧ Below w.heap.size w w2) := ⟨hx2, hb2⟩
    clear hx2 hb2 HD
    go_loopw [7] (fun i wr => ∃ k : Nat, i = .int .i64 k ∧ k ≤ n ∧ Bx PS w.heap.size pb k wr ∧ Below w.heap.size w wr) (fun i _ => n - (intOf i).toNat)
    case atStart => exact ⟨0, rfl, Nat.zero_le _, HP0.out.1, HP0.out.2⟩
    case round =>
      obtain ⟨k, rfl, hkn, hpl, hbw⟩ := hrel
      have hbs := hbw.size
      by_cases hk : k < n
      · have hkl : k < ops.length := by rw [← HNN.out]; exact hk
        obtain ⟨o, hok⟩ : ∃ o, ops[k]? = some o := ⟨_, List.getElem?_eq_getElem hkl⟩
        have hoo := HOK.out k o hok
        obtain ⟨b, off, rfl, hbl, hat⟩ : ∃ b off, ao = some ⟨b, off, none⟩ ∧ b < w.heap.size ∧ OpvAt w b (off + k * 10) o := by
          rcases HV.out with ⟨h0, _⟩ | ⟨b, off, cap, hv, hb, hc⟩
          · rw [h0] at hkl; simp at hkl
          · cases hv; exact ⟨b, off, rfl, hb, hc k o hok⟩
        have hat2 := hat.below hbw hbl
        obtain ⟨⟨po, pl, pc, hpv⟩, co, cl, cc, hcv⟩ := hoo.slices
        have hstep := fun W h1 h2 h3 => HST.out pb k o W h1 h2 (by omega) h3
        have hox := fun W hb => hoo.below (w' := W) hb (Nat.le_refl _)
        clear hok hat hoo
        obtain ⟨kind, nn, a, bb, m0, m1, m2, m3, pv, cv, plan, cuts⟩ := o
        simp only at hpv hcv
        subst hpv; subst hcv
        obtain ⟨e0, e1, e2, e3, e4, e5, e6, e7, e8, e9⟩ := hat2
        simp only at e0 e1 e2 e3 e4 e5 e6 e7 e8 e9
        unfold Opv.v at hstep
        simp only at hstep
        have b1 : decide ((k : Int) < (n : Int)) = true := by simp; omega
        have i1 : (k : Int) < (n : Int) := by omega
        have i2 : (0 : Int) ≤ (k : Int) := by omega
        by_cases hkd : kind = 1
        · subst hkd
          obtain ⟨q, r, E, S, M1, M2, p0, HP0', HM0, HR0, HI0⟩ := two_read C w.heap.size pb k (.cells #[.int .i64 1, .int .i64 nn, .string a, .string bb, .int .i64 m0, .int .i64 m1, .int .i64 m2, .int .i64 m3, .slice po pl pc, .slice co cl cc] 33) a bb wr hpl hbs (by omega)
          have HP : Hid _ := HP0'
          have HM : Hid _ := HM0
          have HR : Hid _ := HR0
          have HI : Hid _ := HI0
          have HBW : Hid (Below w.heap.size w wr) := hbw
          obtain ⟨W0, hW0⟩ : ∃ W0, W0 = wr.alloc (.cells #[.int .i64 1, .int .i64 nn, .string a, .string bb, .int .i64 m0, .int .i64 m1, .int .i64 m2, .int .i64 m3, .slice po pl pc, .slice co cl cc] 33) := ⟨_, rfl⟩
          have s0 : W0.heap[wr.heap.size]? = some (.cells #[.int .i64 1, .int .i64 nn, .string a, .string bb, .int .i64 m0, .int .i64 m1, .int .i64 m2, .int .i64 m3, .slice po pl pc, .slice co cl cc] 33 (0, 0)) := by rw [hW0]; exact heap_alloc_new _ _
          have HS : Hid (∀ (W : World), W.heap[wr.heap.size]? = some (.cells #[.int .i64 1, .int .i64 nn, .string a, .string bb, .int .i64 m0, .int .i64 m1, .int .i64 m2, .int .i64 m3, .slice po pl pc, .slice co cl cc] 33 (0, 0)) → W.cell? ⟨wr.heap.size, 0, none⟩ = some (.int .i64 1) ∧ W.cell? ⟨wr.heap.size, 2, none⟩ = some (.string a) ∧ W.cell? ⟨wr.heap.size, 3, none⟩ = some (.string bb)) := fun W hs => by
            refine ⟨?_, ?_, ?_⟩ <;> (rw [Lib.cell_of_heap hs]; rfl)
          have HW0 : Hid (W0 = wr.alloc (.cells #[.int .i64 1, .int .i64 nn, .string a, .string bb, .int .i64 m0, .int .i64 m1, .int .i64 m2, .int .i64 m3, .slice po pl pc, .slice co cl cc] 33)) := hW0
          rw [← hW0] at p0
          obtain ⟨sk, sa, sb⟩ := HS.out W0 s0
          have HPP : Hid (∀ W, Alike W0 W → Calls Tryz.prog 14 #[.pointer (some ⟨q, 0, none⟩), .string a] W fun e w' => ∃ ev, e = .returned (.tuple #[.string S, ev]) ∧ M1 w' ev) := fun W hA => HP.out W (by rw [← HW0.out]; exact hA)
          clear hW0 s0 hpl hbw hstep hox HP0' HM0 HR0 HI0 HP
          go_wp2_with fail
          rw [← HW0.out]
          clear e0 e1 e2 e3 e4 e5 e6 e7 e8 e9
          go_region_with (go_at_call 14; refine (HPP.out _ (Alike.mk ?_ ?_ ?_ ?_)).mono ?_; rfl; rfl; rfl; rfl; rintro e w1 ⟨ev, rfl, mm1⟩)
          all_goals
            obtain ⟨p1, hx1⟩ := HM.out w1 ev mm1
            obtain ⟨s1k, s1a, s1b⟩ := HS.out w1 hx1
            have HR1 := HR.out w1 ev mm1
            have HR2 : Hid _ := HR1
            clear mm1 hx1 HR1 p0 sk sa sb
            go_wp2_with fail
            go_region_with (go_at_call 15; refine (HR2.out _ (Alike.mk ?_ ?_ ?_ ?_)).mono ?_; rfl; rfl; rfl; rfl; rintro e w2 ⟨rfl, mm2⟩)
            all_goals
              have HI1 := HI.out w2 ev mm2
              have HI2 : Hid _ := HI1
              clear mm2 HI1 p1 s1k s1a s1b
              go_wp2_with (go_at_call 20; refine (HI2.out _ (Alike.mk ?_ ?_ ?_ ?_)).mono ?_; rfl; rfl; rfl; rfl; rintro e w3 ⟨rfl, hp3, hb3⟩)
              exact ⟨⟨k + 1, rfl, by omega, hp3, HBW.out.trans hb3⟩, by simp [intOf]; omega⟩
        by_cases hk5 : kind = 5
        · clear hkd; have hkd := hk5; clear hk5
          subst hkd
          obtain ⟨q, r, E, M1, M2, p0, HP0', HM0, HR0, HI0⟩ := two_rename C w.heap.size pb k (.cells #[.int .i64 5, .int .i64 nn, .string a, .string bb, .int .i64 m0, .int .i64 m1, .int .i64 m2, .int .i64 m3, .slice po pl pc, .slice co cl cc] 33) a bb wr hpl hbs (by omega)
          have HP : Hid _ := HP0'
          have HM : Hid _ := HM0
          have HR : Hid _ := HR0
          have HI : Hid _ := HI0
          have HBW : Hid (Below w.heap.size w wr) := hbw
          obtain ⟨W0, hW0⟩ : ∃ W0, W0 = wr.alloc (.cells #[.int .i64 5, .int .i64 nn, .string a, .string bb, .int .i64 m0, .int .i64 m1, .int .i64 m2, .int .i64 m3, .slice po pl pc, .slice co cl cc] 33) := ⟨_, rfl⟩
          have s0 : W0.heap[wr.heap.size]? = some (.cells #[.int .i64 5, .int .i64 nn, .string a, .string bb, .int .i64 m0, .int .i64 m1, .int .i64 m2, .int .i64 m3, .slice po pl pc, .slice co cl cc] 33 (0, 0)) := by rw [hW0]; exact heap_alloc_new _ _
          have HS : Hid (∀ (W : World), W.heap[wr.heap.size]? = some (.cells #[.int .i64 5, .int .i64 nn, .string a, .string bb, .int .i64 m0, .int .i64 m1, .int .i64 m2, .int .i64 m3, .slice po pl pc, .slice co cl cc] 33 (0, 0)) → W.cell? ⟨wr.heap.size, 0, none⟩ = some (.int .i64 5) ∧ W.cell? ⟨wr.heap.size, 2, none⟩ = some (.string a) ∧ W.cell? ⟨wr.heap.size, 3, none⟩ = some (.string bb)) := fun W hs => by
            refine ⟨?_, ?_, ?_⟩ <;> (rw [Lib.cell_of_heap hs]; rfl)
          have HW0 : Hid (W0 = wr.alloc (.cells #[.int .i64 5, .int .i64 nn, .string a, .string bb, .int .i64 m0, .int .i64 m1, .int .i64 m2, .int .i64 m3, .slice po pl pc, .slice co cl cc] 33)) := hW0
          rw [← hW0] at p0
          obtain ⟨sk, sa, sb⟩ := HS.out W0 s0
          have HPP : Hid (∀ W, Alike W0 W → Calls Tryz.prog 16 #[.pointer (some ⟨q, 0, none⟩), .string a, .string bb] W fun e w' => ∃ ev, e = .returned (ev) ∧ M1 w' ev) := fun W hA => HP.out W (by rw [← HW0.out]; exact hA)
          clear hW0 s0 hpl hbw hstep hox HP0' HM0 HR0 HI0 HP
          go_wp2_with fail
          rw [← HW0.out]
          clear e0 e1 e2 e3 e4 e5 e6 e7 e8 e9
          go_region_with (go_at_call 16; refine (HPP.out _ (Alike.mk ?_ ?_ ?_ ?_)).mono ?_; rfl; rfl; rfl; rfl; rintro e w1 ⟨ev, rfl, mm1⟩)
          all_goals
            obtain ⟨p1, hx1⟩ := HM.out w1 ev mm1
            obtain ⟨s1k, s1a, s1b⟩ := HS.out w1 hx1
            have HR1 := HR.out w1 ev mm1
            have HR2 : Hid _ := HR1
            clear mm1 hx1 HR1 p0 sk sa sb
            go_wp2_with fail
            go_region_with (go_at_call 17; refine (HR2.out _ (Alike.mk ?_ ?_ ?_ ?_)).mono ?_; rfl; rfl; rfl; rfl; rintro e w2 ⟨rfl, mm2⟩)
            all_goals
              have HI1 := HI.out w2 ev mm2
              have HI2 : Hid _ := HI1
              clear mm2 HI1 p1 s1k s1a s1b
              go_wp2_with (go_at_call 20; refine (HI2.out _ (Alike.mk ?_ ?_ ?_ ?_)).mono ?_; rfl; rfl; rfl; rfl; rintro e w3 ⟨rfl, hp3, hb3⟩)
              exact ⟨⟨k + 1, rfl, by omega, hp3, HBW.out.trans hb3⟩, by simp [intOf]; omega⟩
        by_cases hk6 : kind = 6
        · clear hkd hk5; have hkd := hk6; clear hk6
          subst hkd
          obtain ⟨q, r, E, M1, M2, p0, HP0', HM0, HR0, HI0⟩ := two_remove C w.heap.size pb k (.cells #[.int .i64 6, .int .i64 nn, .string a, .string bb, .int .i64 m0, .int .i64 m1, .int .i64 m2, .int .i64 m3, .slice po pl pc, .slice co cl cc] 33) a bb wr hpl hbs (by omega)
          have HP : Hid _ := HP0'
          have HM : Hid _ := HM0
          have HR : Hid _ := HR0
          have HI : Hid _ := HI0
          have HBW : Hid (Below w.heap.size w wr) := hbw
          obtain ⟨W0, hW0⟩ : ∃ W0, W0 = wr.alloc (.cells #[.int .i64 6, .int .i64 nn, .string a, .string bb, .int .i64 m0, .int .i64 m1, .int .i64 m2, .int .i64 m3, .slice po pl pc, .slice co cl cc] 33) := ⟨_, rfl⟩
          have s0 : W0.heap[wr.heap.size]? = some (.cells #[.int .i64 6, .int .i64 nn, .string a, .string bb, .int .i64 m0, .int .i64 m1, .int .i64 m2, .int .i64 m3, .slice po pl pc, .slice co cl cc] 33 (0, 0)) := by rw [hW0]; exact heap_alloc_new _ _
          have HS : Hid (∀ (W : World), W.heap[wr.heap.size]? = some (.cells #[.int .i64 6, .int .i64 nn, .string a, .string bb, .int .i64 m0, .int .i64 m1, .int .i64 m2, .int .i64 m3, .slice po pl pc, .slice co cl cc] 33 (0, 0)) → W.cell? ⟨wr.heap.size, 0, none⟩ = some (.int .i64 6) ∧ W.cell? ⟨wr.heap.size, 2, none⟩ = some (.string a) ∧ W.cell? ⟨wr.heap.size, 3, none⟩ = some (.string bb)) := fun W hs => by
            refine ⟨?_, ?_, ?_⟩ <;> (rw [Lib.cell_of_heap hs]; rfl)
          have HW0 : Hid (W0 = wr.alloc (.cells #[.int .i64 6, .int .i64 nn, .string a, .string bb, .int .i64 m0, .int .i64 m1, .int .i64 m2, .int .i64 m3, .slice po pl pc, .slice co cl cc] 33)) := hW0
          rw [← hW0] at p0
          obtain ⟨sk, sa, sb⟩ := HS.out W0 s0
          have HPP : Hid (∀ W, Alike W0 W → Calls Tryz.prog 18 #[.pointer (some ⟨q, 0, none⟩), .string a] W fun e w' => ∃ ev, e = .returned (ev) ∧ M1 w' ev) := fun W hA => HP.out W (by rw [← HW0.out]; exact hA)
          clear hW0 s0 hpl hbw hstep hox HP0' HM0 HR0 HI0 HP
          go_wp2_with fail
          rw [← HW0.out]
          clear e0 e1 e2 e3 e4 e5 e6 e7 e8 e9
          go_region_with (go_at_call 18; refine (HPP.out _ (Alike.mk ?_ ?_ ?_ ?_)).mono ?_; rfl; rfl; rfl; rfl; rintro e w1 ⟨ev, rfl, mm1⟩)
          all_goals
            obtain ⟨p1, hx1⟩ := HM.out w1 ev mm1
            obtain ⟨s1k, s1a, s1b⟩ := HS.out w1 hx1
            have HR1 := HR.out w1 ev mm1
            have HR2 : Hid _ := HR1
            clear mm1 hx1 HR1 p0 sk sa sb
            go_wp2_with fail
            go_region_with (go_at_call 19; refine (HR2.out _ (Alike.mk ?_ ?_ ?_ ?_)).mono ?_; rfl; rfl; rfl; rfl; rintro e w2 ⟨rfl, mm2⟩)
            all_goals
              have HI1 := HI.out w2 ev mm2
              have HI2 : Hid _ := HI1
              clear mm2 HI1 p1 s1k s1a s1b
              go_wp2_with (go_at_call 20; refine (HI2.out _ (Alike.mk ?_ ?_ ?_ ?_)).mono ?_; rfl; rfl; rfl; rfl; rintro e w3 ⟨rfl, hp3, hb3⟩)
              exact ⟨⟨k + 1, rfl, by omega, hp3, HBW.out.trans hb3⟩, by simp [intOf]; omega⟩
        have x1 : (kind == 1) = false := beq_false_of_ne hkd
        have x5 : (kind == 5) = false := beq_false_of_ne hk5
        have x6 : (kind == 6) = false := beq_false_of_ne hk6
        clear hkd hk5 hk6
        obtain ⟨W, hW⟩ : ∃ W, W = wr.alloc (.cells #[.int .i64 kind, .int .i64 nn, .string a, .string bb, .int .i64 m0, .int .i64 m1, .int .i64 m2, .int .i64 m3, .slice po pl pc, .slice co cl cc] 33) := ⟨_, rfl⟩
        have hbW : Below wr.heap.size wr W := by rw [hW]; exact (Below.refl _ wr).alloc (Nat.le_refl _) _
        have HPW : Hid (Below w.heap.size w W) := hbw.trans (hbW.mono hbs)
        have HCH : Hid (Calls Tryz.prog 11 #[.pointer (some ⟨pb, 0, none⟩), .agg #[.int .i64 kind, .int .i64 nn, .string a, .string bb, .int .i64 m0, .int .i64 m1, .int .i64 m2, .int .i64 m3, .slice po pl pc, .slice co cl cc]] W fun e w' => e = .returned (.int .i64 0) ∧ Bx PS w.heap.size pb (k + 1) w' ∧ Below w.heap.size W w') := hstep W (HBX.out pb k wr W hpl hbW hbs) (by have := hbW.size; omega) (hox W HPW.out)
        rw [hW] at HCH HPW
        clear hpl hbw hbW hW hstep hox
        go_wp2_with (go_at_call 11; refine HCH.out.mono ?_; rintro e w3 ⟨rfl, hp3, hb3⟩)
        exact ⟨⟨k + 1, rfl, by omega, hp3, HPW.out.trans hb3⟩, by simp [intOf]; omega⟩
      · obtain rfl : k = n := by omega
        have b1 : decide ((k : Int) < (k : Int)) = false := by simp
        clear hpl
        go_wp2
        go_returns
        exact ⟨rfl, hbw⟩
end Go.Proofs.YtloljimabapicacGreat
