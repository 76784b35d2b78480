-- Two volumes (the statement's walk).
import Derived.Test.YtodjgbmfmpbkjacT1
namespace Go.Proofs.Ytodjgbmfmpbkjac
open Go.RowKit
set_option linter.unusedVariables false
variable {PS : (Nat → Prop) → Nat → St → World → Prop}
/-- Both pairs behind k calls. -/
def Both (PS : (Nat → Prop) → Nat → St → World → Prop) (B pd pr pe ps : Nat) (k : Nat) (w : World) : Prop :=
  ∃ s1 s2, Four PS B pd pr s1 pe ps s2 w ∧ (Wf s1 ∧ s1.bodies.length ≤ k ∧ s1.dirs.length ≤ k + 1) ∧ (Wf s2 ∧ s2.bodies.length ≤ k ∧ s2.dirs.length ≤ k + 1)
theorem both_one (C : PC0 PS) {B pd pr pe ps k : Nat} {w : World} {o : Opx} (h : Both PS B pd pr pe ps k w) (hk : k < 2097151) (hB : B ≤ w.heap.size) (ho : OpOk B o w) :
    Calls Try.prog 7 #[.pointer (some ⟨pd, 0, none⟩), .pointer (some ⟨pr, 0, none⟩), o.v] w fun e w' => e = .returned (.bool true) ∧ Both PS B pd pr pe ps (k + 1) w' ∧ Below B w w' := by
  obtain ⟨s1, s2, f, ⟨w1, b1, d1⟩, w2, b2, d2⟩ := h
  refine (one_c C B pd pr s1 pe ps s2 o w f w1 hB ho).mono ?_
  rintro e w' ⟨rfl, f', hb⟩
  have g := step_fine w1 o (by omega) (by omega)
  exact ⟨rfl, ⟨_, s2, f', ⟨g.wf, by have := g.bodies; omega, by have := g.dirs; omega⟩, w2, by omega, by omega⟩, hb⟩
theorem Both.sym {B pd pr pe ps k : Nat} {w : World} (h : Both PS B pd pr pe ps k w) : Both PS B pe ps pd pr k w := by
  obtain ⟨s1, s2, f, a, b⟩ := h
  exact ⟨s2, s1, f.sym, b, a⟩
theorem Both.below (C : PC0 PS) {B pd pr pe ps k : Nat} {w w' : World} (h : Both PS B pd pr pe ps k w) (hb : Below w.heap.size w w') : Both PS B pd pr pe ps k w' := by
  obtain ⟨s1, s2, f, a, b⟩ := h
  exact ⟨s1, s2, f.below C hb, a, b⟩
set_option maxRecDepth 100000 in
set_option maxHeartbeats 16000000 in
theorem diskTwo_w (C : PC PS) (c d : Int) (v : Value) (ops : List Opx) (w : World) (hv : RowO w v ops) (hok : ∀ (j : Nat) (o : Opx), ops[j]? = some o → OpOk w.heap.size o w) (hl : ops.length ≤ 1048576) :
    Calls Try.prog 3 #[.int .i64 c, .int .i64 d, v] w fun e w' => e = .returned (.bool true) ∧ Below w.heap.size w w' := by
  obtain ⟨ao, cp, hvs⟩ : ∃ ao cp, v = .slice ao ops.length cp := by
    rcases hv with ⟨rfl, ao, c, rfl⟩ | ⟨b, off, cap, rfl, _⟩
    · exact ⟨_, _, rfl⟩
    · exact ⟨_, _, rfl⟩
  -- what New answers, whichever the capacity
  have HN : Hid (∀ (c : Int) (w : World), (c < 0 ∨ 1073741824 < c) → Calls Try.prog 5 #[.int .i64 c] w fun e w' => e = .returned (.pointer none) ∧ Below w.heap.size w w') := fun c w h => C.new_no c w h
  have HY : Hid (∀ (c : Nat) (w : World), c ≤ 1073741824 → Calls Try.prog 5 #[.int .i64 c] w fun e w' => ∃ p, e = .returned (.pointer (some ⟨p, 0, none⟩)) ∧ PS (fun k => w.heap.size ≤ k ∧ k < w'.heap.size) p (St.new c) w' ∧ Below w.heap.size w w') := fun c w h => C.new_c c w h
  have HRN : Hid (∀ (c : Int) (w : World), (c < 0 ∨ 1073741824 < c) → Calls Try.prog 6 #[.int .i64 c] w fun e w' => e = .returned (.pointer none) ∧ w' = w) := fun c w h => refNew_no c w h
  have HRY : Hid (∀ (c : Nat) (w : World), c ≤ 1073741824 → Calls Try.prog 6 #[.int .i64 c] w fun e w' => e = .returned (.pointer (some ⟨w.heap.size + 1, 0, none⟩)) ∧ RefSt (fun k => w.heap.size ≤ k ∧ k < w'.heap.size) (w.heap.size + 1) (St.new c) w' ∧ Below w.heap.size w w') := fun c w h => refNew_c c w h
  by_cases hc : c < 0 ∨ 1073741824 < c
  · have HD : Hid (∀ w, Calls Try.prog 5 #[.int .i64 c] w fun e w' => e = .returned (.pointer none) ∧ Below w.heap.size w w') := fun w => HN.out c w hc
    have HR : Hid (∀ w, Calls Try.prog 6 #[.int .i64 c] w fun e w' => e = .returned (.pointer none) ∧ w' = w) := fun w => HRN.out c w hc
    by_cases hd : d < 0 ∨ 1073741824 < d
    · have HE : Hid (∀ w, Calls Try.prog 5 #[.int .i64 d] w fun e w' => e = .returned (.pointer none) ∧ Below w.heap.size w w') := fun w => HN.out d w hd
      have HS : Hid (∀ w, Calls Try.prog 6 #[.int .i64 d] w fun e w' => e = .returned (.pointer none) ∧ w' = w) := fun w => HRN.out d w hd
      clear hc hd hok hv HN HY HRN HRY
      subst hvs
      go_enter Try.func3, Try.ntmps3
      go_wp2_with fail
      refine (HD.out _).mono ?_
      rintro e w1 ⟨rfl, hb1⟩
      go_wp2_with fail
      refine (HE.out _).mono ?_
      rintro e w2 ⟨rfl, hb2⟩
      go_wp2_with fail
      refine (HR.out _).mono ?_
      rintro e w3 ⟨rfl, hw3⟩
      subst w3
      go_wp2_with fail
      refine (HS.out _).mono ?_
      rintro e w3 ⟨rfl, hw3⟩
      subst w3
      go_wp2
      go_ret
      exact ⟨rfl, hb1.trans (hb2.mono hb1.size)⟩
    · obtain ⟨dn, rfl⟩ := Int.eq_ofNat_of_zero_le (show 0 ≤ d by omega)
      have hdn : dn ≤ 1073741824 := by omega
      have HE : Hid (∀ w, Calls Try.prog 5 #[.int .i64 (dn : Int)] w fun e w' => ∃ p, e = .returned (.pointer (some ⟨p, 0, none⟩)) ∧ Below w.heap.size w w') := fun w => (HY.out dn w hdn).mono fun e w' ⟨p, h1, _, h3⟩ => ⟨p, h1, h3⟩
      have HS : Hid (∀ w, Calls Try.prog 6 #[.int .i64 (dn : Int)] w fun e w' => e = .returned (.pointer (some ⟨w.heap.size + 1, 0, none⟩)) ∧ Below w.heap.size w w') := fun w => (HRY.out dn w hdn).mono fun e w' h => ⟨h.1, h.2.2⟩
      clear hc hd hok hv HN HY HRN HRY hdn
      subst hvs
      go_enter Try.func3, Try.ntmps3
      go_wp2_with fail
      refine (HD.out _).mono ?_
      rintro e w1 ⟨rfl, hb1⟩
      go_wp2_with fail
      refine (HE.out _).mono ?_
      rintro e w2 ⟨pe, rfl, hb2⟩
      go_wp2_with fail
      refine (HR.out _).mono ?_
      rintro e w3 ⟨rfl, hw3⟩
      subst w3
      go_wp2_with fail
      refine (HS.out _).mono ?_
      rintro e w3 ⟨rfl, hb3⟩
      go_wp2
      go_ret
      exact ⟨rfl, hb1.trans ((hb2.mono hb1.size).trans (hb3.mono (Nat.le_trans hb1.size hb2.size)))⟩
  · obtain ⟨cn, rfl⟩ := Int.eq_ofNat_of_zero_le (show 0 ≤ c by omega)
    have hcn : cn ≤ 1073741824 := by omega
    by_cases hd : d < 0 ∨ 1073741824 < d
    · have HD : Hid (∀ w, Calls Try.prog 5 #[.int .i64 (cn : Int)] w fun e w' => ∃ p, e = .returned (.pointer (some ⟨p, 0, none⟩)) ∧ Below w.heap.size w w') := fun w => (HY.out cn w hcn).mono fun e w' ⟨p, h1, _, h3⟩ => ⟨p, h1, h3⟩
      have HR : Hid (∀ w, Calls Try.prog 6 #[.int .i64 (cn : Int)] w fun e w' => e = .returned (.pointer (some ⟨w.heap.size + 1, 0, none⟩)) ∧ Below w.heap.size w w') := fun w => (HRY.out cn w hcn).mono fun e w' h => ⟨h.1, h.2.2⟩
      have HE : Hid (∀ w, Calls Try.prog 5 #[.int .i64 d] w fun e w' => e = .returned (.pointer none) ∧ Below w.heap.size w w') := fun w => HN.out d w hd
      have HS : Hid (∀ w, Calls Try.prog 6 #[.int .i64 d] w fun e w' => e = .returned (.pointer none) ∧ w' = w) := fun w => HRN.out d w hd
      clear hc hd hok hv HN HY HRN HRY hcn
      subst hvs
      go_enter Try.func3, Try.ntmps3
      go_wp2_with fail
      refine (HD.out _).mono ?_
      rintro e w1 ⟨pd, rfl, hb1⟩
      go_wp2_with fail
      refine (HE.out _).mono ?_
      rintro e w2 ⟨rfl, hb2⟩
      go_wp2_with fail
      refine (HR.out _).mono ?_
      rintro e w3 ⟨rfl, hb3⟩
      go_wp2_with fail
      refine (HS.out _).mono ?_
      rintro e w4 ⟨rfl, hw4⟩
      subst w4
      go_wp2
      go_ret
      exact ⟨rfl, hb1.trans ((hb2.mono hb1.size).trans (hb3.mono (Nat.le_trans hb1.size hb2.size)))⟩
    · obtain ⟨dn, rfl⟩ := Int.eq_ofNat_of_zero_le (show 0 ≤ d by omega)
      have hdn : dn ≤ 1073741824 := by omega
      have HD : Hid (Calls Try.prog 5 #[.int .i64 (cn : Int)] w fun e w' => ∃ p, e = .returned (.pointer (some ⟨p, 0, none⟩)) ∧ PS (fun k => w.heap.size ≤ k ∧ k < w'.heap.size) p (St.new cn) w' ∧ Below w.heap.size w w') := HY.out cn w hcn
      have HE : Hid (∀ w, Calls Try.prog 5 #[.int .i64 (dn : Int)] w fun e w' => ∃ p, e = .returned (.pointer (some ⟨p, 0, none⟩)) ∧ PS (fun k => w.heap.size ≤ k ∧ k < w'.heap.size) p (St.new dn) w' ∧ Below w.heap.size w w') := fun w => HY.out dn w hdn
      have HR : Hid (∀ w, Calls Try.prog 6 #[.int .i64 (cn : Int)] w fun e w' => e = .returned (.pointer (some ⟨w.heap.size + 1, 0, none⟩)) ∧ RefSt (fun k => w.heap.size ≤ k ∧ k < w'.heap.size) (w.heap.size + 1) (St.new cn) w' ∧ Below w.heap.size w w') := fun w => HRY.out cn w hcn
      have HS : Hid (∀ w, Calls Try.prog 6 #[.int .i64 (dn : Int)] w fun e w' => e = .returned (.pointer (some ⟨w.heap.size + 1, 0, none⟩)) ∧ RefSt (fun k => w.heap.size ≤ k ∧ k < w'.heap.size) (w.heap.size + 1) (St.new dn) w' ∧ Below w.heap.size w w') := fun w => HRY.out dn w hdn
      have HWF : Hid (Wf (St.new cn) ∧ Wf (St.new dn)) := ⟨new_wf cn hcn, new_wf dn hdn⟩
      have HOK : Hid (∀ (j : Nat) (o : Opx), ops[j]? = some o → OpOk w.heap.size o w) := hok
      have HV : Hid (RowO w v ops) := hv
      have C0 : Hid (PC0 PS) := C.to0
      obtain ⟨n, hn⟩ : ∃ n, n = ops.length := ⟨_, rfl⟩
      have HNN : Hid (n = ops.length) := hn
      rw [← hn] at hl hvs
      subst hvs
      clear hc hd hok hv hn hcn hdn HN HY HRN HRY
      go_enter Try.func3, Try.ntmps3
      go_wp2_with fail
      refine HD.out.mono ?_
      rintro e w1 ⟨pd, rfl, hp1, hb1⟩
      go_wp2_with fail
      refine (HE.out _).mono ?_
      rintro e w2 ⟨pe, rfl, hp2, hb2⟩
      go_wp2_with fail
      refine (HR.out _).mono ?_
      rintro e w3 ⟨rfl, hp3, hb3⟩
      go_wp2_with fail
      refine (HS.out _).mono ?_
      rintro e w4 ⟨rfl, hp4, hb4⟩
      have s1 := hb1.size
      have s2 := hb2.size
      have s3 := hb3.size
      have s4 := hb4.size
      have hb24 : Below w1.heap.size w1 w4 := hb2.trans ((hb3.mono s2).trans (hb4.mono (Nat.le_trans s2 s3)))
      have hb34 : Below w2.heap.size w2 w4 := hb3.trans (hb4.mono s3)
      have HP0 : Hid (Both PS w.heap.size pd (w2.heap.size + 1) pe (w3.heap.size + 1) 0 w4 ∧ Below w.heap.size w w4) := by
        refine ⟨⟨St.new cn, St.new dn, ⟨_, _, _, _, C.below hp1 hb24, hp3.same fun k _ hk => hb4.block k hk, C.below hp2 hb34, hp4, fun k h1 h2 => ?_, fun k h1 h2 => ?_, fun k h1 h2 => ?_, fun k h1 => ?_, fun k h1 => ?_⟩, ⟨HWF.out.1, by simp [St.new], by simp [St.new]⟩, HWF.out.2, by simp [St.new], by simp [St.new]⟩, hb1.trans (hb24.mono s1)⟩
        · have h1' : w.heap.size ≤ k ∧ k < w1.heap.size := h1
          have h2' : w2.heap.size ≤ k ∧ k < w3.heap.size := h2
          omega
        · have h1' : w1.heap.size ≤ k ∧ k < w2.heap.size := h1
          have h2' : w3.heap.size ≤ k ∧ k < w4.heap.size := h2
          omega
        · have h1' : (w.heap.size ≤ k ∧ k < w1.heap.size) ∨ (w2.heap.size ≤ k ∧ k < w3.heap.size) := h1
          have h2' : (w1.heap.size ≤ k ∧ k < w2.heap.size) ∨ (w3.heap.size ≤ k ∧ k < w4.heap.size) := h2
          omega
        · have h1' : (w.heap.size ≤ k ∧ k < w1.heap.size) ∨ (w2.heap.size ≤ k ∧ k < w3.heap.size) := h1
          omega
        · have h2' : (w1.heap.size ≤ k ∧ k < w2.heap.size) ∨ (w3.heap.size ≤ k ∧ k < w4.heap.size) := h1
          omega
      obtain ⟨pr, hpr⟩ : ∃ x, x = w2.heap.size + 1 := ⟨_, rfl⟩
      obtain ⟨ps, hps⟩ : ∃ x, x = w3.heap.size + 1 := ⟨_, rfl⟩
      rw [← hpr, ← hps] at HP0
      rw [← hpr, ← hps]
      clear hp1 hp2 hp3 hp4 hb1 hb2 hb3 hb4 s1 s2 s3 s4 hb24 hb34 hpr hps HD HE HR HS
      go_wp2_with fail
      go_loopw [11] (fun i wr => ∃ k : Nat, i = .int .i64 k ∧ k ≤ n ∧ Both PS w.heap.size pd pr pe ps k wr ∧ Below w.heap.size w wr) (fun i _ => n - (intOf i).toNat)
      case atStart => exact ⟨0, rfl, Nat.zero_le _, HP0.out.1, HP0.out.2⟩
      case round =>
        obtain ⟨k, rfl, hkn, hpl, hbw⟩ := hrel
        have hbs := hbw.size
        by_cases hk : k < n
        · have hkl : k < ops.length := by rw [← HNN.out]; exact hk
          obtain ⟨o, hok⟩ : ∃ o, ops[k]? = some o := ⟨_, List.getElem?_eq_getElem hkl⟩
          have hoo := HOK.out k o hok
          obtain ⟨b, off, rfl, hbl, hat⟩ : ∃ b off, ao = some ⟨b, off, none⟩ ∧ b < w.heap.size ∧ OpAt w b (off + k * 10) o := by
            rcases HV.out with ⟨h0, _⟩ | ⟨b, off, cap, hv, hb, hc⟩
            · rw [h0] at hkl; simp at hkl
            · cases hv; exact ⟨b, off, rfl, hb, hc k o hok⟩
          have hat2 := hat.below hbw hbl
          clear hok hat
          obtain ⟨ao2, cl2, cp2, hcv⟩ := hoo.slice
          have HOO : Hid (OpOk w.heap.size o w) := hoo
          obtain ⟨kind, on, nn, a, bb, m0, m1, m2, m3, cv, cuts⟩ := o
          simp only at hcv
          subst hcv
          obtain ⟨e0, e1, e2, e3, e4, e5, e6, e7, e8, e9⟩ := hat2
          simp only at e0 e1 e2 e3 e4 e5 e6 e7 e8 e9
          clear hoo
          have b1 : decide ((k : Int) < (n : Int)) = true := by simp; omega
          have i1 : (k : Int) < (n : Int) := by omega
          have i2 : (0 : Int) ≤ (k : Int) := by omega
          obtain ⟨W, hW⟩ : ∃ W, W = wr.alloc (.cells #[.int .i64 kind, .int .i64 on, .int .i64 nn, .string a, .string bb, .int .i64 m0, .int .i64 m1, .int .i64 m2, .int .i64 m3, .slice ao2 cl2 cp2] 31) := ⟨_, rfl⟩
          have hbW : Below wr.heap.size wr W := by rw [hW]; exact (Below.refl _ wr).alloc (Nat.le_refl _) _
          have HOW : Hid (OpOk w.heap.size ⟨kind, on, nn, a, bb, m0, m1, m2, m3, .slice ao2 cl2 cp2, cuts⟩ W) := HOO.out.below (hbw.trans (hbW.mono hbs)) (Nat.le_refl _)
          have HPW : Hid (Both PS w.heap.size pd pr pe ps k W ∧ Below w.heap.size w W) := ⟨hpl.below C0.out hbW, hbw.trans (hbW.mono hbs)⟩
          have hsW := HPW.out.2.size
          clear hpl hbw hbW
          by_cases hon : on = 1
          · have HCH : Hid (Calls Try.prog 7 #[.pointer (some ⟨pe, 0, none⟩), .pointer (some ⟨ps, 0, none⟩), .agg #[.int .i64 kind, .int .i64 on, .int .i64 nn, .string a, .string bb, .int .i64 m0, .int .i64 m1, .int .i64 m2, .int .i64 m3, .slice ao2 cl2 cp2]] W fun e w' => e = .returned (.bool true) ∧ Both PS w.heap.size pd pr pe ps (k + 1) w' ∧ Below w.heap.size W w') := (both_one (o := ⟨kind, on, nn, a, bb, m0, m1, m2, m3, .slice ao2 cl2 cp2, cuts⟩) C0.out HPW.out.1.sym (by omega) hsW HOW.out).mono (by
              rintro e w' ⟨rfl, h1, h2⟩; exact ⟨rfl, h1.sym, h2⟩)
            rw [hW] at HCH HPW
            clear hW hsW
            subst hon
            go_wp2_with (go_at_call 7; refine HCH.out.mono ?_; rintro e w5 ⟨rfl, hp5, hb5⟩)
            exact ⟨⟨k + 1, rfl, by omega, hp5, HPW.out.2.trans hb5⟩, by simp [intOf]; omega⟩
          · have k2 : (on == 1) = false := by simp [hon]
            have HCH : Hid (Calls Try.prog 7 #[.pointer (some ⟨pd, 0, none⟩), .pointer (some ⟨pr, 0, none⟩), .agg #[.int .i64 kind, .int .i64 on, .int .i64 nn, .string a, .string bb, .int .i64 m0, .int .i64 m1, .int .i64 m2, .int .i64 m3, .slice ao2 cl2 cp2]] W fun e w' => e = .returned (.bool true) ∧ Both PS w.heap.size pd pr pe ps (k + 1) w' ∧ Below w.heap.size W w') := both_one (o := ⟨kind, on, nn, a, bb, m0, m1, m2, m3, .slice ao2 cl2 cp2, cuts⟩) C0.out HPW.out.1 (by omega) hsW HOW.out
            rw [hW] at HCH HPW
            clear hW hsW hon
            go_wp2_with (go_at_call 7; refine HCH.out.mono ?_; rintro e w5 ⟨rfl, hp5, hb5⟩)
            exact ⟨⟨k + 1, rfl, by omega, hp5, HPW.out.2.trans hb5⟩, by simp [intOf]; omega⟩
        · obtain rfl : k = n := by omega
          have b1 : decide ((k : Int) < (k : Int)) = false := by simp
          clear hpl
          go_wp2
          go_ret
          exact ⟨rfl, hbw⟩
end Go.Proofs.Ytodjgbmfmpbkjac
