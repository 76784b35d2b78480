-- A script played on both volumes.
import Derived.Test.YtodjgbmfmpbkjabE6
namespace Go.Proofs.Ytodjgbmfmpbkjab
open Go.RowKit
set_option linter.unusedVariables false
variable {PS : (Nat → Prop) → Nat → St → World → Prop}
/-- Both volumes behind k calls. -/
def Played (PS : (Nat → Prop) → Nat → St → World → Prop) (B : Nat) (pd pr : Nat) (st : St) (k : Nat) (w : World) : Prop :=
  (∃ Fd Fr, Two PS B Fd pd st Fr pr st w) ∧ Wf st ∧ st.bodies.length ≤ k ∧ st.dirs.length ≤ k + 1
theorem Played.below (C : PC PS) {B : Nat} {pd pr : Nat} {st : St} {k : Nat} {w w' : World} (h : Played PS B pd pr st k w) (hb : Below w.heap.size w w') : Played PS B pd pr st k w' := by
  obtain ⟨⟨Fd, Fr, t⟩, r⟩ := h
  exact ⟨⟨Fd, Fr, t.below C hb⟩, r⟩
theorem played_step (C : PC PS) {B : Nat} {pd pr : Nat} {st : St} {k : Nat} {w : World} {o : Opx} (h : Played PS B pd pr st k w) (hk : k < 2097151) (hB : B ≤ w.heap.size) (ho : OpOk B o w) (hc : 1 ≤ o.kind ∧ o.kind ≤ 7) :
    Calls Try.prog 43 #[.pointer (some ⟨pd, 0, none⟩), .pointer (some ⟨pr, 0, none⟩), o.v] w fun e w' => e = .returned (.bool true) ∧ Played PS B pd pr (st.step o) (k + 1) w' ∧ Below B w w' := by
  obtain ⟨⟨Fd, Fr, t⟩, hw, h1, h2⟩ := h
  refine (changed_c C B Fd pd Fr pr st o w t hw hB ho hc).mono ?_
  rintro e w' ⟨rfl, Fd', Fr', t', hb⟩
  have f := step_fine hw o (by omega) (by omega)
  exact ⟨rfl, ⟨⟨Fd', Fr', t'⟩, f.wf, by have := f.bodies; omega, by have := f.dirs; omega⟩, hb⟩
theorem played_ask (C : PC PS) {B : Nat} {pd pr : Nat} {st : St} {k : Nat} {w : World} {o : Opx} (h : Played PS B pd pr st k w) (hB : B ≤ w.heap.size) (ho : OpOk B o w) :
    Calls Try.prog 44 #[.pointer (some ⟨pd, 0, none⟩), .pointer (some ⟨pr, 0, none⟩), o.v] w fun e w' => e = .returned (.bool true) ∧ Played PS B pd pr st k w' ∧ Below B w w' := by
  obtain ⟨⟨Fd, Fr, t⟩, hw, h1, h2⟩ := h
  refine (asked_c C B Fd pd Fr pr st o w t hw hB ho).mono ?_
  rintro e w' ⟨rfl, t', hb⟩
  exact ⟨rfl, ⟨⟨Fd, Fr, t'⟩, hw, h1, h2⟩, hb⟩
theorem Played.more {B : Nat} {pd pr : Nat} {st : St} {k : Nat} {w : World} (h : Played PS B pd pr st k w) : Played PS B pd pr st (k + 1) w := ⟨h.1, h.2.1, by have := h.2.2.1; omega, by have := h.2.2.2; omega⟩
set_option maxHeartbeats 8000000 in
theorem plays_c (C : PC PS) (c : Int) (v : Value) (ops : List Opx) (lo hi : Int) (w : World) (hv : RowO w v ops) (hok : ∀ (j : Nat) (o : Opx), ops[j]? = some o → OpOk w.heap.size o w) (hl : ops.length ≤ 1048576) :
    Calls Try.prog 22 #[.int .i64 c, v, .int .i64 lo, .int .i64 hi] w fun e w' => e = .returned (.bool true) ∧ Below w.heap.size w w' := by
  obtain ⟨ao, cp, hvs⟩ : ∃ ao cp, v = .slice ao ops.length cp := by
    rcases hv with ⟨rfl, ao, c, rfl⟩ | ⟨b, off, cap, rfl, _⟩
    · exact ⟨_, _, rfl⟩
    · exact ⟨_, _, rfl⟩
  by_cases hc : c < 0 ∨ 1073741824 < c
  · have HD : Hid (∀ w, Calls Try.prog 23 #[.int .i64 c] w fun e w' => e = .returned (.pointer none) ∧ Below w.heap.size w w') := fun w => C.new_no c w hc
    have HR : Hid (∀ w, Calls Try.prog 41 #[.int .i64 c] w fun e w' => e = .returned (.pointer none) ∧ w' = w) := fun w => refNew_no c w hc
    clear hc hok hv
    subst hvs
    go_enter Try.func22, Try.ntmps22
    go_wp2_with (first
      | (go_at_call 23; refine (HD.out _).mono ?_; rintro e w1 ⟨rfl, hb1⟩)
      | (go_at_call 41; refine (HR.out _).mono ?_; rintro e w2 ⟨rfl, hw2⟩; subst w2))
    go_ret
    exact ⟨rfl, hb1⟩
  · obtain ⟨cn, rfl⟩ := Int.eq_ofNat_of_zero_le (show 0 ≤ c by omega)
    have hcn : cn ≤ 1073741824 := by omega
    have HD : Hid (Calls Try.prog 23 #[.int .i64 (cn : Int)] w fun e w' => ∃ p, e = .returned (.pointer (some ⟨p, 0, none⟩)) ∧ PS (fun k => w.heap.size ≤ k ∧ k < w'.heap.size) p (St.new cn) w' ∧ Below w.heap.size w w') := C.new_c cn w hcn
    have HR : Hid (∀ w, Calls Try.prog 41 #[.int .i64 (cn : Int)] w fun e w' => e = .returned (.pointer (some ⟨w.heap.size + 1, 0, none⟩)) ∧ RefSt (fun k => w.heap.size ≤ k ∧ k < w'.heap.size) (w.heap.size + 1) (St.new cn) w' ∧ Below w.heap.size w w') := fun w => refNew_c cn w hcn
    have HWF : Hid (Wf (St.new cn)) := new_wf cn hcn
    have HOK : Hid (∀ (j : Nat) (o : Opx), ops[j]? = some o → OpOk w.heap.size o w) := hok
    have HV : Hid (RowO w v ops) := hv
    obtain ⟨n, hn⟩ : ∃ n, n = ops.length := ⟨_, rfl⟩
    have HNN : Hid (n = ops.length) := hn
    rw [← hn] at hl hvs
    subst hvs
    clear hc hok hv hn hcn
    go_enter Try.func22, Try.ntmps22
    go_wp2_with (first
      | (go_at_call 23; refine HD.out.mono ?_; rintro e w1 ⟨pd, rfl, hps, hb1⟩)
      | (go_at_call 41; refine (HR.out _).mono ?_; rintro e w2 ⟨rfl, hrs, hb2⟩))
    have hs1 := hb1.size
    have hs2 := hb2.size
    have hP0 : Played PS w.heap.size pd (w1.heap.size + 1) (St.new cn) 0 w2 := by
      refine ⟨⟨_, _, ⟨C.below hps hb2, hrs, fun k h1 h2 => by have h1' : w.heap.size ≤ k ∧ k < w1.heap.size := h1; have h2' : w1.heap.size ≤ k ∧ k < w2.heap.size := h2; omega, fun k h1 => by have h1' : w.heap.size ≤ k ∧ k < w1.heap.size := h1; omega, fun k h1 => by have h1' : w1.heap.size ≤ k ∧ k < w2.heap.size := h1; omega⟩⟩, HWF.out, by simp [St.new], by simp [St.new]⟩
    have hb02 : Below w.heap.size w w2 := hb1.trans (hb2.mono hs1)
    have HP0 : Hid (Played PS w.heap.size pd (w1.heap.size + 1) (St.new cn) 0 w2 ∧ Below w.heap.size w w2) := ⟨hP0, hb02⟩
    obtain ⟨pr, hpr⟩ : ∃ x, x = w1.heap.size + 1 := ⟨_, rfl⟩
    rw [← hpr] at HP0 ⊢
    clear hps hrs hb1 hb2 hs1 hs2 hP0 hb02 hpr HD HR
    go_loopw [11] (fun i wr => ∃ k : Nat, i = .int .i64 k ∧ k ≤ n ∧ Played PS w.heap.size pd pr ((St.new cn).play (ops.take k)) k wr ∧ Below w.heap.size w wr) (fun i _ => n - (intOf i).toNat)
    case atStart => exact ⟨0, rfl, Nat.zero_le _, HP0.out.1, HP0.out.2⟩
    case round =>
      obtain ⟨k, rfl, hkn, hpl, hbw⟩ := hrel
      have hbs := hbw.size
      by_cases hk : k < n
      · have hkl : k < ops.length := by rw [← HNN.out]; exact hk
        obtain ⟨o, hok⟩ : ∃ o, ops[k]? = some o := ⟨_, List.getElem?_eq_getElem hkl⟩
        have hoo := HOK.out k o hok
        obtain ⟨b, off, rfl, hbl, hat⟩ : ∃ b off, ao = some ⟨b, off, none⟩ ∧ b < w.heap.size ∧ OpAt w b (off + k * 10) o := by
          rcases HV.out with ⟨h0, _⟩ | ⟨b, off, cap, hv, hb, hc⟩
          · rw [h0] at hkl; simp at hkl
          · cases hv; exact ⟨b, off, rfl, hb, hc k o hok⟩
        have hat2 := hat.below hbw hbl
        have HST : Hid ((St.new cn).play (ops.take (k + 1)) = ((St.new cn).play (ops.take k)).step o) := play_take _ _ _ _ hok
        obtain ⟨st, hst⟩ : ∃ st, st = (St.new cn).play (ops.take k) := ⟨_, rfl⟩
        rw [← hst] at hpl HST
        clear hst hok hat
        obtain ⟨ao2, cl2, cp2, hcv⟩ := hoo.slice
        have HOO : Hid (OpOk w.heap.size o w) := hoo
        obtain ⟨kind, on, nn, a, bb, m0, m1, m2, m3, cv, cuts⟩ := o
        simp only at hcv
        subst hcv
        obtain ⟨e0, e1, e2, e3, e4, e5, e6, e7, e8, e9⟩ := hat2
        simp only at e0 e1 e2 e3 e4 e5 e6 e7 e8 e9
        clear hoo
        have HPL : Hid (Played PS w.heap.size pd pr st k wr ∧ Below w.heap.size w wr) := ⟨hpl, hbw⟩
        have b1 : decide ((k : Int) < (n : Int)) = true := by simp; omega
        have i1 : (k : Int) < (n : Int) := by omega
        have i2 : (0 : Int) ≤ (k : Int) := by omega
        obtain ⟨W, hW⟩ : ∃ W, W = wr.alloc (.cells #[.int .i64 kind, .int .i64 on, .int .i64 nn, .string a, .string bb, .int .i64 m0, .int .i64 m1, .int .i64 m2, .int .i64 m3, .slice ao2 cl2 cp2] 30) := ⟨_, rfl⟩
        have hbW : Below wr.heap.size wr W := by rw [hW]; exact (Below.refl _ wr).alloc (Nat.le_refl _) _
        have HIC : Hid (∀ w, Calls Try.prog 42 #[.int .i64 kind] w fun e w' => e = .returned (.bool (decide (1 ≤ kind ∧ kind ≤ 7))) ∧ w' = w) := fun w => isChange_c kind w
        have HOW : Hid (OpOk w.heap.size ⟨kind, on, nn, a, bb, m0, m1, m2, m3, .slice ao2 cl2 cp2, cuts⟩ W) := HOO.out.below (hbw.trans (hbW.mono hbs)) (Nat.le_refl _)
        have HPW : Hid (Played PS w.heap.size pd pr st k W ∧ Below w.heap.size w W) := ⟨hpl.below C hbW, hbw.trans (hbW.mono hbs)⟩
        have hsW := HPW.out.2.size
        have held : (decide (lo ≤ kind) = false) ∨ (decide (lo ≤ kind) = true ∧ decide (kind ≤ hi) = false) ∨ (decide (lo ≤ kind) = true ∧ decide (kind ≤ hi) = true) := by
          by_cases h1 : lo ≤ kind <;> by_cases h2 : kind ≤ hi <;> simp [h1, h2]
        clear hpl hbw hbW
        by_cases hch : 1 ≤ kind ∧ kind ≤ 7
        · rw [decide_eq_true hch] at HIC
          have HCH : Hid (Calls Try.prog 43 #[.pointer (some ⟨pd, 0, none⟩), .pointer (some ⟨pr, 0, none⟩), .agg #[.int .i64 kind, .int .i64 on, .int .i64 nn, .string a, .string bb, .int .i64 m0, .int .i64 m1, .int .i64 m2, .int .i64 m3, .slice ao2 cl2 cp2]] W fun e w' => e = .returned (.bool true) ∧ Played PS w.heap.size pd pr (st.step ⟨kind, on, nn, a, bb, m0, m1, m2, m3, .slice ao2 cl2 cp2, cuts⟩) (k + 1) w' ∧ Below w.heap.size W w') := played_step (o := ⟨kind, on, nn, a, bb, m0, m1, m2, m3, .slice ao2 cl2 cp2, cuts⟩) C HPW.out.1 (by omega) hsW HOW.out hch
          rw [hW] at HCH HPW
          clear hW hch hsW
          rcases held with h1 | ⟨h1, h2⟩ | ⟨h1, h2⟩
          all_goals
            go_wp2_with (first
              | (go_at_call 42; refine (HIC.out _).mono ?_; rintro e w3 ⟨rfl, hw3⟩; subst w3)
              | (go_at_call 43; refine HCH.out.mono ?_; rintro e w3 ⟨rfl, hp3, hb3⟩))
            exact ⟨⟨k + 1, rfl, by omega, by rw [HST.out]; exact hp3, HPW.out.2.trans hb3⟩, by simp [intOf]; omega⟩
        · rw [decide_eq_false hch] at HIC
          have HSO : Hid (st.step ⟨kind, on, nn, a, bb, m0, m1, m2, m3, .slice ao2 cl2 cp2, cuts⟩ = st) := step_other _ _ hch
          have HCH : Hid (Calls Try.prog 44 #[.pointer (some ⟨pd, 0, none⟩), .pointer (some ⟨pr, 0, none⟩), .agg #[.int .i64 kind, .int .i64 on, .int .i64 nn, .string a, .string bb, .int .i64 m0, .int .i64 m1, .int .i64 m2, .int .i64 m3, .slice ao2 cl2 cp2]] W fun e w' => e = .returned (.bool true) ∧ Played PS w.heap.size pd pr st k w' ∧ Below w.heap.size W w') := played_ask (o := ⟨kind, on, nn, a, bb, m0, m1, m2, m3, .slice ao2 cl2 cp2, cuts⟩) C HPW.out.1 hsW HOW.out
          rw [hW] at HCH HPW
          clear hW hch hsW
          rcases held with h1 | ⟨h1, h2⟩ | ⟨h1, h2⟩
          · go_wp2_with (go_at_call 42; refine (HIC.out _).mono ?_; rintro e w3 ⟨rfl, hw3⟩; subst w3)
            exact ⟨⟨k + 1, rfl, by omega, by rw [HST.out, HSO.out]; exact HPW.out.1.more, HPW.out.2⟩, by simp [intOf]; omega⟩
          · go_wp2_with (go_at_call 42; refine (HIC.out _).mono ?_; rintro e w3 ⟨rfl, hw3⟩; subst w3)
            exact ⟨⟨k + 1, rfl, by omega, by rw [HST.out, HSO.out]; exact HPW.out.1.more, HPW.out.2⟩, by simp [intOf]; omega⟩
          · go_wp2_with (first
              | (go_at_call 42; refine (HIC.out _).mono ?_; rintro e w3 ⟨rfl, hw3⟩; subst w3)
              | (go_at_call 44; refine HCH.out.mono ?_; rintro e w3 ⟨rfl, hp3, hb3⟩))
            exact ⟨⟨k + 1, rfl, by omega, by rw [HST.out, HSO.out]; exact hp3.more, HPW.out.2.trans hb3⟩, by simp [intOf]; omega⟩
      · obtain rfl : k = n := by omega
        have b1 : decide ((k : Int) < (k : Int)) = false := by simp
        clear hpl
        go_wp2
        go_ret
        exact ⟨rfl, hbw⟩
end Go.Proofs.Ytodjgbmfmpbkjab
