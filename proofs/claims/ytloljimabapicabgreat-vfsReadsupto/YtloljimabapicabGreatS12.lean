
-- A script on a new volume of each.
import Derived.Test.YtloljimabapicabGreatS10
namespace Go.Proofs.YtloljimabapicabGreat
open Go.RowKit
set_option linter.unusedVariables false
variable {PS : (Nat → Prop) → Nat → St → World → Prop}
attribute [local go_sem ↓] Go.wp_at_zero Go.wp_at_succ
set_option maxHeartbeats 4000000 in
theorem pair_no (C : PC PS) (c : Int) (w : World) (hc : c < 0 ∨ 1073741824 < c) : Calls Tryz.prog 36 #[.int .i64 c] w fun e w' => e = .returned (.tuple #[.pointer none, .bool true]) ∧ Below w.heap.size w w' := by
  have HN : Hid (∀ w, Calls Tryz.prog 21 #[.int .i64 c] w fun e w' => e = .returned (.pointer none) ∧ Below w.heap.size w w') := fun w => fNew_no C c w hc
  have HR : Hid (∀ w, Calls Tryz.prog 46 #[.int .i64 c] w fun e w' => e = .returned (.pointer none) ∧ w' = w) := fun w => rNew_no c w hc
  clear hc
  go_enter Tryz.func36, Tryz.ntmps36
  go_wp2_with (first
    | (go_at_call 21; refine (HN.out _).mono ?_; rintro e w1 ⟨rfl, hb1⟩)
    | (go_at_call 46; refine (HR.out _).mono ?_; rintro e w2 ⟨rfl, hw2⟩; subst w2))
  go_returns
  exact ⟨rfl, hb1⟩
set_option maxHeartbeats 4000000 in
theorem pair_c (C : PC PS) (c : Nat) (w : World) (hc : c ≤ 1073741824) : Calls Tryz.prog 36 #[.int .i64 c] w fun e w' => ∃ pb, e = .returned (.tuple #[.pointer (some ⟨pb, 0, none⟩), .bool true]) ∧ Bx PS w.heap.size pb 0 w' ∧ Below w.heap.size w w' := by
  have HN : Hid (Calls Tryz.prog 21 #[.int .i64 (c : Int)] w fun e w' => ∃ q, e = .returned (.pointer (some ⟨q, 0, none⟩)) ∧ PV PS (fun k => w.heap.size ≤ k ∧ k < w'.heap.size) q (Vs.new c) w' ∧ Below w.heap.size w w') := fNew_c C c w hc
  have HR : Hid (∀ w, Calls Tryz.prog 46 #[.int .i64 (c : Int)] w fun e w' => ∃ r, e = .returned (.pointer (some ⟨r, 0, none⟩)) ∧ RV (fun k => w.heap.size ≤ k ∧ k < w'.heap.size) r (Vs.new c) w' ∧ Below w.heap.size w w') := fun w => rNew_c c w hc
  have HE : Hid (∀ q r (w1 w2 : World), PV PS (fun k => w.heap.size ≤ k ∧ k < w1.heap.size) q (Vs.new c) w1 → Below w.heap.size w w1 → RV (fun k => w1.heap.size ≤ k ∧ k < w2.heap.size) r (Vs.new c) w2 → Below w1.heap.size w1 w2 → ∀ W, W = w2.alloc (.cells #[.pointer (some ⟨q, 0, none⟩), .pointer (some ⟨r, 0, none⟩), .slice none 0 0, .slice none 0 0] 119) → Bx PS w.heap.size w2.heap.size 0 W ∧ Below w.heap.size w W) := fun q r w1 w2 h1 h2 h3 h4 W hW => by
    have s1 := h2.size
    have s2 := h4.size
    have hb : Below w2.heap.size w2 W := by rw [hW]; exact (Below.refl _ w2).alloc (Nat.le_refl _) _
    have hsW : W.heap.size = w2.heap.size + 1 := by rw [hW]; simp
    refine ⟨⟨q, r, .slice none 0 0, .slice none 0 0, _, _, Vs.new c, [], [], ⟨?_, (h1.below C h4).below C hb, h3.below hb, fun k g1 g2 => by have := g1.2; have := g2.1; omega, fun k g => g.1, fun k g => by have := g.1; omega, by omega, ⟨fun g => by have := g.2; omega, fun g => by have := g.2; omega⟩, World.ownsRow_nil _ _ _ _, World.ownsRow_nil _ _ _ _, (fun k g => by cases g), (fun k g => by cases g), (fun i a x g => by simp at g), (fun i a x g => by simp at g), by simp, by simp⟩, rfl, Vf.new c hc, Nat.le_refl _⟩, (h2.trans (h4.mono s1)).trans (hb.mono (by omega))⟩
    rw [hW]; exact heap_alloc_new _ _
  clear hc
  go_enter Tryz.func36, Tryz.ntmps36
  go_wp2_with (first
    | (go_at_call 21; refine HN.out.mono ?_; rintro e w1 ⟨q, rfl, hp1, hb1⟩)
    | (go_at_call 46; refine (HR.out _).mono ?_; rintro e w2 ⟨r, rfl, hr2, hb2⟩))
  go_returns
  exact ⟨_, rfl, HE.out q r w1 w2 hp1 hb1 hr2 hb2 _ rfl⟩
set_option maxHeartbeats 8000000 in
theorem plays_c (C : PC PS) (c : Int) (v : Value) (ops : List Opv) (lo hi : Int) (w : World) (hv : RowV w v ops) (hok : ∀ (j : Nat) (o : Opv), ops[j]? = some o → OpvOk w.heap.size o w) (hl : ops.length ≤ 1048576) :
    Calls Tryz.prog 20 #[.int .i64 c, v, .int .i64 lo, .int .i64 hi] w fun e w' => e = .returned (.bool true) ∧ Below w.heap.size w w' := by
  obtain ⟨ao, cp, hvs⟩ := hv.form
  by_cases hc : c < 0 ∨ 1073741824 < c
  · have HD : Hid (Calls Tryz.prog 36 #[.int .i64 c] w fun e w' => e = .returned (.tuple #[.pointer none, .bool true]) ∧ Below w.heap.size w w') := pair_no C c w hc
    clear hc hok hv
    subst hvs
    go_enter Tryz.func20, Tryz.ntmps20
    go_wp2_with (go_at_call 36; refine HD.out.mono ?_; rintro e w1 ⟨rfl, hb1⟩)
    go_returns
    exact ⟨rfl, hb1⟩
  · obtain ⟨cn, rfl⟩ := Int.eq_ofNat_of_zero_le (show 0 ≤ c by omega)
    have hcn : cn ≤ 1073741824 := by omega
    have HD : Hid (Calls Tryz.prog 36 #[.int .i64 (cn : Int)] w fun e w' => ∃ pb, e = .returned (.tuple #[.pointer (some ⟨pb, 0, none⟩), .bool true]) ∧ Bx PS w.heap.size pb 0 w' ∧ Below w.heap.size w w') := pair_c C cn w hcn
    have HOK : Hid (∀ (j : Nat) (o : Opv), ops[j]? = some o → OpvOk w.heap.size o w) := hok
    have HV : Hid (RowV w v ops) := hv
    have HST : Hid (∀ pb k o wx, Bx PS w.heap.size pb k wx → w.heap.size ≤ wx.heap.size → k < 2097151 → OpvOk w.heap.size o wx → Calls Tryz.prog 37 #[.pointer (some ⟨pb, 0, none⟩), o.v] wx fun e w' => e = .returned (.int .i64 0) ∧ Bx PS w.heap.size pb (k + 1) w' ∧ Below w.heap.size wx w') := fun pb k o wx h1 h2 h3 h4 => step_c C w.heap.size pb k o wx h1 h2 h3 h4
    have HBX : Hid (∀ pb k wx W, Bx PS w.heap.size pb k wx → Below wx.heap.size wx W → w.heap.size ≤ wx.heap.size → Bx PS w.heap.size pb k W) := fun pb k wx W h1 h2 h3 => h1.below C h2 h3
    obtain ⟨n, hn⟩ : ∃ n, n = ops.length := ⟨_, rfl⟩
    have HNN : Hid (n = ops.length) := hn
    rw [← hn] at hl hvs
    subst hvs
    clear hc hok hv hn hcn
    go_enter Tryz.func20, Tryz.ntmps20
    go_wp2_with (go_at_call 36; refine HD.out.mono ?_; rintro e w2 ⟨pb, rfl, hx2, hb2⟩)
    have HP0 : Hid (Bx PS w.heap.size pb 0 w2 ∧ Below w.heap.size w w2) := ⟨hx2, hb2⟩
    clear hx2 hb2 HD
    go_loopw [11] (fun i wr => ∃ k : Nat, i = .int .i64 k ∧ k ≤ n ∧ Bx PS w.heap.size pb k wr ∧ Below w.heap.size w wr) (fun i _ => n - (intOf i).toNat)
    case atStart => exact ⟨0, rfl, Nat.zero_le _, HP0.out.1, HP0.out.2⟩
    case round =>
      obtain ⟨k, rfl, hkn, hpl, hbw⟩ := hrel
      have hbs := hbw.size
      by_cases hk : k < n
      · have hkl : k < ops.length := by rw [← HNN.out]; exact hk
        obtain ⟨o, hok⟩ : ∃ o, ops[k]? = some o := ⟨_, List.getElem?_eq_getElem hkl⟩
        have hoo := HOK.out k o hok
        obtain ⟨b, off, rfl, hbl, hat⟩ : ∃ b off, ao = some ⟨b, off, none⟩ ∧ b < w.heap.size ∧ OpvAt w b (off + k * 10) o := by
          rcases HV.out with ⟨h0, _⟩ | ⟨b, off, cap, hv, hb, hc⟩
          · rw [h0] at hkl; simp at hkl
          · cases hv; exact ⟨b, off, rfl, hb, hc k o hok⟩
        have hat2 := hat.below hbw hbl
        obtain ⟨⟨po, pl, pc, hpv⟩, co, cl, cc, hcv⟩ := hoo.slices
        have hstep := fun W h1 h2 h3 => HST.out pb k o W h1 h2 (by omega) h3
        have hox := fun W hb => hoo.below (w' := W) hb (Nat.le_refl _)
        clear hok hat hoo
        obtain ⟨kind, nn, a, bb, m0, m1, m2, m3, pv, cv, plan, cuts⟩ := o
        simp only at hpv hcv
        subst hpv; subst hcv
        obtain ⟨e0, e1, e2, e3, e4, e5, e6, e7, e8, e9⟩ := hat2
        simp only at e0 e1 e2 e3 e4 e5 e6 e7 e8 e9
        unfold Opv.v at hstep
        simp only at hstep
        have b1 : decide ((k : Int) < (n : Int)) = true := by simp; omega
        have i1 : (k : Int) < (n : Int) := by omega
        have i2 : (0 : Int) ≤ (k : Int) := by omega
        obtain ⟨W, hW⟩ : ∃ W, W = wr.alloc (.cells #[.int .i64 kind, .int .i64 nn, .string a, .string bb, .int .i64 m0, .int .i64 m1, .int .i64 m2, .int .i64 m3, .slice po pl pc, .slice co cl cc] 49) := ⟨_, rfl⟩
        have hbW : Below wr.heap.size wr W := by rw [hW]; exact (Below.refl _ wr).alloc (Nat.le_refl _) _
        have HPW : Hid (Below w.heap.size w W) := hbw.trans (hbW.mono hbs)
        have HCH : Hid (Calls Tryz.prog 37 #[.pointer (some ⟨pb, 0, none⟩), .agg #[.int .i64 kind, .int .i64 nn, .string a, .string bb, .int .i64 m0, .int .i64 m1, .int .i64 m2, .int .i64 m3, .slice po pl pc, .slice co cl cc]] W fun e w' => e = .returned (.int .i64 0) ∧ Bx PS w.heap.size pb (k + 1) w' ∧ Below w.heap.size W w') := hstep W (HBX.out pb k wr W hpl hbW hbs) (by have := hbW.size; omega) (hox W HPW.out)
        rw [hW] at HCH HPW
        clear hpl hbw hbW hW hstep hox
        go_wp2_with (go_at_call 37; refine HCH.out.mono ?_; rintro e w3 ⟨rfl, hp3, hb3⟩)
        exact ⟨⟨k + 1, rfl, by omega, hp3, HPW.out.trans hb3⟩, by simp [intOf]; omega⟩
      · obtain rfl : k = n := by omega
        have b1 : decide ((k : Int) < (k : Int)) = false := by simp
        clear hpl
        go_wp2
        go_returns
        exact ⟨rfl, hbw⟩
end Go.Proofs.YtloljimabapicabGreat
