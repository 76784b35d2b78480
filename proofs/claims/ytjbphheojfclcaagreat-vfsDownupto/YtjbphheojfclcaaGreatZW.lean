
-- VfsDown's walk.
import Derived.Test.YtjbphheojfclcaaGreatZS
import Derived.Test.YtjbphheojfclcaaGreatZR
import Derived.Deep.CutRange
namespace Go.Proofs.YtjbphheojfclcaaGreat
open Go.ChangeShapes Go.WideShapes Go.ChangeAt Go.RowKit
set_option linter.unusedVariables false
set_option maxRecDepth 100000
variable {PS : (Nat → Prop) → Nat → St → World → Prop}
attribute [local go_sem ↓] Go.wp_at_zero Go.wp_at_succ
theorem down_no (C : PC PS) (c : Int) (hc : c < 0 ∨ 1073741824 < c) (v1 v2 : Value) (d : Int) (cv : Value) (v5 : Value) (w : World) :
    Calls Tryz.prog 8 #[.int .i64 c, v1, v2, .int .i64 d, cv, v5] w fun e w' => e = .returned (.bool true) ∧ Below w.heap.size w w' := by
  have HN : Hid (∀ W, Calls Tryz.prog 10 #[.int .i64 c] W fun e w' => e = .returned (.pointer none) ∧ Below W.heap.size W w') := fun W => open_no C c W hc
  have HG : Hid (∀ W, Calls Tryz.prog 9 #[.int .i64 c] W fun e w' => e = .returned (.bool false) ∧ w' = W) := fun W => by
    have h := good_c c W
    have e : (decide (0 ≤ c) && decide (c ≤ 1073741824)) = false := by
      rcases hc with h | h
      · have : decide (0 ≤ c) = false := by simp; omega
        rw [this]; rfl
      · have : decide (c ≤ 1073741824) = false := by simp; omega
        rw [this, Bool.and_false]
    rw [e] at h; exact h
  clear hc
  go_enter Tryz.func8, Tryz.ntmps8
  go_wp2_with fail
  go_at_call 10
  refine (HN.out _).mono ?_
  rintro e w1 ⟨rfl, hb1⟩
  go_wp2_with fail
  go_at_call 10
  refine (HN.out _).mono ?_
  rintro e w2 ⟨rfl, hb2⟩
  go_wp2_with (go_at_call 9; refine (HG.out _).mono ?_; rintro e w3 ⟨rfl, hw3⟩; subst w3)
  go_returns
  exact ⟨rfl, hb1.trans (hb2.mono hb1.size)⟩
/-- The state of the loop: both volumes, and a box beside them. -/
def DownS (PS : (Nat → Prop) → Nat → St → World → Prop) (va vb : Nat) (x y : Vl) (rb : Nat) (w W : World) : Prop := ∃ U2, T2 PS U2 va vb x y W ∧ (∀ k, U2 k → w.heap.size ≤ k) ∧ ¬ U2 rb ∧ w.heap.size ≤ rb ∧ Below w.heap.size w W ∧ ∃ old : Array Value, old.size = 14 ∧ W.heap[rb]? = some (.cells old 34 (0, 0))
theorem DownS.below (C : PC PS) {va vb rb : Nat} {x y : Vl} {w W W' : World} (h : DownS PS va vb x y rb w W) (hb : Below W.heap.size W W') : DownS PS va vb x y rb w W' := by
  obtain ⟨U2, h1, h2, h3, h4, h5, old, h6, h7⟩ := h
  exact ⟨U2, h1.below C hb, h2, h3, h4, h5.trans (hb.mono h5.size), old, h6, (hb.block rb (Array.getElem?_eq_some_iff.1 h7).1).trans h7⟩
/-- Behind what was done on both. -/
theorem DownS.of {va vb rb : Nat} {x' y' : Vl} {w W W' : World} {U2 : Nat → Prop} (hU : ∀ k, U2 k → w.heap.size ≤ k) (hn : ¬ U2 rb) (hr : w.heap.size ≤ rb) (hb : Below w.heap.size w W) {old : Array Value} (ho : old.size = 14) (hx : W.heap[rb]? = some (.cells old 34 (0, 0))) (hd : T2D PS U2 va vb x' y' W W') : DownS PS va vb x' y' rb w W' := by
  have hlt := (Array.getElem?_eq_some_iff.1 hx).1
  have hbs := hb.size
  refine ⟨ext U2 W W', hd.1, fun k hk => ?_, fun hk => ?_, hr, hb.trans (hd.2.below (B := w.heap.size) hU hbs), old, ho, (hd.2.block rb hlt hn).trans hx⟩
  · rcases hk with hk | hk
    · exact hU k hk
    · omega
  · rcases hk with hk | hk
    · exact hn hk
    · omega
/-- The box is written. -/
theorem DownS.put (C : PC PS) {va vb rb : Nat} {x y : Vl} {w W : World} (h : DownS PS va vb x y rb w W) (cs : Array Value) (hcs : cs.size = 14) : DownS PS va vb x y rb w (W.setRow rb cs) ∧ (W.setRow rb cs).heap[rb]? = some (.cells cs 34 (0, 0)) := by
  obtain ⟨U2, h1, h2, h3, h4, h5, old, h6, h7⟩ := h
  have hx : (W.setRow rb cs).heap[rb]? = some (.cells cs 34 (0, 0)) := setRow_heap _ _ _ _ _ _ h7
  refine ⟨⟨U2, h1.same C (by simp) (fun k hk => setRow_other _ _ _ fun e => h3 (e ▸ hk)), h2, h3, h4, ⟨h5.os, h5.tape, h5.output, by simpa using h5.size, fun k hk => (setRow_other _ _ _ (by omega)).trans (h5.block k hk)⟩, cs, hcs, hx⟩, hx⟩
set_option maxRecDepth 20000 in
set_option maxHeartbeats 16000000 in
theorem down_w (C : PC PS) (c : Nat) (hc : c ≤ 1073741824) (v1 : Value) (ops1 : List Opv) (v2 : Value) (ops2 : List Opv) (dn : Int) (cv : Value) (cuts : List Int) (v5 : Value) (ops5 : List Opv) (w : World)
    (ro1 : RowV w v1 ops1) (ok1 : ∀ o ∈ ops1, OkC o) (ro2 : RowV w v2 ops2) (ok2 : ∀ o ∈ ops2, OkC o) (ro5 : RowV w v5 ops5) (ok5 : ∀ o ∈ ops5, OkC o) (ll : ops1.length + ops2.length + ops5.length ≤ 1048576) (rc : RowI w cv cuts) (cb : cuts ≠ [] → ∀ k, cv.ownBlock = some k → k < w.heap.size) (cl : cuts.length ≤ 1048576) :
    Calls Tryz.prog 8 #[.int .i64 (c : Int), v1, v2, .int .i64 dn, cv, v5] w fun e w' => e = .returned (.bool true) ∧ Below w.heap.size w w' := by
  have HN : Hid (∀ W, Calls Tryz.prog 10 #[.int .i64 (c : Int)] W fun e w' => ∃ vb, e = .returned (.pointer (some ⟨vb, 0, none⟩)) ∧ VA PS (fun k => W.heap.size ≤ k ∧ k < w'.heap.size) vb (Vl.new c) w' ∧ Below W.heap.size W w') := fun W => open_c C c W hc
  have HR : Hid (((∀ o ∈ ops1, OkC o) ∧ ops1.length ≤ 1048576) ∧ (∀ o ∈ ops2, OkC o) ∧ (∀ o ∈ ops5, OkC o) ∧ ops1.length + ops2.length + ops5.length ≤ 1048576) := ⟨⟨ok1, by omega⟩, ok2, ok5, ll⟩
  have HV1 : Hid (RowV w v1 ops1) := ro1
  have HV2 : Hid (RowV w v2 ops2) := ro2
  have HV5 : Hid (RowV w v5 ops5) := ro5
  have HRC : Hid (RowI w cv cuts ∧ (cuts ≠ [] → ∀ k, cv.ownBlock = some k → k < w.heap.size) ∧ cuts.length ≤ 1048576) := ⟨rc, cb, cl⟩
  obtain ⟨ao1, cp1, rfl⟩ := ro1.form
  obtain ⟨ao2, cp2, rfl⟩ := ro2.form
  obtain ⟨ao5, cp5, rfl⟩ := ro5.form
  obtain ⟨L1, hL1⟩ : ∃ n, n = ops1.length := ⟨_, rfl⟩
  obtain ⟨L2, hL2⟩ : ∃ n, n = ops2.length := ⟨_, rfl⟩
  obtain ⟨L5, hL5⟩ : ∃ n, n = ops5.length := ⟨_, rfl⟩
  rw [← hL1] at HV1
  rw [← hL2] at HV2
  rw [← hL5] at HV5
  rw [← hL1, ← hL2, ← hL5]
  have HLL2 : Hid (L2 = ops2.length ∧ L2 ≤ 1048576) := ⟨hL2, by omega⟩
  have HFX : Hid (Vlf (Vl.new c) 0) := Vlf.new c hc
  clear ro1 ok1 ro2 ok2 ro5 ok5 ll hc hL1 hL2 hL5 rc cb cl
  go_enter Tryz.func8, Tryz.ntmps8
  go_wp2_with fail
  go_at_call 10
  refine (HN.out _).mono ?_
  rintro e w1 ⟨va, rfl, ha1, hb1⟩
  have HA1 : Hid (VA PS (fun k => w.heap.size ≤ k ∧ k < w1.heap.size) va (Vl.new c) w1 ∧ Below w.heap.size w w1) := ⟨ha1, hb1⟩
  clear ha1 hb1
  go_wp2_with fail
  go_at_call 10
  refine (HN.out _).mono ?_
  rintro e w2 ⟨vb, rfl, ha2, hb2⟩
  obtain ⟨U, hU⟩ : ∃ U : Nat → Prop, U = fun k => (w.heap.size ≤ k ∧ k < w1.heap.size) ∨ (w1.heap.size ≤ k ∧ k < w2.heap.size) := ⟨_, rfl⟩
  have HT0 : Hid (T2D PS U va vb (Vl.new c) (Vl.new c) w2 w2) := by
    rw [hU]
    exact T2D.start (two_open C HA1.out.1 hb2 ha2 fun k h1 h2 => by have := h1.2; have := h2.1; omega)
  have HU : Hid (∀ k, U k → w.heap.size ≤ k) := by
    intro k hk
    rw [hU] at hk
    have h2 := HA1.out.2.size
    rcases hk with hk | hk
    · exact hk.1
    · have := hk.1; omega
  have HB2 : Hid (Below w.heap.size w w2) := HA1.out.2.trans (hb2.mono HA1.out.2.size)
  have HBW : Hid (∀ X Y W, T2D PS U va vb X Y w2 W → Below w.heap.size w W) := fun X Y W h => HB2.out.trans (h.2.below (B := w.heap.size) (fun k hk => HU.out k hk) HB2.out.size)
  have HRW : Hid (∀ X Y W, T2D PS U va vb X Y w2 W → ∀ W', Below W.heap.size W W' → ∀ v ops, RowV w v ops → RowV W' v ops ∧ (ops ≠ [] → ∀ k, v.ownBlock = some k → ¬ ext U w2 W k)) := fun X Y W h W' hb v ops hv => by
    have h1 := HBW.out X Y W h
    refine ⟨(hv.on h1).on hb, fun hne k hk hx => ?_⟩
    have h2 := hv.ownlt hne k hk
    rcases hx with hx | hx
    · have := HU.out k hx; omega
    · have := HB2.out.size; omega
  clear ha2 hb2 hU HN
  go_wp2_with fail
  go_at_call 20
  refine (closed_c _ ops1 _ (HV1.out.on HB2.out) (by have := HR.out.1.2; omega)).mono ?_
  rintro e w3 ⟨rfl, hb3⟩
  have HT3 : Hid (T2D PS U va vb (Vl.new c) (Vl.new c) w2 w3) := HT0.out.below C hb3
  clear hb3
  go_wp2_with fail
  go_at_call 14
  refine (T2D.both C HT3.out (Sim.refl rfl) HFX.out HFX.out (Below.refl _ _) (HRW.out _ _ _ HT3.out _ (Below.refl _ _) _ _ HV1.out).1 (HRW.out _ _ _ HT3.out _ (Below.refl _ _) _ _ HV1.out).2 HR.out.1.1 (by have := HR.out.1.2; omega)).mono ?_
  rintro e w4 ⟨rfl, ht4⟩
  obtain ⟨X, hX⟩ : ∃ X, X = (Vl.new c).plays (ops1.map Opv.c) := ⟨_, rfl⟩
  rw [← hX] at ht4
  have HX : Hid (Vlf X ops1.length ∧ X.v.plan = [] ∧ X.v.off = false ∧ (hasClose ops1 = false → AllOpen X)) := by
    rw [hX]
    refine ⟨(HFX.out.plays _ (by rw [List.length_map]; have := HR.out.1.2; omega)).mono (by rw [List.length_map]; omega), plays_plan _ _, plays_off _ _ rfl, fun h => AllOpen.plays (fun h hh => by simp [Vl.new] at hh) _ (hasClose_no h)⟩
  have HT4 : Hid (T2D PS U va vb X X w2 w4) := ht4
  obtain ⟨hcl, hhcl⟩ : ∃ z, z = hasClose ops1 := ⟨_, rfl⟩
  have HCL : Hid (hcl = hasClose ops1) := hhcl
  rw [← hhcl]
  obtain ⟨⟨op, nm, hA⟩, ⟨hc1, hc2, hc3, hc4⟩, hsim⟩ := down_plain HX.out.2.1 HX.out.2.2.1
  obtain ⟨Y1, hY1⟩ : ∃ Y, Y = X.arm [⟨1, 3, 0⟩] := ⟨_, rfl⟩
  have hf1 : Vlf Y1 ops1.length := by rw [hY1]; exact HX.out.1.arm _
  rw [← hY1] at hA hc1 hc2 hc3 hc4 hsim
  obtain ⟨Y2, hY2⟩ : ∃ Y, Y = (Y1.call c7).2 := ⟨_, rfl⟩
  have hf2 : Vlf Y2 (ops1.length + 1) := by rw [hY2]; exact hf1.call (by have := HR.out.1.2; omega) _
  rw [← hY2] at hc1 hc2 hc3 hc4 hsim
  have HPL : Hid ((Y1.call c7).1 = { an0 with bad := true, op := op, nm := nm, e := 41 } ∧ Y2 = (Y1.call c7).2 ∧ Vlf Y1 ops1.length ∧ Vlf Y2 (ops1.length + 1)) := ⟨hA, hY2, hf1, hf2⟩
  have HY2 : Hid (Y2.v.cnt = 1 ∧ Y2.v.off = true ∧ Y2.hs = X.hs ∧ Y2.v.round = X.v.round ∧ ∀ n cuts, Sim (X.restart n cuts) ((Y2.arm []).restart n cuts)) := ⟨hc1, hc2, hc3, hc4, hsim⟩
  obtain ⟨q, hq, fArm, -, -⟩ := HT4.out.face C
  have HARM : Hid (Calls Tryz.prog 16 #[.pointer (some ⟨q, 0, none⟩), .slice (some ⟨w4.heap.size, 0, none⟩) 1 1] (w4.alloc (.cells #[.int .i64 1, .int .i64 3, .int .i64 0] 52)) fun e w' => e = .returned (.tuple #[]) ∧ T2D PS U va vb X Y1 w2 w') := by
    rw [hY1]
    exact fArm _ [⟨1, 3, 0⟩] _ ((Below.refl _ w4).alloc (Nat.le_refl _) _) (rowP_one w4 ⟨1, 3, 0⟩) (fun _ k hk => by simp only [Value.ownBlock, Option.some.injEq] at hk; omega) (by simp)
  clear hX ht4 hhcl hA hc1 hc2 hc3 hc4 hsim hf1 hf2 hY1 hY2 fArm
  go_wp2_with fail
  go_at_call 16
  refine HARM.out.mono ?_
  rintro e w6 ⟨rfl, ht6⟩
  have HT6 : Hid (T2D PS U va vb X Y1 w2 w6) := ht6
  have HCALL : Hid (Calls Tryz.prog 11 #[.pointer (some ⟨vb, 0, none⟩), .agg #[.int .i64 7, .int .i64 0, .string ⟨#[]⟩, .string ⟨#[]⟩, .int .i64 0, .int .i64 0, .int .i64 0, .int .i64 0, .slice none 0 0, .slice none 0 0]] w6 fun e w' => ∃ ao c3, e = .returned (.agg #[.string ⟨#[]⟩, .int .i64 0, .int .i64 0, .int .i64 0, .int .i64 0, .int .i64 0, .string ⟨#[]⟩, .int .i64 0, .slice ao 0 c3, .bool true, .bool false, .string op, .string nm, .int .i64 41]) ∧ T2D PS U va vb X Y2 w2 w') := by
    refine (T2D.call C HT6.out HPL.out.2.2.1 (by have := HR.out.1.2; omega) ⟨7, 0, ⟨#[]⟩, ⟨#[]⟩, 0, 0, 0, 0, .slice none 0 0, .slice none 0 0, [], []⟩ ⟨⟨_, _, _, rfl⟩, ⟨_, _, _, rfl⟩, Nat.zero_le _⟩ (Below.refl _ w6)).mono ?_
    rintro e w' ⟨ao, c3, rfl, ht⟩
    have e1 : Y1.call (Opv.c ⟨7, 0, ⟨#[]⟩, ⟨#[]⟩, 0, 0, 0, 0, .slice none 0 0, .slice none 0 0, [], []⟩) = Y1.call c7 := rfl
    rw [e1] at ht ⊢
    rw [HPL.out.1, HPL.out.2.1]
    exact ⟨ao, c3, rfl, ht⟩
  clear ht6 HARM hq
  go_wp2_with fail
  go_at_call 11
  refine HCALL.out.mono ?_
  rintro e w7 ⟨ao, c3, rfl, ht7⟩
  have HREF : Hid (∀ ao c3 op nm W, Calls Tryz.prog 13 #[.agg #[.string ⟨#[]⟩, .int .i64 0, .int .i64 0, .int .i64 0, .int .i64 0, .int .i64 0, .string ⟨#[]⟩, .int .i64 0, .slice ao 0 c3, .bool true, .bool false, .string op, .string nm, .int .i64 41], .int .i64 41, .int .i64 0] W fun r w' => r = .returned (.bool true) ∧ Below W.heap.size W w') := fun ao c3 op nm W => refused_c op nm 41 0 ao c3 W
  have HT7 : Hid (T2D PS U va vb X Y2 w2 w7) := ht7
  clear ht7
  go_wp2_with fail
  go_at_call 13
  refine (HREF.out _ _ _ _ _).mono ?_
  rintro e w8 ⟨rfl, hb8⟩
  obtain ⟨rb, hrb⟩ : ∃ r, r = w7.heap.size := ⟨_, rfl⟩
  have HS8 : Hid (DownS PS va vb X Y2 rb w w8) := by
    have hbA : Below w7.heap.size w7 (w7.alloc (.cells #[.string ⟨#[]⟩, .int .i64 0, .int .i64 0, .int .i64 0, .int .i64 0, .int .i64 0, .string ⟨#[]⟩, .int .i64 0, .slice ao 0 c3, .bool true, .bool false, .string op, .string nm, .int .i64 41] 34)) := (Below.refl _ w7).alloc (Nat.le_refl _) _
    have hbw := HBW.out _ _ _ HT7.out
    refine ⟨ext U w2 w7, (HT7.out.1.below C hbA).below C hb8, fun k hk => ?_, fun hk => ?_, by rw [hrb]; exact hbw.size, (hbw.trans (hbA.mono hbw.size)).trans (hb8.mono (by have := hbA.size; have := hbw.size; omega)), _, rfl, (hb8.block rb (by rw [hrb]; simp)).trans (by rw [hrb]; exact new_at rfl)⟩
    · rcases hk with hk | hk
      · exact HU.out k hk
      · have := HB2.out.size; omega
    · have := HT7.out.1.low _ hk; omega
  rw [← hrb]
  clear hb8 hrb HBW HRW HT7 HT6 HT4 HT3 HT0 HCALL HU HB2 HA1
  have HOK2 : Hid (∀ (k : Nat) (o : Opv), ops2[k]? = some o → OkC o) := fun k o ho => HR.out.2.1 o (List.mem_of_getElem? ho)
  have HYF : Hid (Vlf Y2 (ops1.length + 1) ∧ ops1.length + 1 < 2097151) := ⟨HPL.out.2.2.2, by have := HR.out.1.2; omega⟩
  have hL2b : L2 ≤ 1048576 := HLL2.out.2
  go_wp2_with fail
  go_loopw [19] (fun i wr => ∃ k : Nat, i = .int .i64 k ∧ k ≤ L2 ∧ DownS PS va vb X Y2 rb w wr) (fun i _ => L2 - (intOf i).toNat)
  case atStart => exact ⟨0, rfl, Nat.zero_le _, HS8.out⟩
  case round =>
    obtain ⟨k, rfl, hkn, hsr⟩ := hrel
    have HSR : Hid (DownS PS va vb X Y2 rb w wr) := hsr
    by_cases hk : k < L2
    · have hkl : k < ops2.length := by rw [← HLL2.out.1]; exact hk
      obtain ⟨o, ho⟩ : ∃ o, ops2[k]? = some o := ⟨_, List.getElem?_eq_getElem hkl⟩
      obtain ⟨b, off, rfl, hbl, hat⟩ : ∃ b off, ao2 = some ⟨b, off, none⟩ ∧ b < w.heap.size ∧ OpvAt w b (off + k * 10) o := by
        rcases HV2.out with ⟨h0, _⟩ | ⟨b, off, cap, hv, hb, hc⟩
        · rw [h0] at hkl; simp at hkl
        · cases hv; exact ⟨b, off, rfl, hb, hc k o ho⟩
      have hokk := HOK2.out k o ho
      obtain ⟨⟨po, pl, pc, hpv⟩, ⟨co, cl, cc, hcv⟩, hsmall⟩ := hokk
      obtain ⟨U3, ht3, hU3, hn3, hr3, hb3, old3, ho3, hx3⟩ := hsr
      have hat0 := hat.below hb3 hbl
      obtain ⟨K, nn, a, bb, m0, m1, m2, m3, pv, cv', plan, cuts'⟩ := o
      simp only at hpv hcv hsmall
      subst hpv; subst hcv
      have HAT : Hid (∀ W, Below w.heap.size w W → OpvAt W b (off + k * 10) ⟨K, nn, a, bb, m0, m1, m2, m3, .slice po pl pc, .slice co cl cc, plan, cuts'⟩) := fun W hW => hat.below hW hbl
      have HCAN : Hid (Calls Tryz.prog 21 #[.pointer (some ⟨vb, 0, none⟩), .agg #[.int .i64 K, .int .i64 nn, .string a, .string bb, .int .i64 m0, .int .i64 m1, .int .i64 m2, .int .i64 m3, .slice po pl pc, .slice co cl cc]] wr fun e w' => e = .returned (.bool (Y2.can ⟨K, nn, a, bb, m0, m1, m2, m3⟩)) ∧ DownS PS va vb X Y2 rb w w') := by
        refine (T2D.can C (T2D.start ht3) HYF.out.1 HYF.out.2 K nn a bb m0 m1 m2 m3 po pl pc co cl cc (Below.refl _ wr)).mono ?_
        rintro e w' ⟨rfl, hd, hb⟩
        exact ⟨rfl, DownS.of hU3 hn3 hr3 hb3 ho3 hx3 hd⟩
      have HCALLK : Hid (∀ W, DownS PS va vb X Y2 rb w W → Y2.can ⟨K, nn, a, bb, m0, m1, m2, m3⟩ = true → (K = 8 ∨ K = 9 → AllOpen Y2) → Calls Tryz.prog 11 #[.pointer (some ⟨vb, 0, none⟩), .agg #[.int .i64 K, .int .i64 nn, .string a, .string bb, .int .i64 m0, .int .i64 m1, .int .i64 m2, .int .i64 m3, .slice po pl pc, .slice co cl cc]] W fun e w' => ∃ ao4 c4 op4 nm4, e = .returned (.agg #[.string ⟨#[]⟩, .int .i64 0, .int .i64 0, .int .i64 0, .int .i64 0, .int .i64 0, .string ⟨#[]⟩, .int .i64 0, .slice ao4 0 c4, .bool true, .bool false, .string op4, .string nm4, .int .i64 41]) ∧ DownS PS va vb X Y2 rb w w') := fun W hW hcan hop => by
        obtain ⟨U6, ht6, hU6, hn6, hr6, hb6, old6, ho6, hx6⟩ := hW
        obtain ⟨⟨op4, nm4, hA4⟩, hY4⟩ := off_plain HY2.out.2.1 ⟨K, nn, a, bb, m0, m1, m2, m3⟩ hcan hop
        refine (T2D.call C (T2D.start ht6) HYF.out.1 HYF.out.2 ⟨K, nn, a, bb, m0, m1, m2, m3, .slice po pl pc, .slice co cl cc, plan, cuts'⟩ ⟨⟨_, _, _, rfl⟩, ⟨_, _, _, rfl⟩, hsmall⟩ (Below.refl _ W)).mono ?_
        rintro e w' ⟨ao4, c4, rfl, hd⟩
        have e1 : Y2.call (Opv.c ⟨K, nn, a, bb, m0, m1, m2, m3, .slice po pl pc, .slice co cl cc, plan, cuts'⟩) = Y2.call ⟨K, nn, a, bb, m0, m1, m2, m3⟩ := rfl
        rw [e1] at hd ⊢
        rw [hA4]
        rw [hY4] at hd
        exact ⟨ao4, c4, op4, nm4, rfl, DownS.of hU6 hn6 hr6 hb6 ho6 hx6 hd⟩
      clear hat ho hsmall ht3 hU3 hn3 hr3 hb3 hx3 ho3 hkl
      obtain ⟨e0, e1, e2, e3, e4, e5, e6, e7, e8, e9⟩ := hat0
      simp only at e0 e1 e2 e3 e4 e5 e6 e7 e8 e9
      have b1 : decide ((k : Int) < (L2 : Int)) = true := by simp; omega
      have i1 : (k : Int) < (L2 : Int) := by omega
      have i2 : (0 : Int) ≤ (k : Int) := by omega
      go_wp2_with fail
      go_at_call 21
      refine HCAN.out.mono ?_
      rintro e w9 ⟨rfl, hs9⟩
      obtain ⟨cn, hcn⟩ : ∃ z, z = Y2.can ⟨K, nn, a, bb, m0, m1, m2, m3⟩ := ⟨_, rfl⟩
      have HCN : Hid (cn = Y2.can ⟨K, nn, a, bb, m0, m1, m2, m3⟩) := hcn
      rw [← hcn]
      have HS9 : Hid (DownS PS va vb X Y2 rb w w9) := hs9
      obtain ⟨_, -, -, -, -, hb9, -⟩ := hs9
      obtain ⟨d0, d1, d2, d3, d4, d5, d6, d7, d8, d9⟩ := HAT.out w9 hb9
      simp only at d0 d1 d2 d3 d4 d5 d6 d7 d8 d9
      clear hcn hb9 HCAN e0 e1 e2 e3 e4 e5 e6 e7 e8 e9
      have HOPN : Hid (hcl = false → AllOpen Y2) := fun h => open_hs HY2.out.2.2.1 HY2.out.2.2.2.1 (HX.out.2.2.2 (HCL.out ▸ h))
      cases cn
      · go_wp2
        go_roundw
        case rel => exact ⟨k + 1, by go_num, by omega, HS9.out⟩
        case measure => simp [intOf]; omega
      · cases hcl
        · have HCK := HCALLK.out w9 HS9.out HCN.out.symm (fun _ => HOPN.out rfl)
          have HCK : Hid _ := HCK
          clear HCALLK
          go_wp2_with fail
          go_at_call 11
          refine Calls.mono HCK.out ?_
          rintro e w11 ⟨ao4, c4, op4, nm4, rfl, hs11⟩
          have HS11 : Hid (DownS PS va vb X Y2 rb w w11) := hs11
          obtain ⟨U4, -, -, -, -, -, old4, ho4, hx4⟩ := hs11
          obtain ⟨hs12, hx12⟩ := HS11.out.put C #[.string ⟨#[]⟩, .int .i64 0, .int .i64 0, .int .i64 0, .int .i64 0, .int .i64 0, .string ⟨#[]⟩, .int .i64 0, .slice ao4 0 c4, .bool true, .bool false, .string op4, .string nm4, .int .i64 41] rfl
          have HS12 : Hid (DownS PS va vb X Y2 rb w (w11.setRow rb #[.string ⟨#[]⟩, .int .i64 0, .int .i64 0, .int .i64 0, .int .i64 0, .int .i64 0, .string ⟨#[]⟩, .int .i64 0, .slice ao4 0 c4, .bool true, .bool false, .string op4, .string nm4, .int .i64 41])) := hs12
          obtain ⟨⟨y0, y1, y2, y3, y4, y5, y6, y7, y8, y9, y10, y11, y12, y13⟩, -⟩ := at14 hx12
          clear hs12 hx12
          go_wp2_with (refine wpList_store_row rfl 34 _ _ rfl rb #[.string ⟨#[]⟩, .int .i64 0, .int .i64 0, .int .i64 0, .int .i64 0, .int .i64 0, .string ⟨#[]⟩, .int .i64 0, .slice ao4 0 c4, .bool true, .bool false, .string op4, .string nm4, .int .i64 41] rfl rfl _ _ hx4 sizeAns ho4 (by simp [Value.oneCell']) ?_)
          go_at_call 13
          refine (HREF.out _ _ _ _ _).mono ?_
          rintro e w13 ⟨rfl, hb13⟩
          have HS13 : Hid (DownS PS va vb X Y2 rb w w13) := HS12.out.below C hb13
          obtain ⟨U5, ht13, -⟩ := HS13.out
          obtain ⟨q5, hq5, -, fC5, fD5⟩ := (T2D.start ht13).face C
          rw [HY2.out.1] at fC5
          rw [HY2.out.2.1] at fD5
          have HC5 : Hid (Calls Tryz.prog 22 #[.pointer (some ⟨q5, 0, none⟩)] w13 fun e w' => e = .returned (.int .i64 1) ∧ w' = w13) := fC5 w13 (Below.refl _ _)
          have HD5 : Hid (Calls Tryz.prog 23 #[.pointer (some ⟨q5, 0, none⟩)] w13 fun e w' => e = .returned (.bool true) ∧ w' = w13) := fD5 w13 (Below.refl _ _)
          clear hb13 fC5 fD5 ht13 hx4 y0 y1 y2 y3 y4 y5 y6 y7 y8 y9 y10 y11 y12 y13
          go_wp2_with (first
            | (go_at_call 22; refine HC5.out.mono ?_; rintro e w14 ⟨rfl, hw14⟩; subst w14)
            | (go_at_call 23; refine HD5.out.mono ?_; rintro e w14 ⟨rfl, hw14⟩; subst w14))
          go_roundw
          case rel => exact ⟨k + 1, by go_num, by omega, HS13.out⟩
          case measure => simp [intOf]; omega
        · by_cases h8 : 8 ≤ K
          · have b8 : decide (K ≥ (8 : Int)) = true := by simp; omega
            go_wp2
            go_roundw
            case rel => exact ⟨k + 1, by go_num, by omega, HS9.out⟩
            case measure => simp [intOf]; omega
          · have b8 : decide (K ≥ (8 : Int)) = false := by simp; omega
            have HCK := HCALLK.out w9 HS9.out HCN.out.symm (fun h => absurd h (by omega))
            have HCK : Hid _ := HCK
            clear HCALLK h8
            go_wp2_with fail
            go_at_call 11
            refine Calls.mono HCK.out ?_
            rintro e w11 ⟨ao4, c4, op4, nm4, rfl, hs11⟩
            have HS11 : Hid (DownS PS va vb X Y2 rb w w11) := hs11
            obtain ⟨U4, -, -, -, -, -, old4, ho4, hx4⟩ := hs11
            obtain ⟨hs12, hx12⟩ := HS11.out.put C #[.string ⟨#[]⟩, .int .i64 0, .int .i64 0, .int .i64 0, .int .i64 0, .int .i64 0, .string ⟨#[]⟩, .int .i64 0, .slice ao4 0 c4, .bool true, .bool false, .string op4, .string nm4, .int .i64 41] rfl
            have HS12 : Hid (DownS PS va vb X Y2 rb w (w11.setRow rb #[.string ⟨#[]⟩, .int .i64 0, .int .i64 0, .int .i64 0, .int .i64 0, .int .i64 0, .string ⟨#[]⟩, .int .i64 0, .slice ao4 0 c4, .bool true, .bool false, .string op4, .string nm4, .int .i64 41])) := hs12
            obtain ⟨⟨y0, y1, y2, y3, y4, y5, y6, y7, y8, y9, y10, y11, y12, y13⟩, -⟩ := at14 hx12
            clear hs12 hx12
            go_wp2_with (refine wpList_store_row rfl 34 _ _ rfl rb #[.string ⟨#[]⟩, .int .i64 0, .int .i64 0, .int .i64 0, .int .i64 0, .int .i64 0, .string ⟨#[]⟩, .int .i64 0, .slice ao4 0 c4, .bool true, .bool false, .string op4, .string nm4, .int .i64 41] rfl rfl _ _ hx4 sizeAns ho4 (by simp [Value.oneCell']) ?_)
            go_at_call 13
            refine (HREF.out _ _ _ _ _).mono ?_
            rintro e w13 ⟨rfl, hb13⟩
            have HS13 : Hid (DownS PS va vb X Y2 rb w w13) := HS12.out.below C hb13
            obtain ⟨U5, ht13, -⟩ := HS13.out
            obtain ⟨q5, hq5, -, fC5, fD5⟩ := (T2D.start ht13).face C
            rw [HY2.out.1] at fC5
            rw [HY2.out.2.1] at fD5
            have HC5 : Hid (Calls Tryz.prog 22 #[.pointer (some ⟨q5, 0, none⟩)] w13 fun e w' => e = .returned (.int .i64 1) ∧ w' = w13) := fC5 w13 (Below.refl _ _)
            have HD5 : Hid (Calls Tryz.prog 23 #[.pointer (some ⟨q5, 0, none⟩)] w13 fun e w' => e = .returned (.bool true) ∧ w' = w13) := fD5 w13 (Below.refl _ _)
            clear hb13 fC5 fD5 ht13 hx4 y0 y1 y2 y3 y4 y5 y6 y7 y8 y9 y10 y11 y12 y13
            go_wp2_with (first
              | (go_at_call 22; refine HC5.out.mono ?_; rintro e w14 ⟨rfl, hw14⟩; subst w14)
              | (go_at_call 23; refine HD5.out.mono ?_; rintro e w14 ⟨rfl, hw14⟩; subst w14))
            go_roundw
            case rel => exact ⟨k + 1, by go_num, by omega, HS13.out⟩
            case measure => simp [intOf]; omega
    · obtain rfl : k = L2 := by omega
      have b1 : decide ((k : Int) < (k : Int)) = false := by simp
      obtain ⟨U8, ht8, hU8, -, -, hb8, -⟩ := hsr
      have HT8 : Hid (T2D PS U8 va vb X Y2 wr wr) := T2D.start ht8
      have HU8 : Hid ((∀ k, U8 k → w.heap.size ≤ k) ∧ Below w.heap.size w wr) := ⟨hU8, hb8⟩
      have HBW8 : Hid (∀ X Y W, T2D PS U8 va vb X Y wr W → Below w.heap.size w W) := fun X Y W h => HU8.out.2.trans (h.2.below (B := w.heap.size) (fun k hk => HU8.out.1 k hk) HU8.out.2.size)
      have HRW8 : Hid (∀ X Y W, T2D PS U8 va vb X Y wr W → ∀ k, k < w.heap.size → ¬ ext U8 wr W k) := fun X Y W h k hk hx => by
        rcases hx with hx | hx
        · have := HU8.out.1 k hx; omega
        · have := HU8.out.2.size; omega
      obtain ⟨q8, hq8, fA8, -, -⟩ := HT8.out.face C
      have HA8 : Hid (Calls Tryz.prog 16 #[.pointer (some ⟨q8, 0, none⟩), .slice none 0 0] wr fun e w' => e = .returned (.tuple #[]) ∧ T2D PS U8 va vb X (Y2.arm []) wr w') := fA8 wr [] _ (Below.refl _ _) (rowP_nil _) (fun h => absurd rfl h) (Nat.zero_le _)
      clear ht8 hU8 hb8 fA8
      go_wp2_with fail
      go_at_call 16
      refine HA8.out.mono ?_
      rintro e w20 ⟨rfl, ht20⟩
      have HT20 : Hid (T2D PS U8 va vb X (Y2.arm []) wr w20) := ht20
      obtain ⟨q20, hq20, -, -, fD20⟩ := HT20.out.face C
      have HD20 : Hid (Calls Tryz.prog 23 #[.pointer (some ⟨q20, 0, none⟩)] w20 fun e w' => e = .returned (.bool true) ∧ w' = w20) := by
        have := fD20 w20 (Below.refl _ _)
        rw [show (Y2.arm []).v.off = true from HY2.out.2.1] at this
        exact this
      obtain ⟨q21, hq21, fR21⟩ := T2D.restart1 C HT20.out HX.out.1 (by have := HR.out.1.2; omega)
      have hrc : RowI w20 cv cuts := HRC.out.1.below (HBW8.out _ _ _ HT20.out) HRC.out.2.1
      obtain ⟨aoc, lc, cpc, hcvs⟩ : ∃ ao l c, cv = .slice ao l c := by
        rcases HRC.out.1 with ⟨_, ao, c, h⟩ | ⟨b, off, cap, h, _⟩
        · exact ⟨_, _, _, h⟩
        · exact ⟨_, _, _, h⟩
      have HR21 : Hid (Calls Tryz.prog 28 #[.pointer (some ⟨q21, 0, none⟩), .int .i64 dn, cv] w20 fun e w' => e = .returned (.bool true) ∧ T2D PS U8 va vb (X.restart dn cuts) (Y2.arm []) wr w') := fR21 w20 dn cv cuts (Below.refl _ _) hrc (fun hne k hk => HRW8.out _ _ _ HT20.out k (HRC.out.2.1 hne k hk)) (by have := HRC.out.2.2; omega)
      clear ht20 hq8 fD20 fR21 hrc hcvs
      go_wp2_with (go_at_call 23; refine HD20.out.mono ?_; rintro e w21 ⟨rfl, hw21⟩; subst w21)
      go_at_call 28
      refine HR21.out.mono ?_
      rintro e w22 ⟨rfl, ht22⟩
      have HT22 : Hid (T2D PS U8 va vb (X.restart dn cuts) (Y2.arm []) wr w22) := ht22
      have hfa : Vlf (Y2.arm []) (ops1.length + 1) := HPL.out.2.2.2.arm []
      obtain ⟨q22, hq22, fR22⟩ := T2D.restart2 C HT22.out hfa (by have := HR.out.1.2; omega)
      have hrc2 : RowI w22 cv cuts := HRC.out.1.below (HBW8.out _ _ _ HT22.out) HRC.out.2.1
      have HR22 : Hid (Calls Tryz.prog 28 #[.pointer (some ⟨q22, 0, none⟩), .int .i64 dn, cv] w22 fun e w' => e = .returned (.bool true) ∧ T2D PS U8 va vb (X.restart dn cuts) ((Y2.arm []).restart dn cuts) wr w') := fR22 w22 dn cv cuts (Below.refl _ _) hrc2 (fun hne k hk => HRW8.out _ _ _ HT22.out k (HRC.out.2.1 hne k hk)) (by have := HRC.out.2.2; omega)
      clear ht22 fR22 hrc2 hfa
      go_wp2_with fail
      go_at_call 28
      refine HR22.out.mono ?_
      rintro e w23 ⟨rfl, ht23⟩
      have HT23 : Hid (T2D PS U8 va vb (X.restart dn cuts) ((Y2.arm []).restart dn cuts) wr w23) := ht23
      obtain ⟨q23, hq23, -, fC23, fD23⟩ := HT23.out.face C
      have HC23 : Hid (Calls Tryz.prog 22 #[.pointer (some ⟨q23, 0, none⟩)] w23 fun e w' => e = .returned (.int .i64 0) ∧ w' = w23) := fC23 w23 (Below.refl _ _)
      have HD23 : Hid (Calls Tryz.prog 23 #[.pointer (some ⟨q23, 0, none⟩)] w23 fun e w' => e = .returned (.bool false) ∧ w' = w23) := fD23 w23 (Below.refl _ _)
      have HBO : Hid (Calls Tryz.prog 14 #[.pointer (some ⟨va, 0, none⟩), .pointer (some ⟨vb, 0, none⟩), .slice ao5 L5 cp5] w23 fun e w' => e = .returned (.bool true) ∧ Below w.heap.size w w') := by
        have hbw := HBW8.out _ _ _ HT23.out
        refine (T2D.both C HT23.out (HY2.out.2.2.2.2 dn cuts) ((HX.out.1.restart dn cuts).mono (Nat.le_succ _)) ((HPL.out.2.2.2.arm []).restart dn cuts) (Below.refl _ _) (HV5.out.on hbw) (fun hne k hk => HRW8.out _ _ _ HT23.out k (HV5.out.ownlt hne k hk)) HR.out.2.2.1 (by have := HR.out.2.2.2; omega)).mono ?_
        rintro e w' ⟨rfl, ht⟩
        exact ⟨rfl, HBW8.out _ _ _ ht⟩
      clear ht23 fC23 fD23
      go_wp2_with (first
        | (go_at_call 22; refine HC23.out.mono ?_; rintro e w24 ⟨rfl, hw24⟩; subst w24)
        | (go_at_call 23; refine HD23.out.mono ?_; rintro e w24 ⟨rfl, hw24⟩; subst w24)
        | (go_at_call 14; refine HBO.out.mono ?_; rintro e w25 ⟨rfl, hb25⟩))
      go_returns
      exact ⟨rfl, hb25⟩
theorem vfsDown_w (C : PC PS) (c : Int) (v1 : Value) (ops1 : List Opv) (v2 : Value) (ops2 : List Opv) (dn : Int) (cv : Value) (cuts : List Int) (v5 : Value) (ops5 : List Opv) (w : World)
    (ro1 : RowV w v1 ops1) (ok1 : ∀ (i : Nat) (o : Opv), ops1[i]? = some o → OpvOk w.heap.size o w) (ro2 : RowV w v2 ops2) (ok2 : ∀ (i : Nat) (o : Opv), ops2[i]? = some o → OpvOk w.heap.size o w) (ro5 : RowV w v5 ops5) (ok5 : ∀ (i : Nat) (o : Opv), ops5[i]? = some o → OpvOk w.heap.size o w) (ll : ops1.length + ops2.length + ops5.length ≤ 1048576) (rc : RowI w cv cuts) (cb : cuts ≠ [] → ∀ k, cv.ownBlock = some k → k < w.heap.size) (cl : cuts.length ≤ 1048576) :
    Calls Tryz.prog 8 #[.int .i64 c, v1, v2, .int .i64 dn, cv, v5] w fun e w' => e = .returned (.bool true) ∧ Below w.heap.size w w' := by
  have all : ∀ l : List Opv, (∀ (i : Nat) (o : Opv), l[i]? = some o → OpvOk w.heap.size o w) → ∀ o ∈ l, OkC o := fun l h o ho => by
    obtain ⟨i, hi⟩ := List.getElem?_of_mem ho
    exact (h i o hi).okc
  by_cases hc : c < 0 ∨ 1073741824 < c
  · exact down_no C c hc v1 v2 dn cv v5 w
  · obtain ⟨cn, rfl⟩ := Int.eq_ofNat_of_zero_le (show 0 ≤ c by omega)
    exact down_w C cn (by omega) v1 ops1 v2 ops2 dn cv cuts v5 ops5 w ro1 (all _ ok1) ro2 (all _ ok2) ro5 (all _ ok5) ll rc cb cl
end Go.Proofs.YtjbphheojfclcaaGreat
