
-- DiskDurable's walk.
import Derived.Test.YtodjgbmfmpbkjaaP7
import Derived.Test.YtodjgbmfmpbkjaaG8
import Derived.Test.YtodjgbmfmpbkjaaN2
import Derived.Deep.RegionWith
namespace Go.Proofs.Ytodjgbmfmpbkjaa
open Go.RowKit
set_option linter.unusedVariables false
variable {PS : (Nat → Prop) → Nat → St → World → Prop}
/-- The same memory. -/
structure Alike3 (w W : World) : Prop where
  heap : W.heap = w.heap
  os : W.os = w.os
  tape : W.tape = w.tape
  output : W.output = w.output
theorem Alike3.below {w W : World} (h : Alike3 w W) : Below w.heap.size w W := ⟨h.os, h.tape, h.output, by rw [h.heap]; exact Nat.le_refl _, fun k _ => by rw [h.heap]⟩
/-- The volume s, a list of the statement's beside it as it was in w1. -/
def DurSt (PS : (Nat → Prop) → Nat → St → World → Prop) (w0 : World) (lao : Option Addr) (q lcp : Nat) (p : Nat) (s : St) (w1 w : World) : Prop :=
  ∃ F, One PS w0.heap.size F p s w ∧ (∀ g, (Value.slice lao q lcp).ownBlock = some g → ¬ F g ∧ w.heap[g]? = w1.heap[g]? ∧ g < w.heap.size) ∧ Below w0.heap.size w0 w
theorem DurSt.alike (C : PC PS) {w0 w1 w W : World} {lao : Option Addr} {q lcp p : Nat} {s : St} (h : DurSt PS w0 lao q lcp p s w1 w) (hA : Alike3 w W) : DurSt PS w0 lao q lcp p s w1 W := by
  obtain ⟨F, h1, h2, h3⟩ := h
  exact ⟨F, h1.below C hA.below, fun g hg => ⟨(h2 g hg).1, by rw [hA.heap]; exact (h2 g hg).2.1, by rw [hA.heap]; exact (h2 g hg).2.2⟩, h3.trans (hA.below.mono h3.size)⟩
theorem DurSt.ask (C : PC PS) {w0 w1 w : World} {lao : Option Addr} {q lcp p : Nat} {s : St} {f : FuncId} {args : Array Value} {v : Value} (h : DurSt PS w0 lao q lcp p s w1 w)
    (hc : ∀ F, PS F p s w → Calls Try.prog f args w fun e w' => e = .returned v ∧ PS F p s w' ∧ Kp F w w') :
    Calls Try.prog f args w fun e w' => e = .returned v ∧ DurSt PS w0 lao q lcp p s w1 w' := by
  obtain ⟨F, h1, h2, h3⟩ := h
  refine (hc F h1.d).mono ?_
  rintro e w' ⟨rfl, hd⟩
  obtain ⟨o1, o2⟩ := h1.ask h3.size hd
  exact ⟨rfl, F, o1, fun g hg => ⟨(h2 g hg).1, (hd.2.block g (h2 g hg).2.2 (h2 g hg).1).trans (h2 g hg).2.1, by have := (h2 g hg).2.2; have := hd.2.size; omega⟩, h3.trans o2⟩
theorem files_few {st : St} (hw : Wf st) : st.files.length ≤ 64 := by unfold St.files; rw [List.length_map]; exact now_len hw
set_option maxRecDepth 100000 in
set_option maxHeartbeats 8000000 in
theorem diskDurable_w (C : PC PS) (c : Int) (v : Value) (ops : List Opx) (n : Int) (cv : Value) (cuts : List Int) (w : World) (hv : RowO w v ops) (hok : ∀ (j : Nat) (o : Opx), ops[j]? = some o → OpOk w.heap.size o w) (hl : ops.length ≤ 1048576) (hri : RowI w cv cuts) (hlo : cuts ≠ [] → ∀ k, cv.ownBlock = some k → k < w.heap.size) (hcl : cuts.length ≤ 1048576) :
    Calls Try.prog 7 #[.int .i64 c, v, .int .i64 n, cv] w fun e w' => e = .returned (.bool true) ∧ Below w.heap.size w w' := by
  obtain ⟨ao, cp, hvs⟩ : ∃ ao cp, v = .slice ao ops.length cp := by
    rcases hv with ⟨rfl, ao, c, rfl⟩ | ⟨b, off, cap, rfl, _⟩
    · exact ⟨_, _, rfl⟩
    · exact ⟨_, _, rfl⟩
  obtain ⟨co, cl, cc, hcv⟩ : ∃ ao cl cp, cv = .slice ao cl cp := by
    rcases hri with ⟨_, ao, c, h⟩ | ⟨b, off, cap, h, _⟩
    · exact ⟨_, _, _, h⟩
    · exact ⟨_, _, _, h⟩
  by_cases hc : c < 0 ∨ 1073741824 < c
  · have HD : Hid (∀ w, Calls Try.prog 18 #[.int .i64 c] w fun e w' => e = .returned (.tuple #[.pointer none, .bool true]) ∧ Below w.heap.size w w') := fun w => started_no C c w hc
    clear hc hok hv hri hlo
    subst hvs; subst hcv
    go_enter Try.func7, Try.ntmps7
    go_wp2_with (go_at_call 18; refine (HD.out _).mono ?_; rintro e w1 ⟨rfl, hb1⟩)
    go_ret
    exact ⟨rfl, hb1⟩
  · obtain ⟨cn, rfl⟩ := Int.eq_ofNat_of_zero_le (show 0 ≤ c by omega)
    have hcn : cn ≤ 1073741824 := by omega
    have HD : Hid (Calls Try.prog 18 #[.int .i64 (cn : Int)] w fun e w' => ∃ p, e = .returned (.tuple #[.pointer (some ⟨p, 0, none⟩), .bool true]) ∧ Run PS w.heap.size p cn (St.start cn) 0 w' ∧ Below w.heap.size w w') := run_start C cn w hcn
    have HOK : Hid (∀ (j : Nat) (o : Opx), ops[j]? = some o → OpOk w.heap.size o w) := hok
    have HV : Hid (RowO w v ops) := hv
    have HN : Hid (∀ (n : Int) w, Calls Try.prog 14 #[.int .i64 n] w fun e w' => e = .returned (.int .i64 n) ∧ w' = w) := fun n w => num_c n w
    have HDO : Hid (∀ p st k o wx, Run PS w.heap.size p cn st k wx → k < 2097150 → w.heap.size ≤ wx.heap.size → OpOk w.heap.size o wx → Calls Try.prog 19 #[.pointer (some ⟨p, 0, none⟩), o.v] wx fun e w' => e = .returned (.int .i64 (st.err o)) ∧ Run PS w.heap.size p cn (st.step o) (k + 1) w' ∧ Below w.heap.size wx w') := fun p st k o wx h1 h2 h3 h4 => run_do C h1 h2 h3 h4
    have HFI : Hid (∀ p st k wx, Run PS w.heap.size p cn st k wx → w.heap.size ≤ wx.heap.size → Calls Try.prog 29 #[.pointer (some ⟨p, 0, none⟩)] wx fun e w' => ∃ ao cp F, e = .returned (.tuple #[.slice ao st.files.length cp, .bool true]) ∧ w'.ownsRow wx.heap.size 65 9 (.slice ao st.files.length cp) st.files.length (flsV st.files) ∧ One PS w.heap.size F p st w' ∧ (∀ g, (Value.slice ao st.files.length cp).ownBlock = some g → ¬ F g) ∧ Below w.heap.size wx w') := fun p st k wx h1 h2 => by
      obtain ⟨F, t⟩ := h1.one
      refine (files_c C w.heap.size F p st wx t h1.wf h1.dw h2).mono ?_
      rintro e w' ⟨⟨v, rfl, hv⟩, t', hb⟩
      obtain ⟨ao, cp, rfl⟩ := own_shape hv
      exact ⟨ao, cp, F, rfl, hv, t', fun g hg hF => by have := (hv.lt g hg).1; have := (t.lo g hF).2; omega, hb⟩
    obtain ⟨m, hm⟩ : ∃ m, m = ops.length := ⟨_, rfl⟩
    have HNN : Hid (m = ops.length) := hm
    have HRI : Hid (RowI w (.slice co cl cc) cuts ∧ (cuts ≠ [] → ∀ k, (Value.slice co cl cc).ownBlock = some k → k < w.heap.size)) := by rw [← hcv]; exact ⟨hri, hlo⟩
    rw [← hm] at hl hvs
    subst hvs; subst hcv
    clear hc hok hv hm hri hlo
    go_enter Try.func7, Try.ntmps7
    go_wp2_with (go_at_call 18; refine HD.out.mono ?_; rintro e w1 ⟨p, rfl, r1, hb1⟩)
    have HP0 : Hid (Run PS w.heap.size p cn (St.start cn) 0 w1 ∧ Below w.heap.size w w1) := ⟨r1, hb1⟩
    clear r1 hb1 HD
    go_loopw [11] (fun i wr => ∃ k : Nat, i = .int .i64 k ∧ k ≤ m ∧ Run PS w.heap.size p cn ((St.start cn).play (ops.take k)) k wr ∧ Below w.heap.size w wr) (fun i _ => m - (intOf i).toNat)
    case atStart => exact ⟨0, rfl, Nat.zero_le _, HP0.out.1, HP0.out.2⟩
    case round =>
      obtain ⟨k, rfl, hkn, hpl, hbw⟩ := hrel
      have hbs := hbw.size
      by_cases hk : k < m
      · have hkl : k < ops.length := by rw [← HNN.out]; exact hk
        obtain ⟨o, hok⟩ : ∃ o, ops[k]? = some o := ⟨_, List.getElem?_eq_getElem hkl⟩
        have hoo := HOK.out k o hok
        obtain ⟨b, off, rfl, hbl, hat⟩ : ∃ b off, ao = some ⟨b, off, none⟩ ∧ b < w.heap.size ∧ OpAt w b (off + k * 10) o := by
          rcases HV.out with ⟨h0, _⟩ | ⟨b, off, cap, hv, hb, hc⟩
          · rw [h0] at hkl; simp at hkl
          · cases hv; exact ⟨b, off, rfl, hb, hc k o hok⟩
        have hat2 := hat.below hbw hbl
        have HST : Hid ((St.start cn).play (ops.take (k + 1)) = ((St.start cn).play (ops.take k)).step o) := play_take _ _ _ _ hok
        obtain ⟨st, hst⟩ : ∃ st, st = (St.start cn).play (ops.take k) := ⟨_, rfl⟩
        rw [← hst] at hpl HST
        have hdo := HDO.out p st k o wr hpl (by omega) hbs (hoo.below hbw (Nat.le_refl _))
        clear hst hok hat
        obtain ⟨ao2, cl2, cp2, hcv⟩ := hoo.slice
        obtain ⟨er, her⟩ : ∃ er, er = st.err o := ⟨_, rfl⟩
        rw [← her] at hdo
        clear her hoo
        obtain ⟨kind, on, nn, a, bb, m0, m1, m2, m3, cv, cuts'⟩ := o
        simp only at hcv
        subst hcv
        obtain ⟨e0, e1, e2, e3, e4, e5, e6, e7, e8, e9⟩ := hat2
        simp only at e0 e1 e2 e3 e4 e5 e6 e7 e8 e9
        have HDX : Hid (Calls Try.prog 19 #[.pointer (some ⟨p, 0, none⟩), .agg #[.int .i64 kind, .int .i64 on, .int .i64 nn, .string a, .string bb, .int .i64 m0, .int .i64 m1, .int .i64 m2, .int .i64 m3, .slice ao2 cl2 cp2]] wr fun e w' => e = .returned (.int .i64 er) ∧ Run PS w.heap.size p cn (st.step ⟨kind, on, nn, a, bb, m0, m1, m2, m3, .slice ao2 cl2 cp2, cuts'⟩) (k + 1) w' ∧ Below w.heap.size wr w') := hdo
        have b1 : decide ((k : Int) < (m : Int)) = true := by simp; omega
        have i1 : (k : Int) < (m : Int) := by omega
        have i2 : (0 : Int) ≤ (k : Int) := by omega
        have HBW : Hid (Below w.heap.size w wr) := hbw
        clear hdo hpl hbw
        go_wp2_with (go_at_call 19; refine HDX.out.mono ?_; rintro e w3 ⟨rfl, hp3, hb3⟩)
        exact ⟨⟨k + 1, rfl, by omega, by rw [HST.out]; exact hp3, HBW.out.trans hb3⟩, by simp [intOf]; omega⟩
      · obtain rfl : k = m := by omega
        have b1 : decide ((k : Int) < (k : Int)) = false := by simp
        obtain ⟨st, hst⟩ : ∃ st, st = (St.start cn).play (ops.take k) := ⟨_, rfl⟩
        rw [← hst] at hpl
        have hwf := hpl.wf
        have hdw := hpl.dw
        have HFX : Hid (Calls Try.prog 29 #[.pointer (some ⟨p, 0, none⟩)] wr fun e w' => ∃ ao cp F, e = .returned (.tuple #[.slice ao st.files.length cp, .bool true]) ∧ w'.ownsRow wr.heap.size 65 9 (.slice ao st.files.length cp) st.files.length (flsV st.files) ∧ One PS w.heap.size F p st w' ∧ (∀ g, (Value.slice ao st.files.length cp).ownBlock = some g → ¬ F g) ∧ Below w.heap.size wr w') := HFI.out p st k wr hpl hbs
        obtain ⟨L, hL⟩ : ∃ L, L = st.files := ⟨_, rfl⟩
        obtain ⟨q, hq⟩ : ∃ q, q = L.length := ⟨_, rfl⟩
        have hq64 : q ≤ 64 := by rw [hq, hL]; exact files_few hwf
        rw [← hL, ← hq] at HFX
        have HST : Hid (L = st.files ∧ q = L.length ∧ Wf st ∧ DW st ∧ q = st.now.length) := ⟨hL, hq, hwf, hdw, by rw [hq, hL]; unfold St.files; rw [List.length_map]⟩
        have HBW : Hid (Below w.heap.size w wr ∧ w.heap.size ≤ wr.heap.size) := ⟨hbw, hbs⟩
        have HSY : Hid (∀ F p s wx (y : Nat), One PS w.heap.size F p s wx → Wf s → w.heap.size ≤ wx.heap.size → Calls Try.prog 23 #[.pointer (some ⟨p, 0, none⟩), .int .i64 y] wx fun e w' => e = .returned (.int .i64 (s.sync y).1) ∧ One PS w.heap.size (ext F wx w') p (s.sync y).2 w' ∧ Below w.heap.size wx w' ∧ Kp F wx w') := fun F p s wx y t hw hB => (C.sync F p s y wx t.d hw).mono (by
          rintro e w' ⟨rfl, hd⟩
          obtain ⟨g1, g2⟩ := t.did hB hd
          exact ⟨rfl, g1, g2, hd.2⟩)
        clear hpl hbw hst hL hq hwf hdw hbs
        go_wp2_with (go_at_call 29; refine HFX.out.mono ?_; rintro e w2 ⟨lao, lcp, F, rfl, hrow, t2, hng, hb2⟩)
        have HR0 : Hid (w2.ownsRow w.heap.size 65 9 (.slice lao q lcp) q (flsV L) ∧ One PS w.heap.size F p st w2 ∧ (∀ g, (Value.slice lao q lcp).ownBlock = some g → ¬ F g) ∧ Below w.heap.size w w2) := ⟨own_mono hrow HBW.out.2, t2, hng, HBW.out.1.trans hb2⟩
        clear hrow t2 hng hb2
        go_loopw [14] (fun i wx => ∃ (j : Nat) (s : St) (F : Nat → Prop), i = .int .i64 j ∧ j ≤ q ∧ Sy st s j ∧ Wf s ∧ One PS w.heap.size F p s wx ∧ wx.ownsRow w.heap.size 65 9 (.slice lao q lcp) q (flsV (tight j L)) ∧ (∀ g, (Value.slice lao q lcp).ownBlock = some g → ¬ F g) ∧ Below w.heap.size w wx) (fun i _ => q - (intOf i).toNat)
        case atStart => exact ⟨0, st, F, rfl, Nat.zero_le _, Sy.refl st, HST.out.2.2.1, HR0.out.2.1, by rw [tight_0]; exact HR0.out.1, HR0.out.2.2.1, HR0.out.2.2.2⟩
        case round =>
          obtain ⟨j, s, F', rfl, hjq, hsy, hws, t3, hrow, hng, hbx⟩ := hrel
          have hbs := hbx.size
          by_cases hj : j < q
          · have hjl : j < st.now.length := by rw [← HST.out.2.2.2.2]; exact hj
            obtain ⟨x, y, hxy⟩ : ∃ x y, st.now[j]? = some (x, y) := ⟨_, _, List.getElem?_eq_getElem hjl⟩
            obtain ⟨z0, hsy2⟩ := hsy.next HST.out.2.2.1 hxy
            obtain ⟨f, hf, hfn⟩ : ∃ f, L[j]? = some f ∧ f.num = y := by
              refine ⟨_, by rw [HST.out.1]; unfold St.files; rw [List.getElem?_map, hxy]; rfl, rfl⟩
            have hc6 : (flsV (tight j L))[j * 9 + 6]? = some (.int .i64 (y : Int)) := by rw [← hfn]; exact flsV_at _ j f (tight_at j L f hf) 6 _ rfl
            obtain ⟨g, hg⟩ : ∃ g, lao = some ⟨g, 0, none⟩ := by
              rcases hrow.2 with ⟨h1, h2⟩ | ⟨g, cap, cur, h1, _⟩
              · omega
              · cases h1; exact ⟨g, rfl⟩
            subst hg
            have c6 := hrow.cells (g := g) rfl _ _ hc6
            rw [add_lit0] at c6
            have HSX : Hid (Calls Try.prog 23 #[.pointer (some ⟨p, 0, none⟩), .int .i64 (y : Int)] wr fun e w' => e = .returned (.int .i64 0) ∧ One PS w.heap.size (ext F' wr w') p (s.sync y).2 w' ∧ Below w.heap.size w w' ∧ w'.ownsRow w.heap.size 65 9 (.slice (some ⟨g, 0, none⟩) q lcp) q (flsV (tight j L)) ∧ ¬ ext F' wr w' g ∧ (∃ u, w'.cell? ⟨g, j * 9 + 8, none⟩ = some u) ∧ w'.frozen? ⟨g, j * 9 + 8, none⟩ = false) := by
              refine (HSY.out F' p s wr y t3 hws hbs).mono ?_
              rintro e w' ⟨rfl, g1, g2, g3⟩
              have hgl := (hrow.lt g rfl).2
              have hrow' := own_keep hrow (w' := w') (fun k' hk' => g3.block k' (hrow.lt k' hk').2 (hng k' hk'))
              have hc8 : ∃ u, (flsV (tight j L))[j * 9 + 8]? = some u := ⟨_, flsV_at _ j f (tight_at j L f hf) 8 _ rfl⟩
              obtain ⟨u, hu⟩ := hc8
              have c8 := hrow'.cells (g := g) rfl _ _ hu
              rw [add_lit0] at c8
              obtain ⟨cur, hcur⟩ := own_typed hrow' (show (Value.slice (some ⟨g, 0, none⟩) q lcp).ownBlock = some g from rfl)
              refine ⟨by rw [z0]; rfl, g1, hbx.trans g2, hrow', fun h' => ?_, ⟨u, c8⟩, Lib.frozen_of_heap hcur _⟩
              rcases h' with h' | h'
              · exact hng g rfl h'
              · omega
            have HEN : Hid (∀ w3 : World, One PS w.heap.size (ext F' wr w3) p (s.sync y).2 w3 → Below w.heap.size w w3 → w3.ownsRow w.heap.size 65 9 (.slice (some ⟨g, 0, none⟩) q lcp) q (flsV (tight j L)) → ¬ ext F' wr w3 g → One PS w.heap.size (ext F' wr w3) p (s.sync y).2 (w3.setCell ⟨g, j * 9 + 8, none⟩ (.int .i64 0)) ∧ (w3.setCell ⟨g, j * 9 + 8, none⟩ (.int .i64 0)).ownsRow w.heap.size 65 9 (.slice (some ⟨g, 0, none⟩) q lcp) q (flsV (tight (j + 1) L)) ∧ Below w.heap.size w (w3.setCell ⟨g, j * 9 + 8, none⟩ (.int .i64 0))) := fun w3 h1 h2 h3 h4 => by
              have hst := h3.stored (j := j * 9 + 8) (u := .int .i64 0)
              rw [tight_set j L f hf] at hst
              have oth : ∀ k', k' ≠ g → (w3.setCell ⟨g, j * 9 + 8, none⟩ (.int .i64 0)).heap[k']? = w3.heap[k']? := fun k' hk' => Below.heap_setCell _ _ _ _ hk'
              have hsz : (w3.setCell ⟨g, j * 9 + 8, none⟩ (.int .i64 0)).heap.size = w3.heap.size := by simp [World.setCell]
              have hgl : w.heap.size ≤ g := (h3.lt g rfl).1
              refine ⟨⟨C.same h1.d fun k' h1' _ => oth k' (fun e => h4 (e ▸ h1')), fun k' hk' => by rw [hsz]; exact h1.lo k' hk'⟩, hst.1, h2.os, h2.tape, h2.output, by rw [hsz]; exact h2.size, fun k' hk' => (oth k' (by omega)).trans (h2.block k' hk')⟩
            have HSN : Hid (Sy st (s.sync y).2 (j + 1) ∧ Wf (s.sync y).2) := ⟨hsy2, (sync_fine hws y).wf⟩
            have b1 : decide ((j : Int) < (q : Int)) = true := by simp; omega
            have i1 : (j : Int) < (q : Int) := by omega
            have i2 : (0 : Int) ≤ (j : Int) := by omega
            clear hsy hws t3 hrow hng hbx hc6 hxy z0 hsy2 hf hfn hjl
            go_wp2_with (first
              | (go_at_call 23; refine HSX.out.mono ?_; rintro e w3 ⟨rfl, t4, hb4, hrow4, hng4, ⟨u8, c8⟩, f8⟩)
              | (go_at_call 14; refine (HN.out _ _).mono ?_; rintro e w4 ⟨rfl, hw4⟩; subst w4))
            obtain ⟨g1, g2, g3⟩ := HEN.out w3 t4 hb4 hrow4 hng4
            exact ⟨⟨j + 1, _, _, rfl, by omega, HSN.out.1, HSN.out.2, g1, g2, fun g' hg' => by simp only [Value.ownBlock, Option.some.injEq] at hg'; subst hg'; exact hng4, g3⟩, by simp [intOf]; omega⟩
          · obtain rfl : j = q := by omega
            have b1 : decide ((j : Int) < (j : Int)) = false := by simp
            have hsy' : Sy st s st.now.length := by rw [← HST.out.2.2.2.2]; exact hsy
            have hfl : s.files = L.map firmF := by rw [hsy'.files HST.out.2.2.1, ← HST.out.1]
            have htl : tight j L = L.map firmF := by rw [HST.out.2.1]; exact tight_all L
            rw [htl] at hrow
            have hdws : DW s := fun d hd => HST.out.2.2.2.1 d (by rw [← hsy.dirs]; exact hd)
            have wf3 : Wf s.syncDir := (syncDir_fine hws).wf
            have dw3 : DW s.syncDir := DW.one (hdws.now hws) s.bodies
            obtain ⟨S3, hS3⟩ : ∃ S3, S3 = s.syncDir := ⟨_, rfl⟩
            have hf3 : S3.files = L.map firmF := by rw [hS3, syncDir_files]; exact hfl
            have hcr : S3.crash n cuts = S3 := by rw [hS3]; exact hsy'.crash HST.out.2.2.1 n cuts
            have hpn : S3.dirs.length - 1 = 0 := by rw [hS3]; rfl
            rw [← hS3] at wf3 dw3
            have HROW : Hid (∀ W : World, (∀ g, (Value.slice lao j lcp).ownBlock = some g → W.heap[g]? = wr.heap[g]?) → RowF W (.slice lao j lcp) (L.map firmF)) := fun W hW => by
              have h0 := own_keep hrow (w' := W) (fun k' hk' => hW k' hk')
              have hl : (L.map firmF).length = j := by rw [List.length_map]; exact HST.out.2.1.symm
              rw [← hl] at h0
              have := RowF.of_own h0
              rw [hl] at this; exact this
            -- behind SyncDir: the volume S3, the list's row untouched
            have KEEP : ∀ (F1 : Nat → Prop) (W W' : World), Kp F1 W W' → (∀ g, (Value.slice lao j lcp).ownBlock = some g → ¬ F1 g ∧ g < W.heap.size) → ∀ g, (Value.slice lao j lcp).ownBlock = some g → W'.heap[g]? = W.heap[g]? := fun F1 W W' hk h g hg => hk.block g (h g hg).2 (h g hg).1
            have HD : Hid (Calls Try.prog 30 #[.pointer (some ⟨p, 0, none⟩)] wr fun e w' => e = .returned (.tuple #[]) ∧ DurSt PS w lao j lcp p S3 wr w') := (C.syncDir F' p s wr t3.d hws).mono (by
              rintro e w' ⟨rfl, hd⟩
              obtain ⟨g1, g2⟩ := t3.did hbs hd
              rw [← hS3] at g1
              refine ⟨rfl, _, g1, fun g hg => ⟨fun h' => ?_, ?_⟩, hbx.trans g2⟩
              · have hlt := (hrow.lt g hg).2
                rcases h' with h' | h'
                · exact hng g hg h'
                · omega
              · exact ⟨hd.2.block g (hrow.lt g hg).2 (hng g hg), by have := (hrow.lt g hg).2; have := hd.2.size; omega⟩)
            have HU : Hid (∀ W, DurSt PS w lao j lcp p S3 wr W → ∀ W', Alike3 W W' → Calls Try.prog 16 #[.pointer (some ⟨p, 0, none⟩)] W' fun e w' => e = .returned (.int .i64 S3.used) ∧ DurSt PS w lao j lcp p S3 wr w') := fun W hW W' hA => (hW.alike C hA).ask C fun F h => C.used F p S3 W' h wf3
            have HPE : Hid (∀ W, DurSt PS w lao j lcp p S3 wr W → ∀ W', Alike3 W W' → Calls Try.prog 17 #[.pointer (some ⟨p, 0, none⟩)] W' fun e w' => e = .returned (.int .i64 0) ∧ DurSt PS w lao j lcp p S3 wr w') := fun W hW W' hA => (hW.alike C hA).ask C fun F h => by have := C.pending F p S3 W' h wf3; rw [hpn] at this; exact this
            have HCR : Hid (∀ W, DurSt PS w lao j lcp p S3 wr W → Calls Try.prog 27 #[.pointer (some ⟨p, 0, none⟩), .int .i64 n, .slice co cl cc] W fun e w' => e = .returned (.tuple #[]) ∧ DurSt PS w lao j lcp p S3 wr w') := fun W hW => by
              obtain ⟨F1, o1, o2, o3⟩ := hW
              have hsz := o3.size
              refine (C.crash F1 p S3 n _ cuts W o1.d wf3 (HRI.out.1.below o3 HRI.out.2) (fun hne k hk hF => by have := HRI.out.2 hne k hk; have := (o1.lo k hF).1; omega) (by omega)).mono ?_
              rintro e w' ⟨rfl, hd⟩
              rw [hcr] at hd
              obtain ⟨g1, g2⟩ := o1.did hsz hd
              refine ⟨rfl, _, g1, fun g hg => ⟨fun h' => ?_, ?_, ?_⟩, o3.trans g2⟩
              · rcases h' with h' | h'
                · exact (o2 g hg).1 h'
                · have := (o2 g hg).2.2; omega
              · exact (hd.2.block g (o2 g hg).2.2 (o2 g hg).1).trans (o2 g hg).2.1
              · have := (o2 g hg).2.2; have := hd.2.size; omega
            have HF2 : Hid (∀ W, DurSt PS w lao j lcp p S3 wr W → Calls Try.prog 29 #[.pointer (some ⟨p, 0, none⟩)] W fun e w' => ∃ v, e = .returned (.tuple #[v, .bool true]) ∧ (∃ ao' cp', v = .slice ao' j cp') ∧ RowF w' v (L.map firmF) ∧ RowF w' (.slice lao j lcp) (L.map firmF) ∧ DurSt PS w lao j lcp p S3 wr w') := fun W hW => by
              obtain ⟨F1, o1, o2, o3⟩ := hW
              have hsz := o3.size
              refine (files_k C w.heap.size F1 p S3 W o1 wf3 dw3 hsz).mono ?_
              rintro e w' ⟨⟨v, rfl, hv⟩, t', hb, hkp⟩
              rw [hf3] at hv
              have hl : (L.map firmF).length = j := by rw [List.length_map]; exact HST.out.2.1.symm
              have hrf := RowF.of_own hv
              rw [hl] at hv
              obtain ⟨ao', cp', rfl⟩ := own_shape hv
              have hk2 : ∀ g, (Value.slice lao j lcp).ownBlock = some g → w'.heap[g]? = wr.heap[g]? := fun g hg => (hkp.block g (o2 g hg).2.2 (o2 g hg).1).trans (o2 g hg).2.1
              exact ⟨_, rfl, ⟨ao', cp', rfl⟩, hrf, HROW.out w' hk2, F1, t', fun g hg => ⟨(o2 g hg).1, hk2 g hg, by have := (o2 g hg).2.2; have := hkp.size; omega⟩, o3.trans hb⟩
            have HSA : Hid (∀ va vb W, RowF W va (L.map firmF) → RowF W vb (L.map firmF) → Calls Try.prog 31 #[va, vb] W fun e w' => e = .returned (.bool true) ∧ Alike3 W w') := fun va vb W h1 h2 => (sameFiles_c va vb (L.map firmF) W h1 h2 (by rw [List.length_map, ← HST.out.2.1]; omega)).mono (by
              rintro e w' ⟨rfl, m', rfl⟩
              obtain ⟨q1, q2, q3, q4⟩ := drewN_eq W m'
              exact ⟨rfl, q1, q2, q3, q4⟩)
            obtain ⟨U, hU⟩ : ∃ U, U = S3.used := ⟨_, rfl⟩
            rw [← hU] at HU
            have u1 : ((U : Int) == U) = true := by simp
            clear hsy hws t3 hrow hng hbx hsy' hfl htl hdws wf3 dw3 hf3 hcr hpn KEEP hU hbs
            go_wp2_with (go_at_call 30; refine HD.out.mono ?_; rintro e x1 ⟨rfl, s1⟩)
            go_at_call 16
            refine (HU.out _ s1 _ ⟨rfl, rfl, rfl, rfl⟩).mono ?_
            rintro e x2 ⟨rfl, s2⟩
            go_wp2_with (first
              | (go_at_call 27; refine (HCR.out _ s2).mono ?_; rintro e x3 ⟨rfl, s3⟩)
              | (go_at_call 29; refine (HF2.out _ s3).mono ?_; rintro e x4 ⟨v4, rfl, ⟨ao4, cp4, hv4⟩, r4, r5, s4⟩; subst hv4)
              | (go_at_call 31; refine (HSA.out _ _ _ r5 r4).mono ?_; rintro e x5 ⟨rfl, s5⟩; have s6 := s4.alike C s5)
              | (go_at_call 16; refine (HU.out _ s6 _ (Alike3.mk ?_ ?_ ?_ ?_)).mono ?_; rfl; rfl; rfl; rfl; rintro e x7 ⟨rfl, s7⟩)
              | (go_at_call 17; refine (HPE.out _ s7 _ (Alike3.mk ?_ ?_ ?_ ?_)).mono ?_; rfl; rfl; rfl; rfl; rintro e x8 ⟨rfl, s8⟩))
            go_ret
            obtain ⟨_, _, _, hbz⟩ := s8
            exact ⟨rfl, hbz⟩
end Go.Proofs.Ytodjgbmfmpbkjaa
