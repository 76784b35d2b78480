
-- DiskRefusals' walk.
import Derived.Test.YtodjgbmfmpbkjaaN7
namespace Go.Proofs.Ytodjgbmfmpbkjaa
open Go.RowKit
set_option linter.unusedVariables false
variable {PS : (Nat → Prop) → Nat → St → World → Prop}
/-- What is plain of a volume behind k calls. -/
structure Pl (st : St) (k : Nat) : Prop where
  wf : Wf st
  dw : DW st
  bodies : st.bodies.length ≤ k + 1
  dirs : st.dirs.length ≤ k + 2
theorem Pl.step {st : St} {k : Nat} (h : Pl st k) (hk : k < 2097150) (o : Opx) : Pl (st.step o) (k + 1) := by
  have f := step_fine h.wf o (by have := h.bodies; omega) (by have := h.dirs; omega)
  exact ⟨f.wf, step_DW h.dw h.wf o, by have := f.bodies; have := h.bodies; omega, by have := f.dirs; have := h.dirs; omega⟩
theorem Pl.more {st : St} {k : Nat} (h : Pl st k) : Pl st (k + 1) := ⟨h.wf, h.dw, by have := h.bodies; omega, by have := h.dirs; omega⟩
theorem Pl.crash {st : St} {k : Nat} (h : Pl st k) (n : Int) (cuts : List Int) : Wf (st.crash n cuts) ∧ DW (st.crash n cuts) := by
  have hd := step_DW h.dw h.wf ⟨7, 0, n, ByteArray.empty, ByteArray.empty, 0, 0, 0, 0, .slice none 0 0, cuts⟩
  exact ⟨(crash_fine h.wf n cuts).wf, hd⟩
theorem EvR.crash1 (C : PC PS) {w0 w : World} {p1 p2 : Nat} {s1 s2 : St} (h : EvR PS w0 p1 p2 s1 s2 (.slice none 0 0) [] w) (hw : Wf s1) (n : Int) (cv : Value) (cuts : List Int) (hr : RowI w0 cv cuts) (hlo : cuts ≠ [] → ∀ k, cv.ownBlock = some k → k < w0.heap.size) (hcl : cuts.length ≤ 1048576) :
    Calls Try.prog 27 #[.pointer (some ⟨p1, 0, none⟩), .int .i64 n, cv] w fun e w' => e = .returned (.tuple #[]) ∧ EvR PS w0 p1 p2 (s1.crash n cuts) s2 (.slice none 0 0) [] w' := by
  obtain ⟨F1, F2, h1, h2, h3, h4⟩ := h
  refine (C.crash F1 p1 s1 n _ cuts w h1.a.d hw (hr.below h4 hlo) (fun hne k hk hF => by have := hlo hne k hk; have := (h1.a.lo k hF).1; omega) (by omega)).mono ?_
  rintro e w' ⟨rfl, hd⟩
  obtain ⟨g1, g2⟩ := h1.a.did h4.size hd
  exact ⟨rfl, _, F2, h1.first C hd.2 g1 (fun k hk => hk), .inl ⟨rfl, _, _, rfl⟩, (fun g hg => by cases hg), h4.trans g2⟩
theorem EvR.crash2 (C : PC PS) {w0 w : World} {p1 p2 : Nat} {s1 s2 : St} (h : EvR PS w0 p1 p2 s1 s2 (.slice none 0 0) [] w) (hw : Wf s2) (n : Int) (cv : Value) (cuts : List Int) (hr : RowI w0 cv cuts) (hlo : cuts ≠ [] → ∀ k, cv.ownBlock = some k → k < w0.heap.size) (hcl : cuts.length ≤ 1048576) :
    Calls Try.prog 27 #[.pointer (some ⟨p2, 0, none⟩), .int .i64 n, cv] w fun e w' => e = .returned (.tuple #[]) ∧ EvR PS w0 p1 p2 s1 (s2.crash n cuts) (.slice none 0 0) [] w' := by
  obtain ⟨F1, F2, h1, h2, h3, h4⟩ := h
  refine (C.crash F2 p2 s2 n _ cuts w h1.b.d hw (hr.below h4 hlo) (fun hne k hk hF => by have := hlo hne k hk; have := (h1.b.lo k hF).1; omega) (by omega)).mono ?_
  rintro e w' ⟨rfl, hd⟩
  obtain ⟨g1, g2⟩ := h1.b.did h4.size hd
  exact ⟨rfl, F1, _, h1.second C hd.2 g1 (fun k hk => hk), .inl ⟨rfl, _, _, rfl⟩, (fun g hg => by cases hg), h4.trans g2⟩
set_option maxRecDepth 100000 in
set_option maxHeartbeats 8000000 in
theorem diskRefusals_w (C : PC PS) (c : Int) (v : Value) (ops : List Opx) (n : Int) (cv : Value) (cuts : List Int) (w : World) (hv : RowO w v ops) (hok : ∀ (j : Nat) (o : Opx), ops[j]? = some o → OpOk w.heap.size o w) (hl : ops.length ≤ 1048576) (hri : RowI w cv cuts) (hlo : cuts ≠ [] → ∀ k, cv.ownBlock = some k → k < w.heap.size) (hcl : cuts.length ≤ 1048576) :
    Calls Try.prog 8 #[.int .i64 c, v, .int .i64 n, cv] w fun e w' => e = .returned (.bool true) ∧ Below w.heap.size w w' := by
  obtain ⟨ao, cp, hvs⟩ : ∃ ao cp, v = .slice ao ops.length cp := by
    rcases hv with ⟨rfl, ao, c, rfl⟩ | ⟨b, off, cap, rfl, _⟩
    · exact ⟨_, _, rfl⟩
    · exact ⟨_, _, rfl⟩
  obtain ⟨co, cl, cc, hcv⟩ : ∃ ao cl cp, cv = .slice ao cl cp := by
    rcases hri with ⟨_, ao, c, h⟩ | ⟨b, off, cap, h, _⟩
    · exact ⟨_, _, _, h⟩
    · exact ⟨_, _, _, h⟩
  by_cases hc : c < 0 ∨ 1073741824 < c
  · have HD : Hid (∀ w, Calls Try.prog 18 #[.int .i64 c] w fun e w' => e = .returned (.tuple #[.pointer none, .bool true]) ∧ Below w.heap.size w w') := fun w => started_no C c w hc
    clear hc hok hv hri hlo
    subst hvs; subst hcv
    go_enter Try.func8, Try.ntmps8
    go_wp2_with (go_at_call 18; refine (HD.out _).mono ?_; rintro e w1 ⟨rfl, hb1⟩)
    go_ret
    exact ⟨rfl, hb1⟩
  · obtain ⟨cn, rfl⟩ := Int.eq_ofNat_of_zero_le (show 0 ≤ c by omega)
    have hcn : cn ≤ 1073741824 := by omega
    have HD : Hid (∀ wx, Calls Try.prog 18 #[.int .i64 (cn : Int)] wx fun e w' => ∃ p, e = .returned (.tuple #[.pointer (some ⟨p, 0, none⟩), .bool true]) ∧ Run PS wx.heap.size p cn (St.start cn) 0 w' ∧ Below wx.heap.size wx w') := fun wx => run_start C cn wx hcn
    have HOK : Hid (∀ (j : Nat) (o : Opx), ops[j]? = some o → OpOk w.heap.size o w) := hok
    have HV : Hid (RowO w v ops) := hv
    obtain ⟨m, hm⟩ : ∃ m, m = ops.length := ⟨_, rfl⟩
    have HNN : Hid (m = ops.length) := hm
    have HRI : Hid (RowI w (.slice co cl cc) cuts ∧ (cuts ≠ [] → ∀ k, (Value.slice co cl cc).ownBlock = some k → k < w.heap.size)) := by rw [← hcv]; exact ⟨hri, hlo⟩
    have HST0 : Hid (∀ w1 w2 p1 p2, Run PS w.heap.size p1 cn (St.start cn) 0 w1 → Below w.heap.size w w1 → Run PS w1.heap.size p2 cn (St.start cn) 0 w2 → Below w1.heap.size w1 w2 → EvR PS w p1 p2 (St.start cn) (St.start cn) (.slice none 0 0) [] w2 ∧ Pl (St.start cn) 0) := fun w1 w2 p1 p2 r1 b1 r2 b2 => by
      obtain ⟨F1, t1⟩ := r1.one
      obtain ⟨F2, t2⟩ := r2.one
      have s1 := b1.size
      refine ⟨⟨F1, F2, ⟨t1.below C b2, ⟨t2.d, fun k hk => by have := t2.lo k hk; omega⟩, fun k h1 h2 => by have := t1.lo k h1; have := t2.lo k h2; omega⟩, .inl ⟨rfl, _, _, rfl⟩, (fun g hg => by cases hg), b1.trans (b2.mono s1)⟩, r1.wf, r1.dw, r1.bodies, r1.dirs⟩
    rw [← hm] at hl hvs
    subst hvs; subst hcv
    clear hc hok hv hm hri hlo
    go_enter Try.func8, Try.ntmps8
    go_wp2_with fail
    go_at_call 18
    refine (HD.out _).mono ?_
    rintro e w1 ⟨p1, rfl, r1, hb1⟩
    go_wp2_with fail
    go_at_call 18
    refine (HD.out _).mono ?_
    rintro e w2 ⟨p2, rfl, r2, hb2⟩
    obtain ⟨ev0, pl0⟩ := HST0.out w1 w2 p1 p2 r1 hb1 r2 hb2
    have HP0 : Hid (EvR PS w p1 p2 (St.start cn) (St.start cn) (.slice none 0 0) [] w2 ∧ Pl (St.start cn) 0) := ⟨ev0, pl0⟩
    clear r1 r2 hb1 hb2 ev0 pl0 HD
    go_wp2_with fail
    go_loopw [13] (fun i wr => ∃ (k : Nat) (s : St), i = .int .i64 k ∧ k ≤ m ∧ EvR PS w p1 p2 s s (.slice none 0 0) [] wr ∧ Pl s k) (fun i _ => m - (intOf i).toNat)
    case atStart => exact ⟨0, _, rfl, Nat.zero_le _, HP0.out.1, HP0.out.2⟩
    case round =>
      obtain ⟨k, s, rfl, hkn, hev, hpl⟩ := hrel
      have hwf := hpl.wf
      have hdw := hpl.dw
      by_cases hk : k < m
      · have hkl : k < ops.length := by rw [← HNN.out]; exact hk
        obtain ⟨o, hok⟩ : ∃ o, ops[k]? = some o := ⟨_, List.getElem?_eq_getElem hkl⟩
        have hoo := HOK.out k o hok
        obtain ⟨b, off, rfl, hbl, hat⟩ : ∃ b off, ao = some ⟨b, off, none⟩ ∧ b < w.heap.size ∧ OpAt w b (off + k * 10) o := by
          rcases HV.out with ⟨h0, _⟩ | ⟨b, off, cap, hv, hb, hc⟩
          · rw [h0] at hkl; simp at hkl
          · cases hv; exact ⟨b, off, rfl, hb, hc k o hok⟩
        obtain ⟨q, hq⟩ : ∃ q, q = s.files.length := ⟨_, rfl⟩
        obtain ⟨E, hE⟩ : ∃ E, E = s.err o := ⟨_, rfl⟩
        obtain ⟨D, hDd⟩ : ∃ D, D = s.dirs.length - 1 := ⟨_, rfl⟩
        have hq64 : q ≤ 64 := by rw [hq]; exact files_few hwf
        have HF1 : Hid (∀ v l W, EvR PS w p1 p2 s s v l W → Calls Try.prog 29 #[.pointer (some ⟨p1, 0, none⟩)] W fun e w' => ∃ ao cp, e = .returned (.tuple #[.slice ao q cp, .bool true]) ∧ EvR PS w p1 p2 s s v l w' ∧ EvR PS w p1 p2 s s (.slice ao q cp) s.files w') := fun v l W h => by rw [hq]; exact h.files1 C hwf hdw
        have HPE : Hid (∀ v l W, EvR PS w p1 p2 s s v l W → ∀ W', Alike3 W W' → Calls Try.prog 17 #[.pointer (some ⟨p1, 0, none⟩)] W' fun e w' => e = .returned (.int .i64 (D : Nat)) ∧ EvR PS w p1 p2 s s v l w') := fun v l W h W' hA => (h.alike C hA).ask C fun F hF => by rw [hDd]; exact C.pending F p1 s W' hF hwf
        have HDO1 : Hid (∀ v l W, EvR PS w p1 p2 s s v l W → Calls Try.prog 19 #[.pointer (some ⟨p1, 0, none⟩), o.v] W fun e w' => e = .returned (.int .i64 (E : Nat)) ∧ EvR PS w p1 p2 (s.step o) s v l w') := fun v l W h => by
          rw [hE]
          refine (h.do1 C hwf o (hoo.below h.bel (Nat.le_refl _))).mono ?_
          rintro e w' ⟨rfl, h1, _⟩
          exact ⟨rfl, h1⟩
        have HDO2 : Hid (∀ v l W, EvR PS w p1 p2 (s.step o) s v l W → Calls Try.prog 19 #[.pointer (some ⟨p2, 0, none⟩), o.v] W fun e w' => e = .returned (.int .i64 (E : Nat)) ∧ EvR PS w p1 p2 (s.step o) (s.step o) v l w') := fun v l W h => by
          rw [hE]
          refine (h.do2 C hwf o (hoo.below h.bel (Nat.le_refl _))).mono ?_
          rintro e w' ⟨rfl, h1, _⟩
          exact ⟨rfl, h1⟩
        have HSA : Hid (∀ va vb W, RowF W va s.files → RowF W vb s.files → Calls Try.prog 31 #[va, vb] W fun e w' => e = .returned (.bool true) ∧ Alike3 W w') := fun va vb W h1 h2 => (sameFiles_c va vb s.files W h1 h2 (by rw [← hq]; omega)).mono (by
          rintro e w' ⟨rfl, m', rfl⟩
          obtain ⟨q1, q2, q3, q4⟩ := drewN_eq W m'
          exact ⟨rfl, q1, q2, q3, q4⟩)
        have HAT : Hid (∀ W, Below w.heap.size w W → OpAt W b (off + k * 10) o) := fun W hb => hat.below hb hbl
        have HPL : Hid (Pl (s.step o) (k + 1)) := hpl.step (by omega) o
        have HRF : Hid (E ≠ 0 → s.step o = s) := fun h => step_refused s o (by rw [← hE]; exact h)
        have HBL : Hid (∀ p1 p2 s1 s2 v l W, EvR PS w p1 p2 s1 s2 v l W → Below w.heap.size w W) := fun p1 p2 s1 s2 v l W h => h.bel
        have HAK : Hid (∀ v l W W', EvR PS w p1 p2 s s v l W → Alike3 W W' → EvR PS w p1 p2 s s v l W') := fun v l W W' h hA => h.alike C hA
        have HBR : Hid (∀ s1 s2 v l W, EvR PS w p1 p2 s1 s2 v l W → EvR PS w p1 p2 s1 s2 (.slice none 0 0) [] W) := fun s1 s2 v l W h => h.bare C
        obtain ⟨ao2, cl2, cp2, hcv⟩ := hoo.slice
        obtain ⟨so, hso⟩ : ∃ so, so = s.step o := ⟨_, rfl⟩
        rw [← hso] at HDO1 HDO2 HPL HRF
        clear hoo hok hat hq hE hDd hso hwf hdw
        obtain ⟨kind, on, nn, a, bb, m0, m1, m2, m3, cv, cuts'⟩ := o
        simp only at hcv
        subst hcv
        have HD1 : Hid (∀ v l W, EvR PS w p1 p2 s s v l W → Calls Try.prog 19 #[.pointer (some ⟨p1, 0, none⟩), .agg #[.int .i64 kind, .int .i64 on, .int .i64 nn, .string a, .string bb, .int .i64 m0, .int .i64 m1, .int .i64 m2, .int .i64 m3, .slice ao2 cl2 cp2]] W fun e w' => e = .returned (.int .i64 (E : Nat)) ∧ EvR PS w p1 p2 so s v l w') := HDO1.out
        have HD2 : Hid (∀ v l W, EvR PS w p1 p2 so s v l W → Calls Try.prog 19 #[.pointer (some ⟨p2, 0, none⟩), .agg #[.int .i64 kind, .int .i64 on, .int .i64 nn, .string a, .string bb, .int .i64 m0, .int .i64 m1, .int .i64 m2, .int .i64 m3, .slice ao2 cl2 cp2]] W fun e w' => e = .returned (.int .i64 (E : Nat)) ∧ EvR PS w p1 p2 so so v l w') := HDO2.out
        have HEV : Hid (EvR PS w p1 p2 s s (.slice none 0 0) [] wr) := hev
        have b1 : decide ((k : Int) < (m : Int)) = true := by simp; omega
        have i1 : (k : Int) < (m : Int) := by omega
        have i2 : (0 : Int) ≤ (k : Int) := by omega
        clear HDO1 HDO2 hev hpl
        go_wp2_with (go_at_call 29; refine (HF1.out _ _ _ HEV.out).mono ?_; rintro e x1 ⟨ao3, cp3, rfl, -, s1⟩)
        go_at_call 17
        refine (HPE.out _ _ _ s1 _ ⟨rfl, rfl, rfl, rfl⟩).mono ?_
        rintro e x2 ⟨rfl, s2⟩
        obtain ⟨e0, e1, e2, e3, e4, e5, e6, e7, e8, e9⟩ := HAT.out x2 (HBL.out _ _ _ _ _ _ _ s2)
        simp only at e0 e1 e2 e3 e4 e5 e6 e7 e8 e9
        clear s1
        go_wp2_with fail
        go_at_call 19
        refine (HD1.out _ _ _ s2).mono ?_
        rintro e x3 ⟨rfl, s3⟩
        clear s2 e0 e1 e2 e3 e4 e5 e6 e7 e8 e9
        rcases Nat.eq_zero_or_pos E with hE0 | hE0
        · subst hE0
          obtain ⟨e0, e1, e2, e3, e4, e5, e6, e7, e8, e9⟩ := HAT.out x3 (HBL.out _ _ _ _ _ _ _ s3)
          simp only at e0 e1 e2 e3 e4 e5 e6 e7 e8 e9
          go_wp2_with (go_at_call 19; refine (HD2.out _ _ _ s3).mono ?_; rintro e x4 ⟨rfl, s4⟩)
          exact ⟨⟨k + 1, so, rfl, by omega, HBR.out _ _ _ _ _ s4, HPL.out⟩, by simp [intOf]; omega⟩
        · have hss : so = s := HRF.out (by omega)
          subst hss
          have c1 : ((E : Int) == 0) = false := by simp; omega
          have c2 : ((D : Int) != D) = false := by simp
          clear hE0
          go_wp2_with (first
            | (go_at_call 29; refine (HF1.out _ _ _ s3).mono ?_; rintro e x4 ⟨ao4, cp4, rfl, s4, s5⟩)
            | (go_at_call 31; refine (HSA.out _ _ _ s4.row s5.row).mono ?_; rintro e x5 ⟨rfl, hA5⟩; have s6 := HAK.out _ _ _ _ s4 hA5)
            | (go_at_call 17; refine (HPE.out _ _ _ s6 _ (Alike3.mk ?_ ?_ ?_ ?_)).mono ?_; rfl; rfl; rfl; rfl; rintro e x7 ⟨rfl, s7⟩))
          exact ⟨⟨k + 1, so, rfl, by omega, HBR.out _ _ _ _ _ s7, HPL.out⟩, by simp [intOf]; omega⟩
      · obtain rfl : k = m := by omega
        have b1 : decide ((k : Int) < (k : Int)) = false := by simp
        obtain ⟨hwf2, hdw2⟩ := hpl.crash n cuts
        have HC1 : Hid (∀ W, EvR PS w p1 p2 s s (.slice none 0 0) [] W → Calls Try.prog 27 #[.pointer (some ⟨p1, 0, none⟩), .int .i64 n, .slice co cl cc] W fun e w' => e = .returned (.tuple #[]) ∧ EvR PS w p1 p2 (s.crash n cuts) s (.slice none 0 0) [] w') := fun W h => h.crash1 C hwf n _ cuts HRI.out.1 HRI.out.2 hcl
        have HC2 : Hid (∀ W, EvR PS w p1 p2 (s.crash n cuts) s (.slice none 0 0) [] W → Calls Try.prog 27 #[.pointer (some ⟨p2, 0, none⟩), .int .i64 n, .slice co cl cc] W fun e w' => e = .returned (.tuple #[]) ∧ EvR PS w p1 p2 (s.crash n cuts) (s.crash n cuts) (.slice none 0 0) [] w') := fun W h => h.crash2 C hwf n _ cuts HRI.out.1 HRI.out.2 hcl
        obtain ⟨z, hz⟩ : ∃ z, z = s.crash n cuts := ⟨_, rfl⟩
        rw [← hz] at HC1 HC2 hwf2 hdw2
        obtain ⟨q, hq⟩ : ∃ q, q = z.files.length := ⟨_, rfl⟩
        have hq64 : q ≤ 64 := by rw [hq]; exact files_few hwf2
        have HF1 : Hid (∀ v l W, EvR PS w p1 p2 z z v l W → Calls Try.prog 29 #[.pointer (some ⟨p1, 0, none⟩)] W fun e w' => ∃ ao cp, e = .returned (.tuple #[.slice ao q cp, .bool true]) ∧ EvR PS w p1 p2 z z v l w' ∧ EvR PS w p1 p2 z z (.slice ao q cp) z.files w') := fun v l W h => by rw [hq]; exact h.files1 C hwf2 hdw2
        have HF2 : Hid (∀ v l W, EvR PS w p1 p2 z z v l W → Calls Try.prog 29 #[.pointer (some ⟨p2, 0, none⟩)] W fun e w' => ∃ ao cp, e = .returned (.tuple #[.slice ao q cp, .bool true]) ∧ EvR PS w p1 p2 z z v l w' ∧ EvR PS w p1 p2 z z (.slice ao q cp) z.files w') := fun v l W h => by rw [hq]; exact h.files2 C hwf2 hdw2
        have HSA : Hid (∀ va vb W, RowF W va z.files → RowF W vb z.files → Calls Try.prog 31 #[va, vb] W fun e w' => e = .returned (.bool true) ∧ Alike3 W w') := fun va vb W h1 h2 => (sameFiles_c va vb z.files W h1 h2 (by rw [← hq]; omega)).mono (by
          rintro e w' ⟨rfl, m', rfl⟩
          obtain ⟨q1, q2, q3, q4⟩ := drewN_eq W m'
          exact ⟨rfl, q1, q2, q3, q4⟩)
        have HAK : Hid (∀ v l W W', EvR PS w p1 p2 z z v l W → Alike3 W W' → Below w.heap.size w W') := fun v l W W' h hA => (h.alike C hA).bel
        have HEV : Hid (EvR PS w p1 p2 s s (.slice none 0 0) [] wr) := hev
        clear hev hpl hwf hdw hwf2 hdw2 hz hq
        go_wp2_with fail
        go_at_call 27
        refine (HC1.out _ HEV.out).mono ?_
        rintro e x1 ⟨rfl, s1⟩
        go_wp2_with fail
        go_at_call 27
        refine (HC2.out _ s1).mono ?_
        rintro e x2 ⟨rfl, s2⟩
        clear s1
        go_wp2_with fail
        go_at_call 29
        refine (HF1.out _ _ _ s2).mono ?_
        rintro e x3 ⟨ao3, cp3, rfl, -, s3⟩
        clear s2
        go_wp2_with fail
        go_at_call 29
        refine (HF2.out _ _ _ s3).mono ?_
        rintro e x4 ⟨ao4, cp4, rfl, s4, s5⟩
        clear s3
        go_wp2_with (go_at_call 31; refine (HSA.out _ _ _ s4.row s5.row).mono ?_; rintro e x5 ⟨rfl, hA5⟩; have s6 := HAK.out _ _ _ _ s4 hA5)
        go_ret
        exact ⟨rfl, s6⟩
end Go.Proofs.Ytodjgbmfmpbkjaa
