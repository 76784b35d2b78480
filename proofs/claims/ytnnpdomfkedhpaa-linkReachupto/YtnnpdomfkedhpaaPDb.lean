
-- want.
import Derived.Test.YtnnpdomfkedhpaaPDa
namespace Go.Proofs.Ytnnpdomfkedhpaa
open Go.ChangeShapes Go.WideShapes Go.ChangeAt Go.RowKit Go.MapKept
set_option linter.unusedVariables false
set_option maxRecDepth 100000
set_option maxHeartbeats 4000000 in
theorem want_c (F : Nat → Prop) (g : Nat) (s : Lk) (r : List ByteArray) (n : ByteArray) (w : World) (h : PgAt F g s r w) (hF : ∀ b, w.heap.size ≤ b → F b) (hn : r.length ≤ 4398046511104) :
    Calls Try.prog 32 #[.pointer (some ⟨g, 0, none⟩), .string n] w fun e w' => e = .returned (.tuple #[]) ∧ PgAt F g (wantN s n) (wantR s r n) w' ∧ Kp F w w' := by
  obtain ⟨h0, vd, vw, vp, bd, bw, bp, h1⟩ := h
  have HR := hidK (raw_want h0 n)
  have c3 := h1.c3
  have HH := hidK (hasS_c bd s.d n w h1.sd)
  have HX := hidK h1
  obtain ⟨ao, cap, ev, _⟩ := h1.ow.form
  obtain ⟨ln, hln⟩ : ∃ ln, ln = r.length := ⟨_, rfl⟩
  have HL := hidK hln
  rw [← hln] at ev
  clear hln
  subst ev
  have HC : Hid (∀ w2, Below w.heap.size w w2 → w2.cell? ⟨g, 4, none⟩ = some (.map (some bw))) := fun w2 hb => (h1.on hb).c4
  have HH2 : Hid (∀ w2, Below w.heap.size w w2 → Calls Try.prog 22 #[.map (some bw), .string n] w2 fun e w' => e = .returned (.bool (isIn s.w n)) ∧ Below w.heap.size w w') := fun w2 hb => (hasS_c bw s.w n w2 (h1.sw.on hb)).mono (by
    rintro e w' ⟨rfl, q⟩
    exact ⟨rfl, bel3K hb q⟩)
  cases hi : isIn s.d n with
  | true =>
    rw [hi] at HH
    have HE : Hid (wantN s n = s ∧ wantR s r n = r) := ⟨by unfold wantN; rw [hi]; rfl, by unfold wantR; rw [hi]; rfl⟩
    clear h0 h1 hi hn hF
    go_enter Try.func32, Try.ntmps32
    go_wp2_with (go_at_call 22; refine HH.out.mono ?_; rintro e w2 ⟨rfl, hb2⟩; have HB2 := hidK hb2; clear hb2)
    refine bodyPost_ret (results_none rfl _ _ _) rfl ?_
    refine ⟨rfl, ?_, Kp.of_below HB2.out⟩
    refine ⟨HR.out, ?_⟩
    rw [HE.out.1, HE.out.2]
    exact ⟨_, _, _, _, _, _, HX.out.on HB2.out⟩
  | false =>
    rw [hi] at HH
    cases hj : isIn s.w n with
    | true =>
      rw [hj] at HH2
      have HE : Hid (wantN s n = s ∧ wantR s r n = r) := ⟨by unfold wantN; rw [hj, Bool.or_true]; rfl, by unfold wantR; rw [hj, Bool.or_true]; rfl⟩
      clear h0 h1 hi hj hn hF
      go_enter Try.func32, Try.ntmps32
      go_wp2_with (first
        | (go_at_call 22; refine (HH2.out _ HB2.out).mono ?_; rintro e w3 ⟨rfl, hb3⟩; have HB3 := hidK hb3; clear hb3)
        | (go_at_call 22; refine HH.out.mono ?_; rintro e w2 ⟨rfl, hb2⟩; have c4 := HC.out _ hb2; have HB2 := hidK hb2; clear hb2))
      refine bodyPost_ret (results_none rfl _ _ _) rfl ?_
      refine ⟨rfl, ?_, Kp.of_below HB3.out⟩
      refine ⟨HR.out, ?_⟩
      rw [HE.out.1, HE.out.2]
      exact ⟨_, _, _, _, _, _, HX.out.on HB3.out⟩
    | false =>
      rw [hj] at HH2
      have HE : Hid (wantN s n = ⟨s.d, s.w ++ [n], s.p⟩ ∧ wantR s r n = r ++ [n]) := ⟨by unfold wantN; rw [hi, hj]; rfl, by unfold wantR; rw [hi, hj]; rfl⟩
      have HA : Hid (∀ w2, Below w.heap.size w w2 → Calls Try.prog 23 #[.map (some bw), .string n] w2 fun e w3 => e = .returned (.tuple #[]) ∧ PgX F g s.d r s.p s.d (s.w ++ [n]) s.p w3 vd (.slice ao ln cap) vp bd bw bp ∧ Kp F w w3) := fun w2 hb => (addS_c bw s.w n w2 (h1.sw.on hb)).mono (by
        rintro e w3 ⟨rfl, q1, q2⟩
        exact ⟨rfl, (h1.on hb).setW q2 q1, (Kp.of_below hb).trans (q2.weak (fun k e => e ▸ h1.fw))⟩)
      clear h0 h1 hi hj
      go_enter Try.func32, Try.ntmps32
      go_wp2_with (first
        | (go_at_call 22; refine (HH2.out _ HB2.out).mono ?_; rintro e w3 ⟨rfl, hb3⟩; have c4' := HC.out _ hb3; have HB3 := hidK hb3; clear hb3)
        | (go_at_call 22; refine HH.out.mono ?_; rintro e w2 ⟨rfl, hb2⟩; have c4 := HC.out _ hb2; have HB2 := hidK hb2; clear hb2)
        | (go_at_call 23; refine (HA.out _ HB3.out).mono ?_; rintro e w4 ⟨rfl, q1, q2⟩; have c1' := q1.c1; have HX3 := hidK q1; have HK3 := hidK q2; clear q1 q2)
        | (refine wpG_one elT rfl (.tmp 28) (.tmp 30) rfl (.slice ao ln cap) r n #[.string n] rfl rfl rfl HX3.out.ow (txL_one n) (by omega) (fun b hb => hF b (Nat.le_trans HK3.out.size hb)) ?_; intro v4 w5 o4 k4 l4; obtain ⟨a4, p4, e4, _⟩ := o4.form; obtain ⟨m4, hm4⟩ : ∃ m, m = (r ++ [n]).length := ⟨_, rfl⟩; rw [← hm4] at e4; clear hm4; subst e4; have HO4 := hidK o4; have HK4 := hidK k4; have HL4 := hidK l4; clear o4 k4 l4)
        | (refine wpList_store_kz rfl rfl 23 _ _ rfl g 1 (.slice a4 m4 p4) rfl rfl 66 #[vd, .slice ao ln cap, vp, .map (some bd), .map (some bw), .map (some bp)] #[vd, .slice a4 m4 p4, vp, .map (some bd), .map (some bw), .map (some bp)] ((HK4.out.block _ HX3.out.glt (fun e => (HX3.out.ntw _ e).1 rfl)).trans HX3.out.blk) sizeSl rfl rfl rfl ?_; intro W5 g5 q5; have HG5 := hidK g5; have HQ5 := hidK q5; clear g5 q5))
      go_end0
      have X5 := HX3.out.putW HK4.out HO4.out HL4.out HG5.out HQ5.out
      refine ⟨rfl, ?_, ?_⟩
      · refine ⟨HR.out, ?_⟩
        rw [HE.out.1, HE.out.2]
        exact ⟨_, _, _, _, _, _, X5⟩
      · exact (HK3.out.trans (HK4.out.weak (fun k e => HX3.out.ow.2 k e))).trans (Kp.kq HQ5.out HX3.out.fg)
end Go.Proofs.Ytnnpdomfkedhpaa
