
-- define, want.
import Derived.Test.YtnnpdomfkedhpaaPG
import Derived.Test.YtnnpdomfkedhpaaLK
namespace Go.Proofs.Ytnnpdomfkedhpaa
open Go.ChangeShapes Go.WideShapes Go.ChangeAt Go.RowKit Go.MapKept
set_option linter.unusedVariables false
set_option maxRecDepth 100000
def PgAt (F : Nat → Prop) (g : Nat) (s : Lk) (r : List ByteArray) (w : World) : Prop := RawOk s r ∧ ∃ vd vw vp bd bw bp, PgX F g s.d r s.p s.d s.w s.p w vd vw vp bd bw bp
theorem PgAt.on {F : Nat → Prop} {g : Nat} {s : Lk} {r : List ByteArray} {w w' : World} (h : PgAt F g s r w) (hb : Below w.heap.size w w') : PgAt F g s r w' := by
  obtain ⟨h0, vd, vw, vp, bd, bw, bp, h1⟩ := h
  exact ⟨h0, vd, vw, vp, bd, bw, bp, h1.on hb⟩
theorem sizeSl : (Try.prog.info? 23).map (·.size) = some 1 := by kernel_rfl
theorem sizeSlP : (Try.prog.info? 30).map (·.size) = some 1 := by kernel_rfl
section
variable {F : Nat → Prop} {g : Nat} {d r : List ByteArray} {p : List (Int × Int)} {D W : List ByteArray} {P : List (Int × Int)} {w w' : World} {vd vw vp : Value} {bd bw bp : Nat}
theorem PgX.c0 (h : PgX F g d r p D W P w vd vw vp bd bw bp) : w.cell? ⟨g, 0, none⟩ = some vd := cell_rowK h.blk 0 _ rfl
theorem PgX.c1 (h : PgX F g d r p D W P w vd vw vp bd bw bp) : w.cell? ⟨g, 1, none⟩ = some vw := cell_rowK h.blk 1 _ rfl
theorem PgX.c2 (h : PgX F g d r p D W P w vd vw vp bd bw bp) : w.cell? ⟨g, 2, none⟩ = some vp := cell_rowK h.blk 2 _ rfl
theorem PgX.c3 (h : PgX F g d r p D W P w vd vw vp bd bw bp) : w.cell? ⟨g, 3, none⟩ = some (.map (some bd)) := cell_rowK h.blk 3 _ rfl
theorem PgX.c4 (h : PgX F g d r p D W P w vd vw vp bd bw bp) : w.cell? ⟨g, 4, none⟩ = some (.map (some bw)) := cell_rowK h.blk 4 _ rfl
theorem PgX.c5 (h : PgX F g d r p D W P w vd vw vp bd bw bp) : w.cell? ⟨g, 5, none⟩ = some (.map (some bp)) := cell_rowK h.blk 5 _ rfl
end
set_option maxHeartbeats 4000000 in
theorem define_c (F : Nat → Prop) (g : Nat) (s : Lk) (r : List ByteArray) (n : ByteArray) (w : World) (h : PgAt F g s r w) (hF : ∀ b, w.heap.size ≤ b → F b) (hn : s.d.length ≤ 4398046511104) :
    Calls Try.prog 31 #[.pointer (some ⟨g, 0, none⟩), .string n] w fun e w' => e = .returned (.tuple #[]) ∧ PgAt F g (defN s n) r w' ∧ Kp F w w' := by
  obtain ⟨h0, vd, vw, vp, bd, bw, bp, h1⟩ := h
  have HR := hidK (raw_def h0 n)
  have c4 := h1.c4
  obtain ⟨w1, hr1, s1, t1⟩ := MpAt.drop h1.sw mapS_u keySt isSt injSt n 0
  have h2 := h1.setW (t1.kp rfl) (s1.congr (setF_del s.w n))
  have k1 : Kp F w w1 := (t1.kp (F := fun k => k = bw) rfl).weak (fun k e => e ▸ h1.fw)
  have c3 := h2.c3
  have HH := hidK (hasS_c bd s.d n w1 h2.sd)
  have HX := hidK h2
  have HK := hidK k1
  have hF1 : ∀ b, w1.heap.size ≤ b → F b := fun b hb => hF b (by have := k1.size; omega)
  obtain ⟨ao, cap, ev, _⟩ := h1.od.form
  obtain ⟨ln, hln⟩ : ∃ ln, ln = s.d.length := ⟨_, rfl⟩
  have HL := hidK hln
  rw [← hln] at ev
  clear hln
  subst ev
  cases hi : isIn s.d n with
  | true =>
    rw [hi] at HH
    have HE : Hid (defN s n = ⟨s.d, woN s.w n, s.p⟩) := by show _ = _; unfold defN; rw [hi]; rfl
    clear h0 h1 h2 s1 t1 k1 hi hn hF hF1
    go_enter Try.func31, Try.ntmps31
    go_wp2_with (first | (at_delete; refine wp_delete _ rfl _ _ 60 9 rfl _ _ rfl rfl w1 hr1 ?_) | (go_at_call 22; refine HH.out.mono ?_; rintro e w2 ⟨rfl, hb2⟩; have HB2 := hidK hb2; clear hb2))
    refine bodyPost_ret (results_none rfl _ _ _) rfl ?_
    refine ⟨rfl, ?_, HK.out.trans (Kp.of_below HB2.out)⟩
    refine ⟨HR.out, ?_⟩
    rw [HE.out]
    exact ⟨_, _, _, _, _, _, HX.out.on HB2.out⟩
  | false =>
    rw [hi] at HH
    have HE : Hid (defN s n = ⟨s.d ++ [n], woN s.w n, s.p⟩) := by show _ = _; unfold defN; rw [hi]; rfl
    have HA : Hid (∀ w2, Below w1.heap.size w1 w2 → Calls Try.prog 23 #[.map (some bd), .string n] w2 fun e w3 => e = .returned (.tuple #[]) ∧ PgX F g s.d r s.p (s.d ++ [n]) (woN s.w n) s.p w3 (.slice ao ln cap) vw vp bd bw bp ∧ Kp F w w3) := fun w2 hb => (addS_c bd s.d n w2 (h2.sd.on hb)).mono (by
      rintro e w3 ⟨rfl, q1, q2⟩
      exact ⟨rfl, (h2.on hb).setD q2 q1, (k1.trans (Kp.of_below hb)).trans (q2.weak (fun k e => e ▸ h2.fd))⟩)
    have HC : Hid (∀ w2, Below w1.heap.size w1 w2 → w2.cell? ⟨g, 3, none⟩ = some (.map (some bd))) := fun w2 hb => (h2.on hb).c3
    clear h0 h1 h2 s1 t1 k1 hi hF1
    go_enter Try.func31, Try.ntmps31
    go_wp2_with (first
      | (at_delete; refine wp_delete _ rfl _ _ 60 9 rfl _ _ rfl rfl w1 hr1 ?_)
      | (go_at_call 22; refine HH.out.mono ?_; rintro e w2 ⟨rfl, hb2⟩; have c3' := HC.out _ hb2; have HB2 := hidK hb2; clear hb2)
      | (go_at_call 23; refine (HA.out _ HB2.out).mono ?_; rintro e w3 ⟨rfl, q1, q2⟩; have c0' := q1.c0; have HX3 := hidK q1; have HK3 := hidK q2; clear q1 q2)
      | (refine wpG_one elT rfl (.tmp 25) (.tmp 27) rfl (.slice ao ln cap) s.d n #[.string n] rfl rfl rfl HX3.out.od (txL_one n) (by omega) (fun b hb => hF b (Nat.le_trans HK3.out.size hb)) ?_; intro v4 w4 o4 k4 l4; obtain ⟨a4, p4, e4, _⟩ := o4.form; obtain ⟨m4, hm4⟩ : ∃ m, m = (s.d ++ [n]).length := ⟨_, rfl⟩; rw [← hm4] at e4; clear hm4; subst e4; have HO4 := hidK o4; have HK4 := hidK k4; have HL4 := hidK l4; clear o4 k4 l4)
      | (refine wpList_store_kz rfl rfl 23 _ _ rfl g 0 (.slice a4 m4 p4) rfl rfl 66 #[.slice ao ln cap, vw, vp, .map (some bd), .map (some bw), .map (some bp)] #[.slice a4 m4 p4, vw, vp, .map (some bd), .map (some bw), .map (some bp)] ((HK4.out.block _ HX3.out.glt (fun e => (HX3.out.ntd _ e).1 rfl)).trans HX3.out.blk) sizeSl rfl rfl rfl ?_; intro W5 g5 q5; have HG5 := hidK g5; have HQ5 := hidK q5; clear g5 q5))
    go_end0
    have X5 := HX3.out.putD HK4.out HO4.out HL4.out HG5.out HQ5.out
    refine ⟨rfl, ?_, ?_⟩
    · refine ⟨HR.out, ?_⟩
      rw [HE.out]
      exact ⟨_, _, _, _, _, _, X5⟩
    · exact (HK3.out.trans (HK4.out.weak (fun k e => HX3.out.od.2 k e))).trans (Kp.kq HQ5.out HX3.out.fg)
end Go.Proofs.Ytnnpdomfkedhpaa
