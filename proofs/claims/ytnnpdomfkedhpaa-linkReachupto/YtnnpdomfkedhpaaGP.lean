
-- Group, Search.
import Derived.Test.YtnnpdomfkedhpaaLI
namespace Go.Proofs.Ytnnpdomfkedhpaa
open Go.ChangeShapes Go.WideShapes Go.ChangeAt Go.RowKit Go.MapKept
set_option linter.unusedVariables false
set_option maxRecDepth 100000
/-- a link that was answered: its lists are new, and each its own -/
structure LkOwn (B : Nat) (w : World) (vd u vp : Value) (x : Lk) : Prop where
  d : OwnF (fun b => B ≤ b) txL 1 9 w vd x.d
  wt : OwnF (fun b => B ≤ b) txL 1 9 w u x.w
  p : OwnF (fun b => B ≤ b) paL 2 56 w vp x.p
  n : ∀ k, vd.ownBlock = some k → u.ownBlock ≠ some k
theorem OwnF.rowF {α : Type} {c : α → List Value} {z e sl bytes : Nat} {F : Nat → Prop} (E : El c z e sl bytes) {w : World} {v : Value} {L : List α} (h : OwnF F c z e w v L) : RowG c w v L := h.row E
theorem pgK_of {F : Nat → Prop} {g K M : Nat} {s : Lk} {r : List ByteArray} {w : World} (h : PgAt F g s r w) (h1 : r.length ≤ K) (h2 : s.d.length ≤ K) : PgK F g K M s w := ⟨⟨r, by omega, h⟩, by omega⟩
theorem link_k {F : Nat → Prop} {g K M : Nat} {s : Lk} {w : World} (h : PgK F g K M s w) (hb : K + M * s.p.length ≤ 4398046511104) :
    Calls Try.prog 14 #[.pointer (some ⟨g, 0, none⟩)] w fun e w' => ∃ vd u vp, e = .returned (.agg #[vd, u, vp]) ∧ OwnF F txL 1 9 w' vd s.d ∧ OwnF (fun b => w.heap.size + 1 ≤ b) txL 1 9 w' u s.w ∧ OwnF F paL 2 56 w' vp s.p ∧ (∀ k, vd.ownBlock = some k → k < w.heap.size) ∧ (∀ k, vp.ownBlock = some k → k < w.heap.size) ∧ Below w.heap.size w w' := by
  obtain ⟨⟨r, h1, h2⟩, h3⟩ := h
  exact link_c F g s r w h2 (by omega)
set_option maxHeartbeats 8000000 in
theorem group_c (v : Value) (lvs : List Lv) (Ls : List Lb) (vd vw vp : Value) (s : Lk) (w : World) (M Pm : Nat) (hV : LibsAt (fun b => w.heap.size ≤ b) w v lvs Ls) (hd : RowT w vd s.d) (hw : RowT w vw s.w) (hp : RowP w vp s.p)
    (K : Nat) (n1 : s.d.length ≤ K) (n2 : s.w.length ≤ K) (hn : Ls.length ≤ 67108864) (hA : ∀ L ∈ Ls, L.a.length < 4611686018427387904) (hlim : Lim K M Pm (numL Ls)) (hPm : sizesN (numL Ls) + s.p.length ≤ Pm) :
    Calls Try.prog 7 #[v, .agg #[vd, vw, vp]] w fun e w' => ∃ a0 l0 c0 a1 l1 c1 a2 l2 c2, e = .returned (.agg #[.slice a0 l0 c0, .slice a1 l1 c1, .slice a2 l2 c2]) ∧ LkOwn w.heap.size w' (.slice a0 l0 c0) (.slice a1 l1 c1) (.slice a2 l2 c2) (groupN (numL Ls) s) ∧ Below w.heap.size w w' := by
  obtain ⟨S, hS⟩ : ∃ S, S = Obj.cells #[vd, vw, vp] 32 := ⟨_, rfl⟩
  obtain ⟨Z, hZ⟩ : ∃ Z, Z = Obj.cells #[.slice none 0 0, .slice none 0 0, .slice none 0 0] 32 := ⟨_, rfl⟩
  obtain ⟨w1, hw1⟩ : ∃ w1, w1 = (w.alloc S).alloc Z := ⟨_, rfl⟩
  have hb1 : Below w.heap.size w w1 := by rw [hw1]; exact ((Below.refl _ w).alloc (Nat.le_refl _) S).alloc (by simp) Z
  have hs1 : w1.heap.size = w.heap.size + 2 := by rw [hw1]; simp
  have hx0 : w1.heap[w.heap.size]? = some (.cells #[vd, vw, vp] 32 (0, 0)) := by rw [hw1]; exact hupK (by rw [heap_alloc_new, hS]) Z
  have hz1 : w1.heap[w.heap.size + 1]? = some (.cells #[.slice none 0 0, .slice none 0 0, .slice none 0 0] 32 (0, 0)) := by rw [hw1, heap_new2K, hZ]
  have y0 : w1.cell? ⟨w.heap.size, 0, none⟩ = some vd := cell_rowK hx0 0 _ rfl
  have y1 : w1.cell? ⟨w.heap.size, 1, none⟩ = some vw := cell_rowK hx0 1 _ rfl
  have y2 : w1.cell? ⟨w.heap.size, 2, none⟩ = some vp := cell_rowK hx0 2 _ rfl
  have HBEG := hidK (begin_c vd vw vp s.d s.w s.p w1 (hd.on hb1) (hw.on hb1) (hp.on hb1) (by have := hlim.p; omega) (by have := hlim.p; omega) (by have := hlim.l; omega))
  have HCA : Hid (∀ w2, Below w1.heap.size w1 w2 → Calls Try.prog 12 #[v] w2 fun e w' => ∃ C : List (Lv × Int × Value), e = .returned (.slice (some ⟨w2.heap.size, 0, none⟩) C.length C.length) ∧ C.length = Ls.length ∧ w'.heap[w2.heap.size]? = some (.cells (C.flatMap cvL).toArray 69 (0, 0)) ∧ (∀ i x, C[i]? = some x → CvOk (w2.heap.size + 1) w' lvs Ls i x) ∧ Below w2.heap.size w2 w') := fun w2 hb => by
    have hbw : Below w.heap.size w w2 := hb1.trans (hb.mono (by omega))
    exact catalogs_c v lvs Ls w2 ((hV.kp (Kp.of_below hbw)).weak (fun b _ hh => Nat.le_trans hbw.size hh)) hn hA
  have HV := hidK hV
  have HB1 := hidK hb1
  have HS1 := hidK hs1
  have HZ1 := hidK hz1
  have HLIM := hidK hlim
  have HPM := hidK hPm
  have HNN := hidK hn
  have HDW : Hid (s.d.length ≤ K ∧ s.w.length ≤ K) := ⟨n1, n2⟩
  clear hd hw hp hV hb1 hs1 hx0 hz1 hA hlim hPm hn n1 n2
  subst hS hZ
  go_enter Try.func7, Try.ntmps7
  go_upto_region 1 with fail
  rw [← hw1]
  clear hw1
  go_upto_region 2 with (go_at_call 11; refine HBEG.out.mono ?_; rintro e w2 ⟨g, rfl, q1, q2⟩; have HP2 := hidK q1; have HB2 := hidK q2; clear q1 q2)
  clear y0 y1 y2 HBEG
  go_wp2_with (go_at_call 12; refine (HCA.out _ HB2.out).mono ?_; rintro e w3 ⟨C, rfl, q0, q1, q2, q3⟩; have HC3 := hidK (And.intro q0 (And.intro q1 q2)); have HB3 := hidK q3; clear q0 q1 q2 q3)
  obtain ⟨F, hFd⟩ : ∃ F : Nat → Prop, F = fun b => w1.heap.size ≤ b ∧ ¬ (w2.heap.size ≤ b ∧ b < w3.heap.size) := ⟨_, rfl⟩
  have hs1 := HS1.out
  have hs2 := HB2.out.size
  have hs3 := HB3.out.size
  have hFw : ∀ b, F b → w.heap.size + 2 ≤ b := fun b hb => by rw [hFd] at hb; omega
  have hF3 : ∀ b, w3.heap.size ≤ b → F b := fun b hb => by rw [hFd]; exact ⟨by omega, by omega⟩
  have hnF : ∀ b, w2.heap.size ≤ b → b < w3.heap.size → ¬ F b := fun b h1 h2 hb => by rw [hFd] at hb; exact hb.2 ⟨h1, h2⟩
  have hK3 : PgK F g K M s w3 := by
    obtain ⟨r0, vd0, vw0, vp0, bd0, bw0, bp0, hx⟩ := HP2.out
    have : PgAt F g s s.w w2 := ⟨r0, vd0, vw0, vp0, bd0, bw0, bp0, hx.into (fun b hb hf => by rw [hFd]; exact ⟨hf, by omega⟩)⟩
    exact (pgK_of this HDW.out.2 HDW.out.1).on HB3.out
  have hbw3 : Below w.heap.size w w3 := (HB1.out.trans (HB2.out.mono (by omega))).trans (HB3.out.mono (by omega))
  have hV3 : LibsAt F w3 v lvs Ls := (HV.out.kp (Kp.of_below hbw3)).weak (fun b _ hh => by have := hFw b hh; show _ ≤ b; omega)
  have hC3 : CatsAt F w3 (.slice (some ⟨w2.heap.size, 0, none⟩) C.length C.length) C Ls := by
    obtain ⟨c0, c1, c2⟩ := HC3.out
    have hlt := (Array.getElem?_eq_some_iff.1 c1).1
    refine ⟨⟨_, _, rfl, Nat.le_refl _, by have := HNN.out; unfold maxLen; omega, by simp, fun _ => ⟨w2.heap.size, 0, rfl, hnF _ (Nat.le_refl _) hlt, fun j u hu => ?_⟩⟩, c0, fun i x L hx hL => ?_⟩
    · rw [Nat.zero_add]; exact cell_rowK c1 j u (by simpa using hu)
    · obtain ⟨b, L', t1, t2, t3, t4, t5, t6⟩ := c2 i x hx
      rw [hL] at t4
      injection t4 with t4
      subst t4
      exact ⟨b, t2, t3, hV3.ea i x.1 L t1 hL, t6, hnF b (by omega) t6.lt⟩
  have HRC : Hid (∀ W t, Kp F w3 W → PgK F g K M t W → muN (numL Ls) t + t.p.length ≤ Pm → Calls Try.prog 13 #[.pointer (some ⟨g, 0, none⟩), .slice (some ⟨w2.heap.size, 0, none⟩) C.length C.length] W fun e w' => e = .returned (.bool (decide (t.p.length < (roundN (numL Ls) t).p.length))) ∧ PgK F g K M (roundN (numL Ls) t) w' ∧ Kp F w3 w') := fun W t hk ht hm => (round_c F g K M t _ C Ls W Pm HLIM.out ht (fun b hb => hF3 b (Nat.le_trans hk.size hb)) (hC3.kp hk) HNN.out hm).mono (by
    rintro e w' ⟨q1, q2, q3⟩
    exact ⟨q1, q2, hk.trans q3⟩)
  have hz3 : w3.heap[w.heap.size + 1]? = some (.cells #[.slice none 0 0, .slice none 0 0, .slice none 0 0] 32 (0, 0)) := by
    rw [HB3.out.block _ (by omega), HB2.out.block _ (by omega)]; exact HZ1.out
  have HZ3 : Hid (∀ W, Kp F w3 W → W.heap[w.heap.size + 1]? = some (.cells #[.slice none 0 0, .slice none 0 0, .slice none 0 0] 32 (0, 0))) := fun W hk => (hk.block _ (by omega) (fun hb => by have := hFw _ hb; omega)).trans hz3
  have HLK : Hid (∀ W t, Kp F w3 W → PgK F g K M t W → muN (numL Ls) t + t.p.length ≤ Pm → Calls Try.prog 14 #[.pointer (some ⟨g, 0, none⟩)] W fun e w' => ∃ a0 l0 c0 a1 l1 c1 a2 l2 c2, e = .returned (.agg #[.slice a0 l0 c0, .slice a1 l1 c1, .slice a2 l2 c2]) ∧ LkOwn (w.heap.size + 2) w' (.slice a0 l0 c0) (.slice a1 l1 c1) (.slice a2 l2 c2) t ∧ Below W.heap.size W w') := fun W t hk ht hm => (link_k ht (by
      have h1 := HLIM.out.p
      have h2 : M * t.p.length ≤ M * (Pm + 1) := Nat.mul_le_mul_left M (by omega)
      omega)).mono (by
    rintro e w' ⟨vd, u, vp, q1, q2, q3, q4, q5, q6, q7⟩
    obtain ⟨a0, c0, e0, _⟩ := q2.form
    obtain ⟨a1, c1, e1, _⟩ := q3.form
    obtain ⟨a2, c2, e2, _⟩ := q4.form
    subst e0 e1 e2
    have hks := hk.size
    exact ⟨_, _, _, _, _, _, _, _, _, q1, ⟨q2.weak hFw, q3.weak (fun b hb => by have hb' : W.heap.size + 1 ≤ b := hb; show _ ≤ b; omega), q4.weak hFw, fun k hk1 hk2 => by have := q5 k hk1; have := q3.2 k hk2; omega⟩, q7⟩)
  have HBW : Hid (∀ W, Kp F w3 W → Below w.heap.size w W) := fun W hk => hbw3.trans (hk.below (fun b hb => by have := hFw b hb; omega) hbw3.size)
  have HGO : Hid (∀ t, Goes (numL Ls) t (roundN (numL Ls) t)) := fun t => round_goes _ t
  have HK3 := hidK hK3
  have HJ : Hid (muN (numL Ls) s + s.p.length ≤ Pm) := by have := mu_le (numL Ls) s; have := HPM.out; show _ ≤ _; omega
  clear hK3 hV3 hC3 hz3 hbw3 hF3 hnF hFw hFd hs1 hs2 hs3 HCA HP2 HC3 HB3 HB2
  go_loopw [13] (fun _ wx => ∃ t, PgK F g K M t wx ∧ Kp F w3 wx ∧ groupN (numL Ls) t = groupN (numL Ls) s ∧ muN (numL Ls) t + t.p.length ≤ Pm) (fun _ wx => Pm - lenP wx g)
  case atStart => exact ⟨s, HK3.out, Kp.refl _ _, rfl, HJ.out⟩
  case round =>
    obtain ⟨t, ho, hB, hs, hm⟩ := hrel
    have HO := hidK ho
    have HB0 := hidK hB
    have HS := hidK hs
    have HM := hidK hm
    have HA := hidK (HRC.out wr t hB ho hm)
    clear ho hB hs hm HK3 HJ
    by_cases hk : t.p.length < (roundN (numL Ls) t).p.length
    · rw [show decide (t.p.length < (roundN (numL Ls) t).p.length) = true from decide_eq_true hk] at HA
      have HK := hidK hk
      clear hk
      go_wp2_with (go_at_call 13; refine HA.out.mono ?_; rintro e w4 ⟨rfl, q1, q2⟩; have HP1 := hidK q1; have HK1 := hidK q2; clear q1 q2)
      go_roundw
      case rel =>
        refine ⟨roundN (numL Ls) t, HP1.out, HK1.out, ?_, ?_⟩
        · rw [← HS.out]; exact (group_step (by have := HK.out; omega)).symm
        · have := (HGO.out t).mu; have := HM.out; omega
      case measure =>
        have e1 := HP1.out.lenP
        have e2 := HO.out.lenP
        have := (HGO.out t).mu; have := HM.out; have := HK.out
        show Pm - lenP w4 g < Pm - lenP wr g
        rw [e1, e2]; omega
    · rw [show decide (t.p.length < (roundN (numL Ls) t).p.length) = false from decide_eq_false hk] at HA
      have HK := hidK hk
      clear hk
      have HE : Hid (groupN (numL Ls) s = roundN (numL Ls) t) := by
        show _ = _
        rw [← HS.out, group_stop (by have := HK.out; have := (HGO.out t).len; omega)]
      have HM2 : Hid (muN (numL Ls) (roundN (numL Ls) t) + (roundN (numL Ls) t).p.length ≤ Pm) := by have := (HGO.out t).mu; have := HM.out; show _ ≤ _; omega
      go_wp2_with (first
        | (go_at_call 13; refine HA.out.mono ?_; rintro e w4 ⟨rfl, q1, q2⟩; have HP1 := hidK q1; have HK1 := hidK q2; clear q1 q2)
        | (go_at_call 14; refine (HLK.out _ _ HK1.out HP1.out HM2.out).mono ?_; rintro e w5 ⟨a0, l0, c0, a1, l1, c1, a2, l2, c2, rfl, q1, q2⟩; have HP5 := hidK q1; have HB5 := hidK q2; clear q1 q2)
        | (refine wpList_store_kz rfl rfl 32 _ _ rfl (w.heap.size + 1) 0 (.agg #[.slice a0 l0 c0, .slice a1 l1 c1, .slice a2 l2 c2]) rfl rfl 32 #[.slice none 0 0, .slice none 0 0, .slice none 0 0] #[.slice a0 l0 c0, .slice a1 l1 c1, .slice a2 l2 c2] (hkeepK HB5.out (HZ3.out _ HK1.out)) sizeLink rfl rfl rfl ?_; intro W6 g6 q6; have HG6 := hidK g6; have HQ6 := hidK q6; clear g6 q6))
      refine bodyPost_ret (results_cell_row rfl _ _ (w.heap.size + 1) _ _ _ _ rfl HG6.out Try.underlying32 rfl sizeLink) rfl ?_
      rw [HE.out]
      have up : ∀ k, w.heap.size + 2 ≤ k → k < w5.heap.size → W6.heap[k]? = w5.heap[k]? := fun k h1 h2 => HQ6.out.block k (by omega) h2
      refine ⟨_, _, _, _, _, _, _, _, _, rfl, ⟨(HP5.out.d.keep fun k hk => up k (HP5.out.d.2 k hk) (HP5.out.d.lt k hk)).weak (fun b hb => by show _ ≤ b; omega), (HP5.out.wt.keep fun k hk => up k (HP5.out.wt.2 k hk) (HP5.out.wt.lt k hk)).weak (fun b hb => by show _ ≤ b; omega), (HP5.out.p.keep fun k hk => up k (HP5.out.p.2 k hk) (HP5.out.p.lt k hk)).weak (fun b hb => by show _ ≤ b; omega), HP5.out.n⟩, ?_⟩
      have hb4 := HBW.out _ HK1.out
      have hb5 := hb4.trans (HB5.out.mono hb4.size)
      exact hb5.trans (HQ6.out.below (by omega) hb5.size)
end Go.Proofs.Ytnnpdomfkedhpaa
