
-- slices' merge in place (4): the step walked.
import Derived.Test.YtbmdclgndlddbaaSC
namespace Go.Proofs.Ytbmdclgndlddbaa
open Go.ChangeShapes Go.WideShapes Go.ChangeAt Go.RowKit Go.Sort Go.Shelf Go.Lib
set_option linter.unusedVariables false
set_option maxRecDepth 100000
set_option linter.unusedSimpArgs false
section
variable {P : Program} {α : Type} [Inhabited α] {enc : α → List Value} {k : Nat} {w0 : World} {blk off : Nat} {d0 : Array α}
set_option maxHeartbeats 8000000 in
set_option maxRecDepth 1000000 in
theorem sym_step (L : StL P k) (R : RowK enc k w0 blk off d0) {g : Nat} {cb : Array Value} {cf : α → α → Int} (eg : ∀ args w, (callFunc g args).run P w = .ok (.enter g args) w) (hcmp : CmpLays P g cb enc k cf blk off d0.size w0) {C Ro : α → α → Prop} (H : Cmp (ltOf cf) C Ro) (cap : Nat) (hsz : d0.size < 4611686018427387904) {n : Nat} (hI : SymC P enc k w0 blk off d0 g cb cap C Ro n)
    {A X Y Z : List α} {a m b : Nat} {dk : Array α} {W : World} (hn : b - a ≤ n) (hd : dk.toList = A ++ (X ++ (Y ++ Z))) (ha : A.length = a) (hm : a + X.length = m) (hb : m + Y.length = b) (hx1 : 1 < X.length) (hy1 : 1 < Y.length) (hX : X.Pairwise Ro) (hY : Y.Pairwise Ro) (hC : ∀ x ∈ X, ∀ y ∈ Y, C x y) (hW : SWK enc k w0 blk off dk W) (hs : dk.size = d0.size) :
    Calls P 27 #[.slice (some ⟨blk, off, none⟩) d0.size cap, .int .i64 a, .int .i64 m, .int .i64 b, .func (.func g) #[] cb] W fun e w' => e = .returned (.tuple #[]) ∧ ∃ d' : Array α, SWK enc k w0 blk off d' w' ∧ Mgd Ro A X Y Z d' := by
  have mixed := L.mixed; have t0 := L.t0; have a0 := L.a0; have z0 := L.z0; have v0 := L.v0; have t3 := L.t3; have a3 := L.a3; have z3 := L.z3; have v3 := L.v3; have t4 := L.t4; have a4 := L.a4; have z4 := L.z4; have v4 := L.v4; have tU := L.tU; have aU := L.aU; have zU := L.zU; have vU := L.vU; have tS := L.tS; have aS := L.aS; have zS := L.zS; have vS := L.vS; have tC := L.tC; have aC := L.aC; have zC := L.zC; have vC := L.vC; have aE := L.aE; have zE := L.zE
  have uS := run_underlying L.tS
  have F := L.f37
  have e39 : ∀ args w, (callFunc 29 args).run P w = .ok (.enter 29 args) w := L.e39
  have e37 : ∀ args w, (callFunc 27 args).run P w = .ok (.enter 27 args) w := L.e37
  have hlen : dk.size = A.length + (X.length + (Y.length + Z.length)) := by rw [← Array.length_toList, hd]; simp only [List.length_append]
  have hbs : b ≤ d0.size := by omega
  obtain ⟨mid, hmid⟩ : ∃ mid, mid = (a + b) / 2 := ⟨_, rfl⟩
  have HE : Aside (∀ s e, e = mid + m - s → Bis (ltOf cf) dk (if mid < m then mid + m - b else a) (if mid < m then mid else m) (mid + m - 1) s s → a ≤ s ∧ s ≤ m ∧ s ≤ mid ∧ mid ≤ e ∧ m ≤ e ∧ e ≤ b ∧ ∃ Q1 Q2, Thr P enc k w0 blk off d0 g cb cap Ro A X Y Z a m b mid s e dk Q1 Q2) := by
    intro s e he hB
    obtain ⟨A1, A2, B1, B2, rfl, rfl, q1, q2, q3, q4, q5, q6, q7, hcr⟩ := sym_parts H hd ha hm hb hmid hX hY hC hB
    simp only [List.length_append] at hm hb hx1 hy1
    refine ⟨by omega, q3, q6, by omega, by omega, by omega, _, _, thr_of L R hI hsz hd ha q1 (by omega) (by omega) (by omega) (by omega) hn (by omega) (by omega) hX hY hC hcr hs⟩
  have HW : Aside (SWK enc k w0 blk off dk W) := hW
  have HR : Aside (RowK enc k w0 blk off d0) := R
  have HC : Aside _ := hcmp
  have wm : IntKind.i64.wrap ((m : Int) - (a : Int)) = (m : Int) - (a : Int) := by rw [IntKind.wrap_i64]; omega
  have wm2 : ¬ (m : Int) - (a : Int) = 1 := by omega
  have wd : decide ((m : Int) - (a : Int) = 1) = false := decide_eq_false wm2
  have wd2 : ((m : Int) - (a : Int) == 1) = false := by simp; omega
  have wm3 : IntKind.i64.wrap ((b : Int) - (m : Int)) = (b : Int) - (m : Int) := by rw [IntKind.wrap_i64]; omega
  have wm4 : ¬ (b : Int) - (m : Int) = 1 := by omega
  have wd3 : decide ((b : Int) - (m : Int) = 1) = false := decide_eq_false wm4
  have wd4 : ((b : Int) - (m : Int) == 1) = false := by simp; omega
  have wh := half_wrap (i := a) (j := b) (by omega)
  rw [← hmid] at wh
  have wh2 : ((a : Int) + (b : Int)) / 2 = (mid : Int) := by omega
  have wn : IntKind.i64.wrap ((mid : Int) + (m : Int)) = (mid : Int) + (m : Int) := by rw [IntKind.wrap_i64]; omega
  obtain ⟨p, hp⟩ : ∃ p, p = mid + m - 1 := ⟨_, rfl⟩
  have wq : IntKind.i64.wrap ((mid : Int) + (m : Int) - 1) = (p : Int) := by rw [IntKind.wrap_i64]; omega
  have wq2 : (mid : Int) + (m : Int) - 1 = (p : Int) := by omega
  have hp1 : p + 1 = mid + m := by omega
  have o1 : a < mid := by omega
  have o2 : mid < b := by omega
  have o3 : a < m := by omega
  have o4 : m < b := by omega
  have o6 : a + m ≤ mid + m := by omega
  have o7 : 2 * mid ≤ a + b := by omega
  have o8 : a + b ≤ 2 * mid + 1 := by omega
  clear hd ha hm hb hx1 hy1 hX hY hC hW R hcmp H L hlen hI hn hmid
  by_cases q : mid < m
  · skip
    have qz : (mid : Int) < (m : Int) := by omega
    have qd : decide ((mid : Int) < (m : Int)) = true := decide_eq_true qz
    obtain ⟨lo, hlo⟩ : ∃ lo, lo = mid + m - b := ⟨_, rfl⟩
    have wl : IntKind.i64.wrap ((mid : Int) + (m : Int) - (b : Int)) = (lo : Int) := by rw [IntKind.wrap_i64]; omega
    have wl2 : (mid : Int) + (m : Int) - (b : Int) = (lo : Int) := by omega
    have hlb : lo + b = mid + m := by omega
    have hB0 : Hid (Bis (ltOf cf) dk lo mid p lo mid) := bis_start _ _ _ (by omega)
    have HQ : Aside (∀ s, Bis (ltOf cf) dk lo mid p s s → Bis (ltOf cf) dk (if mid < m then mid + m - b else a) (if mid < m then mid else m) (mid + m - 1) s s) := fun s h => by rw [if_pos q, if_pos q, ← hlo, ← hp]; exact h
    clear hlo hp
    go_enter F, Try.ntmps27
    go_wp2
    go_loopw [20, 21] (fun vi vj wr => ∃ (s r : Nat), vi = .int .i64 s ∧ vj = .int .i64 r ∧ lo ≤ s ∧ s ≤ r ∧ r ≤ mid ∧ Aside (SWK enc k w0 blk off dk wr) ∧ Hid (Bis (ltOf cf) dk lo mid p s r)) (fun vi vj _ => (intOf vj).toNat - (intOf vi).toNat)
    case atStart => exact ⟨lo, mid, rfl, rfl, Nat.le_refl _, by omega, Nat.le_refl _, HW, hB0⟩
    case round =>
      obtain ⟨s, r, rfl, rfl, hls, hsr, hrh, HWi, HB⟩ := hrel
      clear HW hB0
      by_cases hlt : s < r
      · have hltz : (s : Int) < (r : Int) := by omega
        have hwh := half_wrap (i := s) (j := r) (by omega)
        obtain ⟨c, hh⟩ : ∃ h, h = (s + r) / 2 := ⟨_, rfl⟩
        rw [← hh] at hwh
        have hh2 : ((s : Int) + (r : Int)) / 2 = (c : Int) := by omega
        have hsc : s ≤ c := by omega
        have hcr : c < r := by omega
        have hz : (c : Int) < (d0.size : Int) := by omega
        have h1z : (c : Int) + 1 < 4611686018427387904 := by omega
        obtain ⟨pc, hpc⟩ : ∃ pc, pc = p - c := ⟨_, rfl⟩
        have wp : IntKind.i64.wrap ((p : Int) - (c : Int)) = (pc : Int) := by rw [IntKind.wrap_i64]; omega
        have wp3 : IntKind.i64.wrap (pc : Int) = (pc : Int) := by rw [IntKind.wrap_i64]; omega
        have wp2 : (p : Int) - (c : Int) = (pc : Int) := by omega
        have pz : (pc : Int) < (d0.size : Int) := by omega
        clear hh
        cases hL : ltOf cf dk[pc]! dk[c]! with
        | true =>
          have HBN : Hid (Bis (ltOf cf) dk lo mid p s c) := bis_yes HB.out hsc hcr (by rw [← hpc]; exact hL)
          obtain ⟨xh, hxh⟩ : ∃ y, y = dk[c]! := ⟨_, rfl⟩
          obtain ⟨yh, hyh⟩ : ∃ y, y = dk[pc]! := ⟨_, rfl⟩
          have l1 := HWi.out.ld HR.out hs P c (by omega)
          have l2 := HWi.out.ld HR.out hs P pc (by omega)
          rw [← hxh] at l1
          rw [← hyh] at l2
          have hc := HWi.out.cmp HC.out hs yh xh
          have hv : cf yh xh < 0 := by rw [hxh, hyh]; exact of_decide_eq_true hL
          have hd : decide (cf yh xh < 0) = true := decide_eq_true hv
          clear hxh hyh hL hpc
          go_wp2_with fail
          go_quiet_grown (first | (go_at_fn g; refine Calls.grown_of (hc _ _)))
          have S2 : Aside (SWK enc k w0 blk off dk (grow (wr.drewN nq) osq)) := HWi.out.grown nq osq
          clear l1 l2 hc HWi
          generalize grow (wr.drewN nq) osq = w2 at S2 ⊢
          clear nq osq
          go_wp2
          go_roundw
          case rel => exact ⟨s, c, rfl, rfl, hls, by omega, by omega, S2, HBN⟩
          case measure => simp [intOf]; omega
        | false =>
          have HBN : Hid (Bis (ltOf cf) dk lo mid p (c + 1) r) := bis_no HB.out hsc hcr (by rw [← hpc]; exact hL)
          obtain ⟨xh, hxh⟩ : ∃ y, y = dk[c]! := ⟨_, rfl⟩
          obtain ⟨yh, hyh⟩ : ∃ y, y = dk[pc]! := ⟨_, rfl⟩
          have l1 := HWi.out.ld HR.out hs P c (by omega)
          have l2 := HWi.out.ld HR.out hs P pc (by omega)
          rw [← hxh] at l1
          rw [← hyh] at l2
          have hc := HWi.out.cmp HC.out hs yh xh
          have hv : ¬ cf yh xh < 0 := by rw [hxh, hyh]; exact of_decide_eq_false hL
          have hd : decide (cf yh xh < 0) = false := decide_eq_false hv
          clear hxh hyh hL hpc
          go_wp2_with fail
          go_quiet_grown (first | (go_at_fn g; refine Calls.grown_of (hc _ _)))
          have S2 : Aside (SWK enc k w0 blk off dk (grow (wr.drewN nq) osq)) := HWi.out.grown nq osq
          clear l1 l2 hc HWi
          generalize grow (wr.drewN nq) osq = w2 at S2 ⊢
          clear nq osq
          go_wp2
          go_roundw
          case rel => exact ⟨c + 1, r, by go_num, rfl, by omega, by omega, hrh, S2, HBN⟩
          case measure => simp [intOf]; omega
      · obtain rfl : s = r := by omega
        have hltz : ¬ (s : Int) < (s : Int) := by omega
        obtain ⟨e, he⟩ : ∃ e, e = mid + m - s := ⟨_, rfl⟩
        obtain ⟨f1, f2, f3, f4, f5, f6, Q1, Q2, hT⟩ := HE.out s e he (HQ.out s HB.out)
        have HT := hidK hT
        have we : IntKind.i64.wrap ((mid : Int) + (m : Int) - (s : Int)) = (e : Int) := by rw [IntKind.wrap_i64]; omega
        have we2 : (mid : Int) + (m : Int) - (s : Int) = (e : Int) := by omega
        have hes : e + s = mid + m := by omega
        clear hT HB HQ HE HC he
        by_cases r1 : s < m
        · by_cases r2 : s < mid
          · by_cases r3 : a < s
            · by_cases r4 : e < b
              · have i1 : (s : Int) < (m : Int) := by omega
                have i2 : (m : Int) < (e : Int) := by omega
                have i3 : (a : Int) < (s : Int) := by omega
                have i4 : (s : Int) < (mid : Int) := by omega
                have i5 : (mid : Int) < (e : Int) := by omega
                have i6 : (e : Int) < (b : Int) := by omega
                go_wp2_with (first | (go_at_fn 29; refine (HT.out.c1 _ HWi.out r1 r2).mono ?_; rintro x1 w1 ⟨rfl, d1, S1, g1⟩; have HS1 := hidK S1; have HG1 := hidK g1; clear S1 g1) | (go_at_fn 27; refine (HT.out.c2 d1 _ HG1.out HS1.out r3 r2).mono ?_; rintro x2 w2 ⟨rfl, d2, S2, g2⟩; have HS2 := hidK S2; have HG2 := hidK g2; clear S2 g2) | (go_at_fn 27; refine (HT.out.c3 d2 _ HG2.out HS2.out r1 r4).mono ?_; rintro x3 w3 ⟨rfl, d3, S3, g3⟩; have HS3 := hidK S3; have HG3 := hidK g3; clear S3 g3))
                all_goals (go_end0; exact ⟨rfl, d3, HS3.out, HG3.out⟩)
              · have i1 : (s : Int) < (m : Int) := by omega
                have i2 : (m : Int) < (e : Int) := by omega
                have i3 : (a : Int) < (s : Int) := by omega
                have i4 : (s : Int) < (mid : Int) := by omega
                have i5 : (mid : Int) < (e : Int) := by omega
                have i6 : ¬ (e : Int) < (b : Int) := by omega
                go_wp2_with (first | (go_at_fn 29; refine (HT.out.c1 _ HWi.out r1 r2).mono ?_; rintro x1 w1 ⟨rfl, d1, S1, g1⟩; have HS1 := hidK S1; have HG1 := hidK g1; clear S1 g1) | (go_at_fn 27; refine (HT.out.c2 d1 _ HG1.out HS1.out r3 r2).mono ?_; rintro x2 w2 ⟨rfl, d2, S2, g2⟩; have HS2 := hidK S2; have HG2 := hidK g2; clear S2 g2))
                all_goals (go_end0; exact ⟨rfl, d2, HS2.out, (HT.out.n3 d2 HG2.out (fun h => by omega))⟩)
            · by_cases r4 : e < b
              · have i1 : (s : Int) < (m : Int) := by omega
                have i2 : (m : Int) < (e : Int) := by omega
                have i3 : ¬ (a : Int) < (s : Int) := by omega
                have i4 : (s : Int) < (mid : Int) := by omega
                have i5 : (mid : Int) < (e : Int) := by omega
                have i6 : (e : Int) < (b : Int) := by omega
                go_wp2_with (first | (go_at_fn 29; refine (HT.out.c1 _ HWi.out r1 r2).mono ?_; rintro x1 w1 ⟨rfl, d1, S1, g1⟩; have HS1 := hidK S1; have HG1 := hidK g1; clear S1 g1) | (go_at_fn 27; refine (HT.out.c3 d1 _ (HT.out.n2 d1 HG1.out (fun h => by omega)) HS1.out r1 r4).mono ?_; rintro x3 w3 ⟨rfl, d3, S3, g3⟩; have HS3 := hidK S3; have HG3 := hidK g3; clear S3 g3))
                all_goals (go_end0; exact ⟨rfl, d3, HS3.out, HG3.out⟩)
              · have i1 : (s : Int) < (m : Int) := by omega
                have i2 : (m : Int) < (e : Int) := by omega
                have i3 : ¬ (a : Int) < (s : Int) := by omega
                have i4 : (s : Int) < (mid : Int) := by omega
                have i5 : (mid : Int) < (e : Int) := by omega
                have i6 : ¬ (e : Int) < (b : Int) := by omega
                go_wp2_with (first | (go_at_fn 29; refine (HT.out.c1 _ HWi.out r1 r2).mono ?_; rintro x1 w1 ⟨rfl, d1, S1, g1⟩; have HS1 := hidK S1; have HG1 := hidK g1; clear S1 g1))
                all_goals (go_end0; exact ⟨rfl, d1, HS1.out, (HT.out.n3 d1 (HT.out.n2 d1 HG1.out (fun h => by omega)) (fun h => by omega))⟩)
          · by_cases r3 : a < s
            · by_cases r4 : e < b
              · have i1 : (s : Int) < (m : Int) := by omega
                have i2 : ¬ (m : Int) < (e : Int) := by omega
                have i3 : (a : Int) < (s : Int) := by omega
                have i4 : ¬ (s : Int) < (mid : Int) := by omega
                have i5 : (mid : Int) < (e : Int) := by omega
                have i6 : (e : Int) < (b : Int) := by omega
                have HG1 : Hid (Q1 dk) := HT.out.n1 (fun h => by omega)
                go_wp2_with (first | (go_at_fn 27; refine (HT.out.c3 dk _ (HT.out.n2 dk HG1.out (fun h => by omega)) HWi.out r1 r4).mono ?_; rintro x3 w3 ⟨rfl, d3, S3, g3⟩; have HS3 := hidK S3; have HG3 := hidK g3; clear S3 g3))
                all_goals (go_end0; exact ⟨rfl, d3, HS3.out, HG3.out⟩)
              · have i1 : (s : Int) < (m : Int) := by omega
                have i2 : ¬ (m : Int) < (e : Int) := by omega
                have i3 : (a : Int) < (s : Int) := by omega
                have i4 : ¬ (s : Int) < (mid : Int) := by omega
                have i5 : (mid : Int) < (e : Int) := by omega
                have i6 : ¬ (e : Int) < (b : Int) := by omega
                have HG1 : Hid (Q1 dk) := HT.out.n1 (fun h => by omega)
                go_wp2
                all_goals (go_end0; exact ⟨rfl, dk, HWi.out, (HT.out.n3 dk (HT.out.n2 dk HG1.out (fun h => by omega)) (fun h => by omega))⟩)
            · by_cases r4 : e < b
              · have i1 : (s : Int) < (m : Int) := by omega
                have i2 : ¬ (m : Int) < (e : Int) := by omega
                have i3 : ¬ (a : Int) < (s : Int) := by omega
                have i4 : ¬ (s : Int) < (mid : Int) := by omega
                have i5 : (mid : Int) < (e : Int) := by omega
                have i6 : (e : Int) < (b : Int) := by omega
                have HG1 : Hid (Q1 dk) := HT.out.n1 (fun h => by omega)
                go_wp2_with (first | (go_at_fn 27; refine (HT.out.c3 dk _ (HT.out.n2 dk HG1.out (fun h => by omega)) HWi.out r1 r4).mono ?_; rintro x3 w3 ⟨rfl, d3, S3, g3⟩; have HS3 := hidK S3; have HG3 := hidK g3; clear S3 g3))
                all_goals (go_end0; exact ⟨rfl, d3, HS3.out, HG3.out⟩)
              · have i1 : (s : Int) < (m : Int) := by omega
                have i2 : ¬ (m : Int) < (e : Int) := by omega
                have i3 : ¬ (a : Int) < (s : Int) := by omega
                have i4 : ¬ (s : Int) < (mid : Int) := by omega
                have i5 : (mid : Int) < (e : Int) := by omega
                have i6 : ¬ (e : Int) < (b : Int) := by omega
                have HG1 : Hid (Q1 dk) := HT.out.n1 (fun h => by omega)
                go_wp2
                all_goals (go_end0; exact ⟨rfl, dk, HWi.out, (HT.out.n3 dk (HT.out.n2 dk HG1.out (fun h => by omega)) (fun h => by omega))⟩)
        · by_cases r2 : s < mid
          · by_cases r3 : a < s
            · by_cases r4 : e < b
              · have i1 : ¬ (s : Int) < (m : Int) := by omega
                have i2 : (m : Int) < (e : Int) := by omega
                have i3 : (a : Int) < (s : Int) := by omega
                have i4 : (s : Int) < (mid : Int) := by omega
                have i5 : ¬ (mid : Int) < (e : Int) := by omega
                have i6 : (e : Int) < (b : Int) := by omega
                have HG1 : Hid (Q1 dk) := HT.out.n1 (fun h => by omega)
                go_wp2_with (first | (go_at_fn 27; refine (HT.out.c2 dk _ HG1.out HWi.out r3 r2).mono ?_; rintro x2 w2 ⟨rfl, d2, S2, g2⟩; have HS2 := hidK S2; have HG2 := hidK g2; clear S2 g2))
                all_goals (go_end0; exact ⟨rfl, d2, HS2.out, (HT.out.n3 d2 HG2.out (fun h => by omega))⟩)
              · have i1 : ¬ (s : Int) < (m : Int) := by omega
                have i2 : (m : Int) < (e : Int) := by omega
                have i3 : (a : Int) < (s : Int) := by omega
                have i4 : (s : Int) < (mid : Int) := by omega
                have i5 : ¬ (mid : Int) < (e : Int) := by omega
                have i6 : ¬ (e : Int) < (b : Int) := by omega
                have HG1 : Hid (Q1 dk) := HT.out.n1 (fun h => by omega)
                go_wp2_with (first | (go_at_fn 27; refine (HT.out.c2 dk _ HG1.out HWi.out r3 r2).mono ?_; rintro x2 w2 ⟨rfl, d2, S2, g2⟩; have HS2 := hidK S2; have HG2 := hidK g2; clear S2 g2))
                all_goals (go_end0; exact ⟨rfl, d2, HS2.out, (HT.out.n3 d2 HG2.out (fun h => by omega))⟩)
            · by_cases r4 : e < b
              · have i1 : ¬ (s : Int) < (m : Int) := by omega
                have i2 : (m : Int) < (e : Int) := by omega
                have i3 : ¬ (a : Int) < (s : Int) := by omega
                have i4 : (s : Int) < (mid : Int) := by omega
                have i5 : ¬ (mid : Int) < (e : Int) := by omega
                have i6 : (e : Int) < (b : Int) := by omega
                have HG1 : Hid (Q1 dk) := HT.out.n1 (fun h => by omega)
                go_wp2
                all_goals (go_end0; exact ⟨rfl, dk, HWi.out, (HT.out.n3 dk (HT.out.n2 dk HG1.out (fun h => by omega)) (fun h => by omega))⟩)
              · have i1 : ¬ (s : Int) < (m : Int) := by omega
                have i2 : (m : Int) < (e : Int) := by omega
                have i3 : ¬ (a : Int) < (s : Int) := by omega
                have i4 : (s : Int) < (mid : Int) := by omega
                have i5 : ¬ (mid : Int) < (e : Int) := by omega
                have i6 : ¬ (e : Int) < (b : Int) := by omega
                have HG1 : Hid (Q1 dk) := HT.out.n1 (fun h => by omega)
                go_wp2
                all_goals (go_end0; exact ⟨rfl, dk, HWi.out, (HT.out.n3 dk (HT.out.n2 dk HG1.out (fun h => by omega)) (fun h => by omega))⟩)
          · by_cases r3 : a < s
            · by_cases r4 : e < b
              · have i1 : ¬ (s : Int) < (m : Int) := by omega
                have i2 : ¬ (m : Int) < (e : Int) := by omega
                have i3 : (a : Int) < (s : Int) := by omega
                have i4 : ¬ (s : Int) < (mid : Int) := by omega
                have i5 : ¬ (mid : Int) < (e : Int) := by omega
                have i6 : (e : Int) < (b : Int) := by omega
                have HG1 : Hid (Q1 dk) := HT.out.n1 (fun h => by omega)
                go_wp2
                all_goals (go_end0; exact ⟨rfl, dk, HWi.out, (HT.out.n3 dk (HT.out.n2 dk HG1.out (fun h => by omega)) (fun h => by omega))⟩)
              · have i1 : ¬ (s : Int) < (m : Int) := by omega
                have i2 : ¬ (m : Int) < (e : Int) := by omega
                have i3 : (a : Int) < (s : Int) := by omega
                have i4 : ¬ (s : Int) < (mid : Int) := by omega
                have i5 : ¬ (mid : Int) < (e : Int) := by omega
                have i6 : ¬ (e : Int) < (b : Int) := by omega
                have HG1 : Hid (Q1 dk) := HT.out.n1 (fun h => by omega)
                go_wp2
                all_goals (go_end0; exact ⟨rfl, dk, HWi.out, (HT.out.n3 dk (HT.out.n2 dk HG1.out (fun h => by omega)) (fun h => by omega))⟩)
            · by_cases r4 : e < b
              · have i1 : ¬ (s : Int) < (m : Int) := by omega
                have i2 : ¬ (m : Int) < (e : Int) := by omega
                have i3 : ¬ (a : Int) < (s : Int) := by omega
                have i4 : ¬ (s : Int) < (mid : Int) := by omega
                have i5 : ¬ (mid : Int) < (e : Int) := by omega
                have i6 : (e : Int) < (b : Int) := by omega
                have HG1 : Hid (Q1 dk) := HT.out.n1 (fun h => by omega)
                go_wp2
                all_goals (go_end0; exact ⟨rfl, dk, HWi.out, (HT.out.n3 dk (HT.out.n2 dk HG1.out (fun h => by omega)) (fun h => by omega))⟩)
              · have i1 : ¬ (s : Int) < (m : Int) := by omega
                have i2 : ¬ (m : Int) < (e : Int) := by omega
                have i3 : ¬ (a : Int) < (s : Int) := by omega
                have i4 : ¬ (s : Int) < (mid : Int) := by omega
                have i5 : ¬ (mid : Int) < (e : Int) := by omega
                have i6 : ¬ (e : Int) < (b : Int) := by omega
                have HG1 : Hid (Q1 dk) := HT.out.n1 (fun h => by omega)
                go_wp2
                all_goals (go_end0; exact ⟨rfl, dk, HWi.out, (HT.out.n3 dk (HT.out.n2 dk HG1.out (fun h => by omega)) (fun h => by omega))⟩)
  · skip
    have qz : ¬ (mid : Int) < (m : Int) := by omega
    have qd : decide ((mid : Int) < (m : Int)) = false := decide_eq_false qz
    have hB0 : Hid (Bis (ltOf cf) dk a m p a m) := bis_start _ _ _ (by omega)
    have HQ : Aside (∀ s, Bis (ltOf cf) dk a m p s s → Bis (ltOf cf) dk (if mid < m then mid + m - b else a) (if mid < m then mid else m) (mid + m - 1) s s) := fun s h => by rw [if_neg q, if_neg q, ← hp]; exact h
    clear hp
    go_enter F, Try.ntmps27
    go_wp2
    go_loopw [20, 21] (fun vi vj wr => ∃ (s r : Nat), vi = .int .i64 s ∧ vj = .int .i64 r ∧ a ≤ s ∧ s ≤ r ∧ r ≤ m ∧ Aside (SWK enc k w0 blk off dk wr) ∧ Hid (Bis (ltOf cf) dk a m p s r)) (fun vi vj _ => (intOf vj).toNat - (intOf vi).toNat)
    case atStart => exact ⟨a, m, rfl, rfl, Nat.le_refl _, by omega, Nat.le_refl _, HW, hB0⟩
    case round =>
      obtain ⟨s, r, rfl, rfl, hls, hsr, hrh, HWi, HB⟩ := hrel
      clear HW hB0
      by_cases hlt : s < r
      · have hltz : (s : Int) < (r : Int) := by omega
        have hwh := half_wrap (i := s) (j := r) (by omega)
        obtain ⟨c, hh⟩ : ∃ h, h = (s + r) / 2 := ⟨_, rfl⟩
        rw [← hh] at hwh
        have hh2 : ((s : Int) + (r : Int)) / 2 = (c : Int) := by omega
        have hsc : s ≤ c := by omega
        have hcr : c < r := by omega
        have hz : (c : Int) < (d0.size : Int) := by omega
        have h1z : (c : Int) + 1 < 4611686018427387904 := by omega
        obtain ⟨pc, hpc⟩ : ∃ pc, pc = p - c := ⟨_, rfl⟩
        have wp : IntKind.i64.wrap ((p : Int) - (c : Int)) = (pc : Int) := by rw [IntKind.wrap_i64]; omega
        have wp3 : IntKind.i64.wrap (pc : Int) = (pc : Int) := by rw [IntKind.wrap_i64]; omega
        have wp2 : (p : Int) - (c : Int) = (pc : Int) := by omega
        have pz : (pc : Int) < (d0.size : Int) := by omega
        clear hh
        cases hL : ltOf cf dk[pc]! dk[c]! with
        | true =>
          have HBN : Hid (Bis (ltOf cf) dk a m p s c) := bis_yes HB.out hsc hcr (by rw [← hpc]; exact hL)
          obtain ⟨xh, hxh⟩ : ∃ y, y = dk[c]! := ⟨_, rfl⟩
          obtain ⟨yh, hyh⟩ : ∃ y, y = dk[pc]! := ⟨_, rfl⟩
          have l1 := HWi.out.ld HR.out hs P c (by omega)
          have l2 := HWi.out.ld HR.out hs P pc (by omega)
          rw [← hxh] at l1
          rw [← hyh] at l2
          have hc := HWi.out.cmp HC.out hs yh xh
          have hv : cf yh xh < 0 := by rw [hxh, hyh]; exact of_decide_eq_true hL
          have hd : decide (cf yh xh < 0) = true := decide_eq_true hv
          clear hxh hyh hL hpc
          go_wp2_with fail
          go_quiet_grown (first | (go_at_fn g; refine Calls.grown_of (hc _ _)))
          have S2 : Aside (SWK enc k w0 blk off dk (grow (wr.drewN nq) osq)) := HWi.out.grown nq osq
          clear l1 l2 hc HWi
          generalize grow (wr.drewN nq) osq = w2 at S2 ⊢
          clear nq osq
          go_wp2
          go_roundw
          case rel => exact ⟨s, c, rfl, rfl, hls, by omega, by omega, S2, HBN⟩
          case measure => simp [intOf]; omega
        | false =>
          have HBN : Hid (Bis (ltOf cf) dk a m p (c + 1) r) := bis_no HB.out hsc hcr (by rw [← hpc]; exact hL)
          obtain ⟨xh, hxh⟩ : ∃ y, y = dk[c]! := ⟨_, rfl⟩
          obtain ⟨yh, hyh⟩ : ∃ y, y = dk[pc]! := ⟨_, rfl⟩
          have l1 := HWi.out.ld HR.out hs P c (by omega)
          have l2 := HWi.out.ld HR.out hs P pc (by omega)
          rw [← hxh] at l1
          rw [← hyh] at l2
          have hc := HWi.out.cmp HC.out hs yh xh
          have hv : ¬ cf yh xh < 0 := by rw [hxh, hyh]; exact of_decide_eq_false hL
          have hd : decide (cf yh xh < 0) = false := decide_eq_false hv
          clear hxh hyh hL hpc
          go_wp2_with fail
          go_quiet_grown (first | (go_at_fn g; refine Calls.grown_of (hc _ _)))
          have S2 : Aside (SWK enc k w0 blk off dk (grow (wr.drewN nq) osq)) := HWi.out.grown nq osq
          clear l1 l2 hc HWi
          generalize grow (wr.drewN nq) osq = w2 at S2 ⊢
          clear nq osq
          go_wp2
          go_roundw
          case rel => exact ⟨c + 1, r, by go_num, rfl, by omega, by omega, hrh, S2, HBN⟩
          case measure => simp [intOf]; omega
      · obtain rfl : s = r := by omega
        have hltz : ¬ (s : Int) < (s : Int) := by omega
        obtain ⟨e, he⟩ : ∃ e, e = mid + m - s := ⟨_, rfl⟩
        obtain ⟨f1, f2, f3, f4, f5, f6, Q1, Q2, hT⟩ := HE.out s e he (HQ.out s HB.out)
        have HT := hidK hT
        have we : IntKind.i64.wrap ((mid : Int) + (m : Int) - (s : Int)) = (e : Int) := by rw [IntKind.wrap_i64]; omega
        have we2 : (mid : Int) + (m : Int) - (s : Int) = (e : Int) := by omega
        have hes : e + s = mid + m := by omega
        clear hT HB HQ HE HC he
        by_cases r1 : s < m
        · by_cases r2 : s < mid
          · by_cases r3 : a < s
            · by_cases r4 : e < b
              · have i1 : (s : Int) < (m : Int) := by omega
                have i2 : (m : Int) < (e : Int) := by omega
                have i3 : (a : Int) < (s : Int) := by omega
                have i4 : (s : Int) < (mid : Int) := by omega
                have i5 : (mid : Int) < (e : Int) := by omega
                have i6 : (e : Int) < (b : Int) := by omega
                go_wp2_with (first | (go_at_fn 29; refine (HT.out.c1 _ HWi.out r1 r2).mono ?_; rintro x1 w1 ⟨rfl, d1, S1, g1⟩; have HS1 := hidK S1; have HG1 := hidK g1; clear S1 g1) | (go_at_fn 27; refine (HT.out.c2 d1 _ HG1.out HS1.out r3 r2).mono ?_; rintro x2 w2 ⟨rfl, d2, S2, g2⟩; have HS2 := hidK S2; have HG2 := hidK g2; clear S2 g2) | (go_at_fn 27; refine (HT.out.c3 d2 _ HG2.out HS2.out r1 r4).mono ?_; rintro x3 w3 ⟨rfl, d3, S3, g3⟩; have HS3 := hidK S3; have HG3 := hidK g3; clear S3 g3))
                all_goals (go_end0; exact ⟨rfl, d3, HS3.out, HG3.out⟩)
              · have i1 : (s : Int) < (m : Int) := by omega
                have i2 : (m : Int) < (e : Int) := by omega
                have i3 : (a : Int) < (s : Int) := by omega
                have i4 : (s : Int) < (mid : Int) := by omega
                have i5 : (mid : Int) < (e : Int) := by omega
                have i6 : ¬ (e : Int) < (b : Int) := by omega
                go_wp2_with (first | (go_at_fn 29; refine (HT.out.c1 _ HWi.out r1 r2).mono ?_; rintro x1 w1 ⟨rfl, d1, S1, g1⟩; have HS1 := hidK S1; have HG1 := hidK g1; clear S1 g1) | (go_at_fn 27; refine (HT.out.c2 d1 _ HG1.out HS1.out r3 r2).mono ?_; rintro x2 w2 ⟨rfl, d2, S2, g2⟩; have HS2 := hidK S2; have HG2 := hidK g2; clear S2 g2))
                all_goals (go_end0; exact ⟨rfl, d2, HS2.out, (HT.out.n3 d2 HG2.out (fun h => by omega))⟩)
            · by_cases r4 : e < b
              · have i1 : (s : Int) < (m : Int) := by omega
                have i2 : (m : Int) < (e : Int) := by omega
                have i3 : ¬ (a : Int) < (s : Int) := by omega
                have i4 : (s : Int) < (mid : Int) := by omega
                have i5 : (mid : Int) < (e : Int) := by omega
                have i6 : (e : Int) < (b : Int) := by omega
                go_wp2_with (first | (go_at_fn 29; refine (HT.out.c1 _ HWi.out r1 r2).mono ?_; rintro x1 w1 ⟨rfl, d1, S1, g1⟩; have HS1 := hidK S1; have HG1 := hidK g1; clear S1 g1) | (go_at_fn 27; refine (HT.out.c3 d1 _ (HT.out.n2 d1 HG1.out (fun h => by omega)) HS1.out r1 r4).mono ?_; rintro x3 w3 ⟨rfl, d3, S3, g3⟩; have HS3 := hidK S3; have HG3 := hidK g3; clear S3 g3))
                all_goals (go_end0; exact ⟨rfl, d3, HS3.out, HG3.out⟩)
              · have i1 : (s : Int) < (m : Int) := by omega
                have i2 : (m : Int) < (e : Int) := by omega
                have i3 : ¬ (a : Int) < (s : Int) := by omega
                have i4 : (s : Int) < (mid : Int) := by omega
                have i5 : (mid : Int) < (e : Int) := by omega
                have i6 : ¬ (e : Int) < (b : Int) := by omega
                go_wp2_with (first | (go_at_fn 29; refine (HT.out.c1 _ HWi.out r1 r2).mono ?_; rintro x1 w1 ⟨rfl, d1, S1, g1⟩; have HS1 := hidK S1; have HG1 := hidK g1; clear S1 g1))
                all_goals (go_end0; exact ⟨rfl, d1, HS1.out, (HT.out.n3 d1 (HT.out.n2 d1 HG1.out (fun h => by omega)) (fun h => by omega))⟩)
          · by_cases r3 : a < s
            · by_cases r4 : e < b
              · have i1 : (s : Int) < (m : Int) := by omega
                have i2 : ¬ (m : Int) < (e : Int) := by omega
                have i3 : (a : Int) < (s : Int) := by omega
                have i4 : ¬ (s : Int) < (mid : Int) := by omega
                have i5 : (mid : Int) < (e : Int) := by omega
                have i6 : (e : Int) < (b : Int) := by omega
                have HG1 : Hid (Q1 dk) := HT.out.n1 (fun h => by omega)
                go_wp2_with (first | (go_at_fn 27; refine (HT.out.c3 dk _ (HT.out.n2 dk HG1.out (fun h => by omega)) HWi.out r1 r4).mono ?_; rintro x3 w3 ⟨rfl, d3, S3, g3⟩; have HS3 := hidK S3; have HG3 := hidK g3; clear S3 g3))
                all_goals (go_end0; exact ⟨rfl, d3, HS3.out, HG3.out⟩)
              · have i1 : (s : Int) < (m : Int) := by omega
                have i2 : ¬ (m : Int) < (e : Int) := by omega
                have i3 : (a : Int) < (s : Int) := by omega
                have i4 : ¬ (s : Int) < (mid : Int) := by omega
                have i5 : (mid : Int) < (e : Int) := by omega
                have i6 : ¬ (e : Int) < (b : Int) := by omega
                have HG1 : Hid (Q1 dk) := HT.out.n1 (fun h => by omega)
                go_wp2
                all_goals (go_end0; exact ⟨rfl, dk, HWi.out, (HT.out.n3 dk (HT.out.n2 dk HG1.out (fun h => by omega)) (fun h => by omega))⟩)
            · by_cases r4 : e < b
              · have i1 : (s : Int) < (m : Int) := by omega
                have i2 : ¬ (m : Int) < (e : Int) := by omega
                have i3 : ¬ (a : Int) < (s : Int) := by omega
                have i4 : ¬ (s : Int) < (mid : Int) := by omega
                have i5 : (mid : Int) < (e : Int) := by omega
                have i6 : (e : Int) < (b : Int) := by omega
                have HG1 : Hid (Q1 dk) := HT.out.n1 (fun h => by omega)
                go_wp2_with (first | (go_at_fn 27; refine (HT.out.c3 dk _ (HT.out.n2 dk HG1.out (fun h => by omega)) HWi.out r1 r4).mono ?_; rintro x3 w3 ⟨rfl, d3, S3, g3⟩; have HS3 := hidK S3; have HG3 := hidK g3; clear S3 g3))
                all_goals (go_end0; exact ⟨rfl, d3, HS3.out, HG3.out⟩)
              · have i1 : (s : Int) < (m : Int) := by omega
                have i2 : ¬ (m : Int) < (e : Int) := by omega
                have i3 : ¬ (a : Int) < (s : Int) := by omega
                have i4 : ¬ (s : Int) < (mid : Int) := by omega
                have i5 : (mid : Int) < (e : Int) := by omega
                have i6 : ¬ (e : Int) < (b : Int) := by omega
                have HG1 : Hid (Q1 dk) := HT.out.n1 (fun h => by omega)
                go_wp2
                all_goals (go_end0; exact ⟨rfl, dk, HWi.out, (HT.out.n3 dk (HT.out.n2 dk HG1.out (fun h => by omega)) (fun h => by omega))⟩)
        · by_cases r2 : s < mid
          · by_cases r3 : a < s
            · by_cases r4 : e < b
              · have i1 : ¬ (s : Int) < (m : Int) := by omega
                have i2 : (m : Int) < (e : Int) := by omega
                have i3 : (a : Int) < (s : Int) := by omega
                have i4 : (s : Int) < (mid : Int) := by omega
                have i5 : ¬ (mid : Int) < (e : Int) := by omega
                have i6 : (e : Int) < (b : Int) := by omega
                have HG1 : Hid (Q1 dk) := HT.out.n1 (fun h => by omega)
                go_wp2_with (first | (go_at_fn 27; refine (HT.out.c2 dk _ HG1.out HWi.out r3 r2).mono ?_; rintro x2 w2 ⟨rfl, d2, S2, g2⟩; have HS2 := hidK S2; have HG2 := hidK g2; clear S2 g2))
                all_goals (go_end0; exact ⟨rfl, d2, HS2.out, (HT.out.n3 d2 HG2.out (fun h => by omega))⟩)
              · have i1 : ¬ (s : Int) < (m : Int) := by omega
                have i2 : (m : Int) < (e : Int) := by omega
                have i3 : (a : Int) < (s : Int) := by omega
                have i4 : (s : Int) < (mid : Int) := by omega
                have i5 : ¬ (mid : Int) < (e : Int) := by omega
                have i6 : ¬ (e : Int) < (b : Int) := by omega
                have HG1 : Hid (Q1 dk) := HT.out.n1 (fun h => by omega)
                go_wp2_with (first | (go_at_fn 27; refine (HT.out.c2 dk _ HG1.out HWi.out r3 r2).mono ?_; rintro x2 w2 ⟨rfl, d2, S2, g2⟩; have HS2 := hidK S2; have HG2 := hidK g2; clear S2 g2))
                all_goals (go_end0; exact ⟨rfl, d2, HS2.out, (HT.out.n3 d2 HG2.out (fun h => by omega))⟩)
            · by_cases r4 : e < b
              · have i1 : ¬ (s : Int) < (m : Int) := by omega
                have i2 : (m : Int) < (e : Int) := by omega
                have i3 : ¬ (a : Int) < (s : Int) := by omega
                have i4 : (s : Int) < (mid : Int) := by omega
                have i5 : ¬ (mid : Int) < (e : Int) := by omega
                have i6 : (e : Int) < (b : Int) := by omega
                have HG1 : Hid (Q1 dk) := HT.out.n1 (fun h => by omega)
                go_wp2
                all_goals (go_end0; exact ⟨rfl, dk, HWi.out, (HT.out.n3 dk (HT.out.n2 dk HG1.out (fun h => by omega)) (fun h => by omega))⟩)
              · have i1 : ¬ (s : Int) < (m : Int) := by omega
                have i2 : (m : Int) < (e : Int) := by omega
                have i3 : ¬ (a : Int) < (s : Int) := by omega
                have i4 : (s : Int) < (mid : Int) := by omega
                have i5 : ¬ (mid : Int) < (e : Int) := by omega
                have i6 : ¬ (e : Int) < (b : Int) := by omega
                have HG1 : Hid (Q1 dk) := HT.out.n1 (fun h => by omega)
                go_wp2
                all_goals (go_end0; exact ⟨rfl, dk, HWi.out, (HT.out.n3 dk (HT.out.n2 dk HG1.out (fun h => by omega)) (fun h => by omega))⟩)
          · by_cases r3 : a < s
            · by_cases r4 : e < b
              · have i1 : ¬ (s : Int) < (m : Int) := by omega
                have i2 : ¬ (m : Int) < (e : Int) := by omega
                have i3 : (a : Int) < (s : Int) := by omega
                have i4 : ¬ (s : Int) < (mid : Int) := by omega
                have i5 : ¬ (mid : Int) < (e : Int) := by omega
                have i6 : (e : Int) < (b : Int) := by omega
                have HG1 : Hid (Q1 dk) := HT.out.n1 (fun h => by omega)
                go_wp2
                all_goals (go_end0; exact ⟨rfl, dk, HWi.out, (HT.out.n3 dk (HT.out.n2 dk HG1.out (fun h => by omega)) (fun h => by omega))⟩)
              · have i1 : ¬ (s : Int) < (m : Int) := by omega
                have i2 : ¬ (m : Int) < (e : Int) := by omega
                have i3 : (a : Int) < (s : Int) := by omega
                have i4 : ¬ (s : Int) < (mid : Int) := by omega
                have i5 : ¬ (mid : Int) < (e : Int) := by omega
                have i6 : ¬ (e : Int) < (b : Int) := by omega
                have HG1 : Hid (Q1 dk) := HT.out.n1 (fun h => by omega)
                go_wp2
                all_goals (go_end0; exact ⟨rfl, dk, HWi.out, (HT.out.n3 dk (HT.out.n2 dk HG1.out (fun h => by omega)) (fun h => by omega))⟩)
            · by_cases r4 : e < b
              · have i1 : ¬ (s : Int) < (m : Int) := by omega
                have i2 : ¬ (m : Int) < (e : Int) := by omega
                have i3 : ¬ (a : Int) < (s : Int) := by omega
                have i4 : ¬ (s : Int) < (mid : Int) := by omega
                have i5 : ¬ (mid : Int) < (e : Int) := by omega
                have i6 : (e : Int) < (b : Int) := by omega
                have HG1 : Hid (Q1 dk) := HT.out.n1 (fun h => by omega)
                go_wp2
                all_goals (go_end0; exact ⟨rfl, dk, HWi.out, (HT.out.n3 dk (HT.out.n2 dk HG1.out (fun h => by omega)) (fun h => by omega))⟩)
              · have i1 : ¬ (s : Int) < (m : Int) := by omega
                have i2 : ¬ (m : Int) < (e : Int) := by omega
                have i3 : ¬ (a : Int) < (s : Int) := by omega
                have i4 : ¬ (s : Int) < (mid : Int) := by omega
                have i5 : ¬ (mid : Int) < (e : Int) := by omega
                have i6 : ¬ (e : Int) < (b : Int) := by omega
                have HG1 : Hid (Q1 dk) := HT.out.n1 (fun h => by omega)
                go_wp2
                all_goals (go_end0; exact ⟨rfl, dk, HWi.out, (HT.out.n3 dk (HT.out.n2 dk HG1.out (fun h => by omega)) (fun h => by omega))⟩)
end
end Go.Proofs.Ytbmdclgndlddbaa
