
-- LinkGroup: the walk.
import Derived.Test.YtebgannhecmnmaaLZ
import Derived.Test.YtebgannhecmnmaaRF
namespace Go.Proofs.Ytebgannhecmnmaa
open Go.ChangeShapes Go.WideShapes Go.ChangeAt Go.RowKit Go.MapKept
set_option linter.unusedVariables false
set_option maxRecDepth 100000
structure BulkQ (Ls : List Lb) (s : Lk) : Prop where
  b : Bulk Ls s
  o : ∀ L ∈ Ls, LbOk L
theorem rgroup1 {v : Value} {lvs : List Lv} {Ls : List Lb} {vd vw vp : Value} {s : Lk} {w : World} (hB : Bulk Ls s) (hV : LibsAt (fun b => w.heap.size ≤ b) w v lvs Ls) (hd : RowT w vd s.d) (hw : RowT w vw s.w) (hp : RowP w vp s.p) :
    Calls Try.prog 31 #[v, .agg #[vd, vw, vp]] w fun e w' => ∃ a0 l0 c0 a1 l1 c1 a2 l2 c2, e = .returned (.agg #[.slice a0 l0 c0, .slice a1 l1 c1, .slice a2 l2 c2]) ∧ LkOwn w.heap.size w' (.slice a0 l0 c0) (.slice a1 l1 c1) (.slice a2 l2 c2) (groupN (numL Ls) s) ∧ Below w.heap.size w w' :=
  rgroup_c v lvs Ls vd vw vp s w 1048576 1048576 1048576 hV hd hw hp ⟨by have := hB.d; omega, by have := hB.w; omega⟩ (by have := hB.l; omega) hB.aok (hB.lim (by decide) (by decide)) hB.p
theorem TwK.rows {B : Nat} {w : World} {a b c : Value} {s : Lk} (h : TwK B w a b c s) : RowT w a s.d ∧ RowT w b s.w ∧ RowP w c s.p := ⟨h.d.row elT, h.wt.row elT, h.p.row elP⟩
set_option maxHeartbeats 16000000 in
theorem group_w (v : Value) (lvs : List Lv) (Ls : List Lb) (vd vw vp : Value) (s : Lk) (w : World) (hQ : BulkQ Ls s) (hV : LibsAt (fun b => w.heap.size ≤ b) w v lvs Ls) (hd : RowT w vd s.d) (hw : RowT w vw s.w) (hp : RowP w vp s.p) :
    Calls Try.prog 7 #[v, .agg #[vd, vw, vp]] w fun e w' => e = .returned (.bool true) ∧ Below w.heap.size w w' := by
  have hB := hQ.b
  obtain ⟨S, hS⟩ : ∃ S, S = Obj.cells #[vd, vw, vp] 26 := ⟨_, rfl⟩
  obtain ⟨w1, hw1⟩ : ∃ w1, w1 = w.alloc S := ⟨_, rfl⟩
  have hb1 : Below w.heap.size w w1 := by rw [hw1]; exact (Below.refl _ w).alloc (Nat.le_refl _) S
  have hx0 : w1.heap[w.heap.size]? = some (.cells #[vd, vw, vp] 26 (0, 0)) := by rw [hw1, heap_alloc_new, hS]
  have hup : ∀ W, Below w1.heap.size w1 W → LibsAt (fun b => W.heap.size ≤ b) W v lvs Ls := fun W hb => (hV.kp (Kp.of_below (hb1.trans (hb.mono hb1.size)))).weak (fun b _ hh => Nat.le_trans (Nat.le_trans hb1.size hb.size) hh)
  have HUP := hidK hup
  have HRW : Hid (∀ W, Below w1.heap.size w1 W → RowT W vd s.d ∧ RowT W vw s.w ∧ RowP W vp s.p) := fun W hb => ⟨(hd.on hb1).on hb, (hw.on hb1).on hb, (hp.on hb1).on hb⟩
  have HX0 := hidK hx0
  have HB1 := hidK hb1
  have HBK := hidK hB
  have HOK := hidK hQ.o
  have HSZ := hidK hB.siz
  have HLI := hidK (libraries_c v lvs Ls w1 (hup w1 (Below.refl _ _)) hB.l hQ.o)
  clear hQ hB hV hd hw hp hb1 hx0 hup
  subst hS
  go_enter Try.func7, Try.ntmps7
  go_upto_region 1 with fail
  rw [← hw1]
  clear hw1
  go_upto_region 2 with (go_at_call 30; refine HLI.out.mono ?_; rintro e w2 ⟨ai, li, ci, lus, rfl, q1, q2⟩; have HT2 := hidK q1; have HB2 := hidK q2; clear q1 q2)
  obtain ⟨y0, y1, y2⟩ := lk_cells (hkeepK HB2.out HX0.out)
  have HST := hidK (state_c vd vw vp s w2 (HRW.out _ HB2.out).1 (HRW.out _ HB2.out).2.1 (HRW.out _ HB2.out).2.2 (by have := HBK.out.d; omega) (by have := HBK.out.w; omega) (by have := HBK.out.p; omega))
  go_upto_region 3 with (go_at_call 22; refine HST.out.mono ?_; rintro e w3 ⟨a0, l0, c0, a1, l1, c1, a2, l2, c2, rfl, q1, q2⟩; have HK3 := hidK q1; have HB3 := hidK q2; clear q1 q2)
  clear y0 y1 y2 HLI HST
  obtain ⟨w4, hw4⟩ : ∃ w4, w4 = w3.alloc (.cells #[.slice a0 l0 c0, .slice a1 l1 c1, .slice a2 l2 c2] 26) := ⟨_, rfl⟩
  have hb4 : Below w3.heap.size w3 w4 := by rw [hw4]; exact (Below.refl _ _).alloc (Nat.le_refl _) _
  have hg4 : w4.heap[w3.heap.size]? = some (.cells #[.slice a0 l0 c0, .slice a1 l1 c1, .slice a2 l2 c2] 26 (0, 0)) := by rw [hw4]; exact heap_alloc_new _ _
  rw [← hw4]
  have HG4 := hidK hg4
  have HK4 := hidK (HK3.out.on hb4)
  have HT4 := hidK ((HT2.out.on HB3.out).on hb4)
  have HW4 : Hid (Below w1.heap.size w1 w4) := by
    have h3 := HB2.out.trans (HB3.out.mono HB2.out.size)
    exact h3.trans (hb4.mono h3.size)
  clear hw4 hb4 hg4 HT2 HB2 HK3 HB3
  obtain ⟨y0, y1, y2⟩ := lk_cells HG4.out
  have HG1 := hidK (group1 HBK.out (HT4.out.libs (fun b hb => hb)) HK4.out.rows.1 HK4.out.rows.2.1 HK4.out.rows.2.2)
  go_upto_region 4 with (go_at_call 9; refine HG1.out.mono ?_; rintro e w5 ⟨d0, m0, e0, d1, m1, e1, d2, m2, e2, rfl, q1, q2⟩; have HO5 := hidK q1; have HB5 := hidK q2; clear q1 q2)
  clear y0 y1 y2 HG1
  obtain ⟨w6, hw6⟩ : ∃ w6, w6 = w5.alloc (.cells #[.slice d0 m0 e0, .slice d1 m1 e1, .slice d2 m2 e2] 26) := ⟨_, rfl⟩
  have hb6 : Below w5.heap.size w5 w6 := by rw [hw6]; exact (Below.refl _ _).alloc (Nat.le_refl _) _
  have hg6 : w6.heap[w5.heap.size]? = some (.cells #[.slice d0 m0 e0, .slice d1 m1 e1, .slice d2 m2 e2] 26 (0, 0)) := by rw [hw6]; exact heap_alloc_new _ _
  rw [← hw6]
  have HB46 : Hid (Below w4.heap.size w4 w6) := bel3K HB5.out hb6
  have HG6 := hidK hg6
  have HO6 := hidK (HO5.out.on hb6)
  have HW6 : Hid (Below w1.heap.size w1 w6) := HW4.out.trans (HB46.out.mono HW4.out.size)
  clear hw6 hb6 hg6 HO5 HB5
  obtain ⟨y0, y1, y2⟩ := lk_cells (hkeepK HW6.out HX0.out)
  have HG2 := hidK (rgroup1 HBK.out (HUP.out _ HW6.out) (HRW.out _ HW6.out).1 (HRW.out _ HW6.out).2.1 (HRW.out _ HW6.out).2.2)
  go_upto_region 5 with (go_at_call 31; refine HG2.out.mono ?_; rintro e w7 ⟨f0, n0, h0, f1, n1, h1, f2, n2, h2, rfl, q1, q2⟩; have HO7 := hidK q1; have HB7 := hidK q2; clear q1 q2)
  clear y0 y1 y2 HG2
  obtain ⟨w8, hw8⟩ : ∃ w8, w8 = w7.alloc (.cells #[.slice f0 n0 h0, .slice f1 n1 h1, .slice f2 n2 h2] 26) := ⟨_, rfl⟩
  have hb8 : Below w7.heap.size w7 w8 := by rw [hw8]; exact (Below.refl _ _).alloc (Nat.le_refl _) _
  have hg8 : w8.heap[w7.heap.size]? = some (.cells #[.slice f0 n0 h0, .slice f1 n1 h1, .slice f2 n2 h2] 26 (0, 0)) := by rw [hw8]; exact heap_alloc_new _ _
  rw [← hw8]
  have HB68 : Hid (Below w6.heap.size w6 w8) := bel3K HB7.out hb8
  have HW8 : Hid (Below w1.heap.size w1 w8) := HW6.out.trans (HB68.out.mono HW6.out.size)
  have HB48 : Hid (Below w4.heap.size w4 w8) := HB46.out.trans (HB68.out.mono HB46.out.size)
  have HO8 := hidK (HO7.out.on hb8)
  have HG8 := hidK hg8
  -- what is told of every world from here on
  have HALL : Hid (∀ W, Below w8.heap.size w8 W → LibsTw w1.heap.size W (.slice ai li ci) lus Ls ∧ LibsAt (fun b => W.heap.size ≤ b) W v lvs Ls ∧ TwK w2.heap.size W (.slice a0 l0 c0) (.slice a1 l1 c1) (.slice a2 l2 c2) s ∧ (RowT W vd s.d ∧ RowT W vw s.w ∧ RowP W vp s.p) ∧ W.heap[w.heap.size]? = some (.cells #[vd, vw, vp] 26 (0, 0)) ∧ W.heap[w3.heap.size]? = some (.cells #[.slice a0 l0 c0, .slice a1 l1 c1, .slice a2 l2 c2] 26 (0, 0)) ∧ W.heap[w5.heap.size]? = some (.cells #[.slice d0 m0 e0, .slice d1 m1 e1, .slice d2 m2 e2] 26 (0, 0)) ∧ W.heap[w7.heap.size]? = some (.cells #[.slice f0 n0 h0, .slice f1 n1 h1, .slice f2 n2 h2] 26 (0, 0))) := fun W hb => by
    have h1 := HW8.out.trans (hb.mono HW8.out.size)
    have h4 := HB48.out.trans (hb.mono HB48.out.size)
    have h6 := HB68.out.trans (hb.mono HB68.out.size)
    exact ⟨HT4.out.on h4, HUP.out W h1, HK4.out.on h4, HRW.out W h1, hkeepK h1 HX0.out, hkeepK h4 HG4.out, hkeepK h6 HG6.out, hkeepK hb HG8.out⟩
  clear hw8 hb8 hg8 HO7 HB7
  have HSL : Hid (Calls Try.prog 32 #[.slice ai li ci, v] w8 fun e w' => e = .returned (.bool true) ∧ Below w8.heap.size w8 w') := by
    obtain ⟨k1, k2, _⟩ := HALL.out w8 (Below.refl _ _)
    exact sameLibraries_c _ _ lus lvs Ls w8 (fun b => w8.heap.size ≤ b) (k1.libs (fun b hb => hb)) k2 HBK.out.l HOK.out
  have HSS : Hid (∀ W, Below w8.heap.size w8 W → Calls Try.prog 16 #[.agg #[.slice a0 l0 c0, .slice a1 l1 c1, .slice a2 l2 c2], .agg #[vd, vw, vp]] W fun e w' => e = .returned (.bool true) ∧ Below w8.heap.size w8 w') := fun W hb => by
    obtain ⟨_, _, k3, k4, _⟩ := HALL.out W hb
    exact (sameState_c _ _ _ _ _ _ s W k3.rows.1 k3.rows.2.1 k3.rows.2.2 k4.1 k4.2.1 k4.2.2 (by have := HBK.out.d; omega) (by have := HBK.out.w; omega) (by have := HBK.out.p; omega)).mono (by
      rintro e w' ⟨q1, q2⟩
      exact ⟨q1, bel3K hb q2⟩)
  have HSP : Hid (∀ W, Below w8.heap.size w8 W → Calls Try.prog 28 #[.agg #[.slice a0 l0 c0, .slice a1 l1 c1, .slice a2 l2 c2]] W fun e w' => e = .returned (.bool true) ∧ Below w8.heap.size w8 w') := fun W hb => by
    obtain ⟨_, _, k3, _⟩ := HALL.out W hb
    exact (spare_c _ _ _ s _ W k3).mono (by
      rintro e w' ⟨q1, q2⟩
      exact ⟨q1, bel3K hb q2⟩)
  have HSE : Hid (∀ W, Below w8.heap.size w8 W → Calls Try.prog 16 #[.agg #[.slice d0 m0 e0, .slice d1 m1 e1, .slice d2 m2 e2], .agg #[.slice f0 n0 h0, .slice f1 n1 h1, .slice f2 n2 h2]] W fun e w' => e = .returned (.bool true) ∧ Below w8.heap.size w8 w') := fun W hb => by
    have ho := (HO6.out.on HB68.out).on hb
    have hr := HO8.out.on hb
    have hz := HSZ.out
    exact (sameState_c _ _ _ _ _ _ (groupN (numL Ls) s) W (OwnF.row elT ho.d) (OwnF.row elT ho.wt) (OwnF.row elP ho.p) (OwnF.row elT hr.d) (OwnF.row elT hr.wt) (OwnF.row elP hr.p) (by omega) (by omega) (by omega)).mono (by
      rintro e w' ⟨q1, q2⟩
      exact ⟨q1, bel3K hb q2⟩)
  go_upto_region 6 with (first
    | (go_at_call 32; refine HSL.out.mono ?_; rintro e w9 ⟨rfl, q1⟩; obtain ⟨_, _, _, _, g1, g2, _, _⟩ := HALL.out _ q1; obtain ⟨x0, x1, x2⟩ := lk_cells g1; obtain ⟨z0, z1, z2⟩ := lk_cells g2; have HB9 := hidK q1; clear q1 g1 g2)
    | (go_at_call 16; refine (HSS.out _ HB9.out).mono ?_; rintro e wA ⟨rfl, q1⟩; obtain ⟨_, _, _, _, _, g2, _, _⟩ := HALL.out _ q1; obtain ⟨u0, u1, u2⟩ := lk_cells g2; have HBA := hidK q1; clear q1 g2)
    | (go_at_call 28; refine (HSP.out _ HBA.out).mono ?_; rintro e wB ⟨rfl, q1⟩; have HBB := hidK q1; clear q1))
  clear x0 x1 x2 z0 z1 z2 u0 u1 u2 HSL HSS HSP
  obtain ⟨_, _, _, _, _, _, g3, g4⟩ := HALL.out _ HBB.out
  obtain ⟨x0, x1, x2⟩ := lk_cells g3
  obtain ⟨z0, z1, z2⟩ := lk_cells g4
  have HF := hidK (HSE.out _ HBB.out)
  clear g3 g4
  go_wp2_with (go_at_call 16; refine HF.out.mono ?_; rintro e wC ⟨rfl, q1⟩; have HBC := hidK q1; clear q1)
  go_ret
  have h1 := HW8.out.trans (HBC.out.mono HW8.out.size)
  exact ⟨rfl, HB1.out.trans (h1.mono HB1.out.size)⟩
end Go.Proofs.Ytebgannhecmnmaa
