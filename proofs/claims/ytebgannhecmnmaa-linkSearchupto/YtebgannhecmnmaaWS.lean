
-- LinkSearch: the walk.
import Derived.Test.YtebgannhecmnmaaRM
import Derived.Test.YtebgannhecmnmaaWX
import Derived.Test.YtebgannhecmnmaaWK
namespace Go.Proofs.Ytebgannhecmnmaa
open Go.ChangeShapes Go.WideShapes Go.ChangeAt Go.RowKit Go.MapKept
set_option linter.unusedVariables false
set_option maxRecDepth 100000
theorem sizePl : (Try.prog.info? 30).map (·.size) = some 2 := by kernel_rfl
/-- what comes in is small -/
structure BulkS (L : Lb) (s : Lk) : Prop where
  o : LbOk L
  p : L.a.length + s.p.length ≤ 1048576
  d : s.d.length ≤ 1048576
  w : s.w.length ≤ 1048576
theorem BulkS.lim {L : Lb} {s : Lk} (h : BulkS L s) (num : Int) : Lim 1048576 1048576 1048576 [(num, L)] :=
  ⟨fun x hx => by rw [List.mem_singleton.1 hx]; exact ⟨h.o.f, h.o.g⟩, fun x hx => by rw [List.mem_singleton.1 hx]; exact Nat.le_trans h.o.e (by decide), by decide, by decide⟩
theorem BulkS.siz {L : Lb} {s : Lk} (h : BulkS L s) (num : Int) : (srchN L num s).p.length ≤ 1048576 ∧ (srchN L num s).d.length ≤ 1099512676352 ∧ (srchN L num s).w.length ≤ 1099512676352 := by
  have g := (srch_goes (Ls := [(num, L)]) (L := L) (num := num) (by simp) s).mu
  have m := mu_le [(num, L)] s
  have g3 : sizesN [(num, L)] = L.a.length := by simp [sizesN]
  have hp := h.p
  have hs : Siz 1048576 1048576 (srchN L num s) := srch_siz ⟨h.o.f, h.o.g⟩ ⟨by have := h.d; omega, by have := h.w; omega⟩
  have hl : (srchN L num s).p.length ≤ 1048576 := by omega
  obtain ⟨h1, h2⟩ := hs
  omega
theorem srch1 {L : Lb} {num : Int} {v0 v1 v2 v3 v4 vd vw vp : Value} {s : Lk} {w : World} (hB : BulkS L s) (hV : LibAt (fun b => w.heap.size ≤ b) w v0 v1 v2 v3 v4 L) (hd : RowT w vd s.d) (hw : RowT w vw s.w) (hp : RowP w vp s.p) :
    Calls Try.prog 23 #[.agg #[v0, v1, v2, v3, v4], .int .i64 num, .agg #[vd, vw, vp]] w fun e w' => ∃ a0 l0 c0 a1 l1 c1 a2 l2 c2, e = .returned (.agg #[.slice a0 l0 c0, .slice a1 l1 c1, .slice a2 l2 c2]) ∧ LkOwn w.heap.size w' (.slice a0 l0 c0) (.slice a1 l1 c1) (.slice a2 l2 c2) (srchN L num s) ∧ Below w.heap.size w w' :=
  searchL_c _ _ _ _ _ L num _ _ _ s w 1048576 1048576 1048576 hV hd hw hp hB.d hB.w (by have := hB.o.a; omega) (hB.lim num) hB.p
theorem rsrch1 {L : Lb} {num : Int} {v0 v1 v2 v3 v4 vd vw vp : Value} {s : Lk} {w : World} (hB : BulkS L s) (hV : LibAt (fun b => w.heap.size ≤ b) w v0 v1 v2 v3 v4 L) (hd : RowT w vd s.d) (hw : RowT w vw s.w) (hp : RowP w vp s.p) :
    Calls Try.prog 24 #[.agg #[v0, v1, v2, v3, v4], .int .i64 num, .agg #[vd, vw, vp]] w fun e w' => ∃ a0 l0 c0 a1 l1 c1 a2 l2 c2, e = .returned (.agg #[.slice a0 l0 c0, .slice a1 l1 c1, .slice a2 l2 c2]) ∧ LkOwn w.heap.size w' (.slice a0 l0 c0) (.slice a1 l1 c1) (.slice a2 l2 c2) (srchN L num s) ∧ Below w.heap.size w w' :=
  rsearch_c _ _ _ _ _ L num _ _ _ s w 1048576 1048576 1048576 hV hd hw hp ⟨by have := hB.d; omega, by have := hB.w; omega⟩ (by have := hB.o.a; omega) (hB.lim num) (by
    have g2 := mu_le [(num, L)] s
    have g3 : sizesN [(num, L)] = L.a.length := by simp [sizesN]
    have := hB.p
    omega)
set_option maxHeartbeats 16000000 in
theorem search_w (v0 v1 v2 v3 v4 : Value) (L : Lb) (num : Int) (vd vw vp : Value) (s : Lk) (w : World) (hB : BulkS L s) (hV : LibAt (fun b => w.heap.size ≤ b) w v0 v1 v2 v3 v4 L) (hd : RowT w vd s.d) (hw : RowT w vw s.w) (hp : RowP w vp s.p) :
    Calls Try.prog 6 #[.agg #[v0, v1, v2, v3, v4], .int .i64 num, .agg #[vd, vw, vp]] w fun e w' => e = .returned (.bool true) ∧ Below w.heap.size w w' := by
  obtain ⟨X, hX⟩ : ∃ X, X = Obj.cells #[v0, v1, v2, v3, v4] 37 := ⟨_, rfl⟩
  obtain ⟨S, hS⟩ : ∃ S, S = Obj.cells #[vd, vw, vp] 26 := ⟨_, rfl⟩
  obtain ⟨w1, hw1⟩ : ∃ w1, w1 = (w.alloc X).alloc S := ⟨_, rfl⟩
  have hb1 : Below w.heap.size w w1 := by rw [hw1]; exact ((Below.refl _ w).alloc (Nat.le_refl _) X).alloc (by simp) S
  have hl0 : w1.heap[w.heap.size]? = some (.cells #[v0, v1, v2, v3, v4] 37 (0, 0)) := by rw [hw1]; exact hupK (by rw [heap_alloc_new, hX]) S
  have hx0 : w1.heap[w.heap.size + 1]? = some (.cells #[vd, vw, vp] 26 (0, 0)) := by rw [hw1, heap_new2K, hS]
  have hup : ∀ W, Below w1.heap.size w1 W → LibAt (fun b => W.heap.size ≤ b) W v0 v1 v2 v3 v4 L := fun W hb => (hV.kp (Kp.of_below (hb1.trans (hb.mono hb1.size)))).weak (fun b _ hh => Nat.le_trans (Nat.le_trans hb1.size hb.size) hh)
  have HUP := hidK hup
  have HRW : Hid (∀ W, Below w1.heap.size w1 W → RowT W vd s.d ∧ RowT W vw s.w ∧ RowP W vp s.p) := fun W hb => ⟨(hd.on hb1).on hb, (hw.on hb1).on hb, (hp.on hb1).on hb⟩
  have HL0 := hidK hl0
  have HX0 := hidK hx0
  have HB1 := hidK hb1
  have HBK := hidK hB
  have HSZ := hidK (hB.siz num)
  have HLI := hidK (library_c v0 v1 v2 v3 v4 L w1 (hup w1 (Below.refl _ _)) hB.o)
  obtain ⟨y0, y1, y2, y3, y4⟩ := lib_cells hl0
  clear hB hV hd hw hp hb1 hx0 hup hl0
  subst hS hX
  go_enter Try.func6, Try.ntmps6
  go_upto_region 1 with fail
  rw [← hw1]
  clear hw1
  go_upto_region 2 with (go_at_call 21; refine HLI.out.mono ?_; rintro e w2 ⟨a5, l5, c5, a6, l6, c6, a7, l7, c7, a8, l8, c8, a9, l9, c9, rfl, q1, q2⟩; have HT2 := hidK q1; have HB2 := hidK q2; clear q1 q2)
  clear y0 y1 y2 y3 y4 HLI
  obtain ⟨w3, hw3⟩ : ∃ w3, w3 = w2.alloc (.cells #[.slice a5 l5 c5, .slice a6 l6 c6, .slice a7 l7 c7, .slice a8 l8 c8, .slice a9 l9 c9] 37) := ⟨_, rfl⟩
  have hb3 : Below w2.heap.size w2 w3 := by rw [hw3]; exact (Below.refl _ _).alloc (Nat.le_refl _) _
  have hg3 : w3.heap[w2.heap.size]? = some (.cells #[.slice a5 l5 c5, .slice a6 l6 c6, .slice a7 l7 c7, .slice a8 l8 c8, .slice a9 l9 c9] 37 (0, 0)) := by rw [hw3]; exact heap_alloc_new _ _
  rw [← hw3]
  have HG3 := hidK hg3
  have HT3 := hidK (HT2.out.on hb3)
  have HW3 : Hid (Below w1.heap.size w1 w3) := HB2.out.trans (hb3.mono HB2.out.size)
  clear hw3 hb3 hg3 HT2 HB2
  obtain ⟨y0, y1, y2⟩ := lk_cells (hkeepK HW3.out HX0.out)
  have HST := hidK (state_c vd vw vp s w3 (HRW.out _ HW3.out).1 (HRW.out _ HW3.out).2.1 (HRW.out _ HW3.out).2.2 (by have := HBK.out.d; omega) (by have := HBK.out.w; omega) (by have := HBK.out.p; omega))
  go_upto_region 3 with (go_at_call 22; refine HST.out.mono ?_; rintro e w4 ⟨a0, l0, c0, a1, l1, c1, a2, l2, c2, rfl, q1, q2⟩; have HK4 := hidK q1; have HB4 := hidK q2; clear q1 q2)
  clear y0 y1 y2 HST
  obtain ⟨w5, hw5⟩ : ∃ w5, w5 = w4.alloc (.cells #[.slice a0 l0 c0, .slice a1 l1 c1, .slice a2 l2 c2] 26) := ⟨_, rfl⟩
  have hb5 : Below w4.heap.size w4 w5 := by rw [hw5]; exact (Below.refl _ _).alloc (Nat.le_refl _) _
  have hg5 : w5.heap[w4.heap.size]? = some (.cells #[.slice a0 l0 c0, .slice a1 l1 c1, .slice a2 l2 c2] 26 (0, 0)) := by rw [hw5]; exact heap_alloc_new _ _
  rw [← hw5]
  have HG5 := hidK hg5
  have HK5 := hidK (HK4.out.on hb5)
  have HT5 := hidK ((HT3.out.on HB4.out).on hb5)
  have HL5 := hidK (hkeepK hb5 (hkeepK HB4.out HG3.out))
  have HW5 : Hid (Below w1.heap.size w1 w5) := by
    have h4 := HW3.out.trans (HB4.out.mono HW3.out.size)
    exact h4.trans (hb5.mono h4.size)
  clear hw5 hb5 hg5 HT3 HK4 HB4 HG3
  -- all that stands below
  have HLOW : Hid (∀ W, Below w5.heap.size w5 W → LbTw w1.heap.size W (.slice a5 l5 c5) (.slice a6 l6 c6) (.slice a7 l7 c7) (.slice a8 l8 c8) (.slice a9 l9 c9) L ∧ TwK w3.heap.size W (.slice a0 l0 c0) (.slice a1 l1 c1) (.slice a2 l2 c2) s ∧ LibAt (fun b => W.heap.size ≤ b) W v0 v1 v2 v3 v4 L ∧ (RowT W vd s.d ∧ RowT W vw s.w ∧ RowP W vp s.p) ∧ W.heap[w.heap.size]? = some (.cells #[v0, v1, v2, v3, v4] 37 (0, 0)) ∧ W.heap[w.heap.size + 1]? = some (.cells #[vd, vw, vp] 26 (0, 0)) ∧ W.heap[w2.heap.size]? = some (.cells #[.slice a5 l5 c5, .slice a6 l6 c6, .slice a7 l7 c7, .slice a8 l8 c8, .slice a9 l9 c9] 37 (0, 0)) ∧ W.heap[w4.heap.size]? = some (.cells #[.slice a0 l0 c0, .slice a1 l1 c1, .slice a2 l2 c2] 26 (0, 0))) := fun W hb => by
    have h1 := HW5.out.trans (hb.mono HW5.out.size)
    exact ⟨HT5.out.on hb, HK5.out.on hb, HUP.out W h1, HRW.out W h1, hkeepK h1 HL0.out, hkeepK h1 HX0.out, hkeepK hb HL5.out, hkeepK hb HG5.out⟩
  have HSE : Hid (∀ W, Below w5.heap.size w5 W → Calls Try.prog 23 #[.agg #[.slice a5 l5 c5, .slice a6 l6 c6, .slice a7 l7 c7, .slice a8 l8 c8, .slice a9 l9 c9], .int .i64 num, .agg #[.slice a0 l0 c0, .slice a1 l1 c1, .slice a2 l2 c2]] W fun e w' => ∃ a0 l0 c0 a1 l1 c1 a2 l2 c2, e = .returned (.agg #[.slice a0 l0 c0, .slice a1 l1 c1, .slice a2 l2 c2]) ∧ LkOwn W.heap.size w' (.slice a0 l0 c0) (.slice a1 l1 c1) (.slice a2 l2 c2) (srchN L num s) ∧ Below W.heap.size W w') := fun W hb => by
    obtain ⟨k1, k2, _⟩ := HLOW.out W hb
    exact srch1 HBK.out (k1.lib (fun b hb => hb)) k2.rows.1 k2.rows.2.1 k2.rows.2.2
  obtain ⟨y0, y1, y2, y3, y4⟩ := lib_cells HL5.out
  obtain ⟨z0, z1, z2⟩ := lk_cells HG5.out
  go_upto_region 4 with (go_at_call 23; refine (HSE.out _ (Below.refl _ _)).mono ?_; rintro e w6 ⟨d0, m0, e0, d1, m1, e1, d2, m2, e2, rfl, q1, q2⟩; have HO6 := hidK q1; have HB6 := hidK q2; clear q1 q2)
  clear y0 y1 y2 y3 y4 z0 z1 z2
  obtain ⟨w7, hw7⟩ : ∃ w7, w7 = w6.alloc (.cells #[.slice d0 m0 e0, .slice d1 m1 e1, .slice d2 m2 e2] 26) := ⟨_, rfl⟩
  have hb7 : Below w6.heap.size w6 w7 := by rw [hw7]; exact (Below.refl _ _).alloc (Nat.le_refl _) _
  have hg7 : w7.heap[w6.heap.size]? = some (.cells #[.slice d0 m0 e0, .slice d1 m1 e1, .slice d2 m2 e2] 26 (0, 0)) := by rw [hw7]; exact heap_alloc_new _ _
  rw [← hw7]
  have HG7 := hidK hg7
  have HO7 := hidK (HO6.out.on hb7)
  have HW7 : Hid (Below w5.heap.size w5 w7) := bel3K HB6.out hb7
  have HS7 : Hid (w7.heap.size = w6.heap.size + 1) := by rw [hw7]; exact World.size_alloc _ _
  have HRG : Hid (∀ b, ((Value.slice d0 m0 e0).ownBlock = some b ∨ (Value.slice d1 m1 e1).ownBlock = some b ∨ (Value.slice d2 m2 e2).ownBlock = some b) → w5.heap.size ≤ b ∧ b < w6.heap.size) := fun b hb => by
    rcases hb with h | h | h
    · exact ⟨HO6.out.d.2 b h, HO6.out.d.lt b h⟩
    · exact ⟨HO6.out.wt.2 b h, HO6.out.wt.lt b h⟩
    · exact ⟨HO6.out.p.2 b h, HO6.out.p.lt b h⟩
  clear hw7 hb7 hg7 HO6
  obtain ⟨kA, kB, kC, kD, kE, kF, kG, kH⟩ := HLOW.out _ HW7.out
  obtain ⟨y0, y1, y2, y3, y4⟩ := lib_cells kE
  obtain ⟨z0, z1, z2⟩ := lk_cells kF
  have HRS := hidK (rsrch1 (num := num) HBK.out kC kD.1 kD.2.1 kD.2.2)
  clear kA kB kC kD kE kF kG kH
  go_upto_region 5 with (go_at_call 24; refine HRS.out.mono ?_; rintro e w8 ⟨f0, n0, h0, f1, n1, h1, f2, n2, h2, rfl, q1, q2⟩; have HO8 := hidK q1; have HB8 := hidK q2; clear q1 q2)
  clear y0 y1 y2 y3 y4 z0 z1 z2 HRS
  obtain ⟨w9, hw9⟩ : ∃ w9, w9 = w8.alloc (.cells #[.slice f0 n0 h0, .slice f1 n1 h1, .slice f2 n2 h2] 26) := ⟨_, rfl⟩
  have hb9 : Below w8.heap.size w8 w9 := by rw [hw9]; exact (Below.refl _ _).alloc (Nat.le_refl _) _
  have hg9 : w9.heap[w8.heap.size]? = some (.cells #[.slice f0 n0 h0, .slice f1 n1 h1, .slice f2 n2 h2] 26 (0, 0)) := by rw [hw9]; exact heap_alloc_new _ _
  rw [← hw9]
  have HG9 := hidK hg9
  have HO9 := hidK (HO8.out.on hb9)
  have HB79 : Hid (Below w7.heap.size w7 w9) := bel3K HB8.out hb9
  have HX9 := hidK (HO7.out.on HB79.out)
  have HG79 := hidK (hkeepK HB79.out HG7.out)
  have HW9 : Hid (Below w5.heap.size w5 w9) := HW7.out.trans (HB79.out.mono HW7.out.size)
  have HB9S : Hid (w7.heap.size ≤ w8.heap.size) := HB8.out.size
  clear hw9 hb9 hg9 HO8 HB8 HO7 HG7
  -- what may turn from here on: the blocks of the answer's rows
  obtain ⟨G, hGd⟩ : ∃ G : Nat → Prop, G = fun b => (Value.slice d0 m0 e0).ownBlock = some b ∨ (Value.slice d1 m1 e1).ownBlock = some b ∨ (Value.slice d2 m2 e2).ownBlock = some b := ⟨_, rfl⟩
  have HGR : Hid (∀ b, G b → w5.heap.size ≤ b ∧ b < w6.heap.size) := fun b hb => by rw [hGd] at hb; exact HRG.out b hb
  have HGI : Hid ((∀ b, (Value.slice d0 m0 e0).ownBlock = some b → G b) ∧ (∀ b, (Value.slice d1 m1 e1).ownBlock = some b → G b) ∧ ∀ b, (Value.slice d2 m2 e2).ownBlock = some b → G b) := by
    rw [hGd]
    exact ⟨fun b h => .inl h, fun b h => .inr (.inl h), fun b h => .inr (.inr h)⟩
  have HALL : Hid (∀ W, Kp G w9 W → Below w5.heap.size w5 W ∧ W.heap[w6.heap.size]? = some (.cells #[.slice d0 m0 e0, .slice d1 m1 e1, .slice d2 m2 e2] 26 (0, 0)) ∧ W.heap[w8.heap.size]? = some (.cells #[.slice f0 n0 h0, .slice f1 n1 h1, .slice f2 n2 h2] 26 (0, 0)) ∧ LkOwn w7.heap.size W (.slice f0 n0 h0) (.slice f1 n1 h1) (.slice f2 n2 h2) (srchN L num s)) := fun W hk => by
    have hs7 := HS7.out
    have hge : ∀ b, w7.heap.size ≤ b → ¬ G b := fun b h1 h2 => by have := (HGR.out b h2).2; omega
    refine ⟨HW9.out.trans (hk.below (fun b hb => (HGR.out b hb).1) HW9.out.size), (hk.block _ (Array.getElem?_eq_some_iff.1 HG79.out).1 (fun h => by have := (HGR.out _ h).2; omega)).trans HG79.out, (hk.block _ (Array.getElem?_eq_some_iff.1 HG9.out).1 (fun h => by
      have h1 := (HGR.out _ h).2
      have h2 := HB79.out.size
      have h3 := (Array.getElem?_eq_some_iff.1 HG79.out).1
      have h4 := HB9S.out
      omega)).trans HG9.out, ⟨HO9.out.d.kp hk (fun g hg => hge g (HO9.out.d.2 g hg)), HO9.out.wt.kp hk (fun g hg => hge g (HO9.out.wt.2 g hg)), HO9.out.p.kp hk (fun g hg => hge g (HO9.out.p.2 g hg)), HO9.out.n⟩⟩
  have hsz := HSZ.out
  have HMM : Hid ((srchN L num s).d.length = m0 ∧ (srchN L num s).w.length = m1 ∧ (srchN L num s).p.length = m2) := by
    obtain ⟨a, c, e, _⟩ := HX9.out.d.form
    obtain ⟨a', c', e', _⟩ := HX9.out.wt.form
    obtain ⟨a'', c'', e'', _⟩ := HX9.out.p.form
    injection e with _ e _
    injection e' with _ e' _
    injection e'' with _ e'' _
    exact ⟨e.symm, e'.symm, e''.symm⟩
  have hm0 : m0 ≤ 1099512676352 := by rw [← HMM.out.1]; exact hsz.2.1
  have hm1 : m1 ≤ 1099512676352 := by rw [← HMM.out.2.1]; exact hsz.2.2
  have hm2 : m2 ≤ 1048576 := by rw [← HMM.out.2.2]; exact hsz.1
  have HSS := hidK (sameState_c _ _ _ _ _ _ (srchN L num s) w9 (OwnF.row elT HX9.out.d) (OwnF.row elT HX9.out.wt) (OwnF.row elP HX9.out.p) (OwnF.row elT HO9.out.d) (OwnF.row elT HO9.out.wt) (OwnF.row elP HO9.out.p) (by omega) (by omega) (by omega))
  obtain ⟨y0, y1, y2⟩ := lk_cells HG79.out
  obtain ⟨z0, z1, z2⟩ := lk_cells HG9.out
  clear hsz hGd HRG
  go_upto_region 8 with (go_at_call 16; refine HSS.out.mono ?_; rintro e wa ⟨rfl, q1⟩; have HBa := hidK q1; clear q1)
  clear y0 y1 y2 z0 z1 z2 HSS
  have HXa := hidK (HX9.out.on HBa.out)
  have HKa : Hid (Kp G w9 wa) := Kp.of_below HBa.out
  obtain ⟨y0, y1, y2⟩ := lk_cells (HALL.out _ HKa.out).2.1
  have HFD := hidK (fill_c (fun b => w5.heap.size ≤ b) (.slice d0 m0 e0) (srchN L num s).d ⟨#[47, 49]⟩ wa HXa.out.d (by have := HMM.out.1; omega))
  go_upto_region 9 with (go_at_call 25; refine HFD.out.mono ?_; rintro e wb ⟨rfl, q1, q2⟩; have HMb := hidK q1; have HKb := hidK q2; clear q1 q2)
  clear y0 y1 y2 HFD
  obtain ⟨M0, hM0l, hM0, hO0⟩ := HMb.out
  have HM0 := hidK (And.intro hM0l hM0)
  have HOb := hidK hO0
  have HWb : Hid (OwnF (fun b => w5.heap.size ≤ b) txL 1 9 wb (.slice d1 m1 e1) (srchN L num s).w ∧ OwnF (fun b => w5.heap.size ≤ b) paL 2 30 wb (.slice d2 m2 e2) (srchN L num s).p) := by
    refine ⟨HXa.out.wt.kp HKb.out (fun g h1 h2 => HXa.out.n g h2 h1), HXa.out.p.kp HKb.out (fun g h1 h2 => ?_)⟩
    obtain ⟨cs, hc⟩ := HXa.out.p.typed h1
    obtain ⟨cs', hc'⟩ := HXa.out.d.typed h2
    exact cells_typ hc hc' (by decide) rfl
  have HKGb : Hid (Kp G w9 wb) := HKa.out.trans (HKb.out.weak HGI.out.1)
  clear hM0l hM0 hO0 HMb
  obtain ⟨y0, y1, y2⟩ := lk_cells (HALL.out _ HKGb.out).2.1
  have HFW := hidK (fill_c (fun b => w5.heap.size ≤ b) (.slice d1 m1 e1) (srchN L num s).w ⟨#[47, 50]⟩ wb HWb.out.1 (by have := HMM.out.2.1; omega))
  go_upto_region 10 with (go_at_call 25; refine HFW.out.mono ?_; rintro e wd ⟨rfl, q1, q2⟩; have HMd := hidK q1; have HKd := hidK q2; clear q1 q2)
  clear y0 y1 y2 HFW
  obtain ⟨M1, hM1l, hM1, hO1⟩ := HMd.out
  have HM1 := hidK (And.intro hM1l hM1)
  have HOd : Hid (OwnF (fun b => w5.heap.size ≤ b) txL 1 9 wd (.slice d0 m0 e0) M0 ∧ OwnF (fun b => w5.heap.size ≤ b) txL 1 9 wd (.slice d1 m1 e1) M1 ∧ OwnF (fun b => w5.heap.size ≤ b) paL 2 30 wd (.slice d2 m2 e2) (srchN L num s).p) := by
    refine ⟨HOb.out.kp HKd.out (fun g h1 h2 => HXa.out.n g h1 h2), hO1, HWb.out.2.kp HKd.out (fun g h1 h2 => ?_)⟩
    obtain ⟨cs, hc⟩ := HWb.out.2.typed h1
    obtain ⟨cs', hc'⟩ := HWb.out.1.typed h2
    exact cells_typ hc hc' (by decide) rfl
  have HKGd : Hid (Kp G w9 wd) := HKGb.out.trans (HKd.out.weak HGI.out.2.1)
  clear hM1l hM1 hO1 HMd
  have HDN : Hid (∀ b, (Value.slice d2 m2 e2).ownBlock = some b → (Value.slice d0 m0 e0).ownBlock ≠ some b ∧ (Value.slice d1 m1 e1).ownBlock ≠ some b) := fun b h => ⟨fun h2 => by
    obtain ⟨cs, hc⟩ := HOd.out.2.2.typed h
    obtain ⟨cs', hc'⟩ := HOd.out.1.typed h2
    exact cells_typ hc hc' (by decide) rfl, fun h2 => by
    obtain ⟨cs, hc⟩ := HOd.out.2.2.typed h
    obtain ⟨cs', hc'⟩ := HOd.out.2.1.typed h2
    exact cells_typ hc hc' (by decide) rfl⟩
  go_wp2
  go_loopw [12] (fun i wx => ∃ k : Nat, i = .int .i64 k ∧ k ≤ m2 ∧ (∃ M2 : List (Int × Int), M2.length = m2 ∧ OwnF (fun b => w5.heap.size ≤ b) paL 2 30 wx (.slice d2 m2 e2) M2) ∧ Kp (fun b => (Value.slice d2 m2 e2).ownBlock = some b) wd wx) (fun i _ => m2 - (intOf i).toNat)
  case atStart => exact ⟨0, rfl, Nat.zero_le _, ⟨_, HMM.out.2.2, HOd.out.2.2⟩, Kp.refl _ _⟩
  case round =>
    obtain ⟨k, rfl, hkn, ⟨M2, hM2, ho⟩, hB⟩ := hrel
    have HM2 := hidK hM2
    have HB := hidK hB
    have HKG : Hid (Kp G w9 wr) := HKGd.out.trans (hB.weak HGI.out.2.2)
    obtain ⟨y0, y1, y2⟩ := lk_cells (HALL.out _ HKG.out).2.1
    by_cases hk : k < m2
    · have kI : (k : Int) < (m2 : Int) := by omega
      have k0 : (0 : Int) ≤ (k : Int) := by omega
      have kw : IntKind.i64.wrap ((k : Int) + 1) = (k : Int) + 1 := by rw [IntKind.wrap_i64]; omega
      have ho1 := ho.1
      rw [hM2] at ho1
      cases d2 with
      | none =>
        exfalso
        rcases ho1.2 with ⟨_, h0⟩ | ⟨g, cap, cur, h0, _⟩
        · omega
        · cases h0
      | some ad =>
        obtain ⟨g, rfl⟩ : ∃ g, ad = ⟨g, 0, none⟩ := by
          rcases ho1.2 with ⟨h0, _⟩ | ⟨g, cap, cur, h0, _⟩
          · cases h0
          · injection h0 with h0 _ _; injection h0 with h0; exact ⟨g, h0⟩
        obtain ⟨cur, g1, g2, g3, g4, g5, g6, g7⟩ := ownG_cur paL 2 (by decide) paL_len ho1
        have HG1 := hidK g1
        have HC := hidK (And.intro g3 (And.intro g4 (And.intro g5 (And.intro g6 g7))))
        have HFG := hidK (ho.2 g rfl)
        have hfit : Nat.ble (k * 2 + 2) cur.size = true := Nat.ble_eq_true_of_le (by omega)
        clear hM2 hB ho ho1 g1 g2 g3 g4 g5 g6 g7
        go_wp2_with (refine wpList_store_row_G rfl rfl 30 _ _ rfl g (k * 2) (.agg #[.int .i64 (-8), .int .i64 0]) (by first | rfl | simp [Act.eval]) (by rfl) 30 cur (putG cur (k * 2) (paL (-8, 0)).toArray) HG1.out sizePl hfit rfl rfl ?_; intro W4 h4 k4; have HW4 := hidK h4; have HK4 := hidK k4; clear h4 k4)
        go_roundw
        case rel =>
          obtain ⟨g3, g4, g5, g6, g7⟩ := HC.out
          have hown := ownG_put (B := 0) paL 2 paL_len (-8, 0) hk (Nat.zero_le _) g3 g4 g5 g6 g7 HW4.out
          exact ⟨k + 1, by go_num, by omega, ⟨M2.set k (-8, 0), by rw [List.length_set]; exact HM2.out, ⟨by rw [List.length_set, HM2.out]; exact hown, fun q hq => by simp [Value.ownBlock] at hq; subst hq; exact HFG.out⟩⟩, HB.out.trans (Kp.grown HK4.out (fun q hq => by rw [← hq]; rfl))⟩
        case measure => simp [intOf]; omega
    · obtain rfl : k = m2 := by omega
      have HOr : Hid (OwnF (fun b => w5.heap.size ≤ b) txL 1 9 wr (.slice d0 m0 e0) M0 ∧ OwnF (fun b => w5.heap.size ≤ b) txL 1 9 wr (.slice d1 m1 e1) M1 ∧ OwnF (fun b => w5.heap.size ≤ b) paL 2 30 wr (.slice d2 k e2) M2) := ⟨HOd.out.1.kp hB (fun g h1 h2 => (HDN.out g h2).1 h1), HOd.out.2.1.kp hB (fun g h1 h2 => (HDN.out g h2).2 h1), ho⟩
      clear hM2 hB ho
      go_upto_region 14 with fail
      go_cut [13] from 53 to 70 (fun s13 wx => ∃ z : Int, s13 = .int .i64 z ∧ 3 ≤ z ∧ RowT wx (.slice d0 m0 e0) M0 ∧ RowT wx (.slice d1 m1 e1) M1 ∧ Kp G w9 wx)
      case first =>
        have HBXC : Hid (∀ W, Kp G w9 W → W.cell? ⟨w6.heap.size, 0, none⟩ = some (.slice d0 m0 e0) ∧ W.cell? ⟨w6.heap.size, 1, none⟩ = some (.slice d1 m1 e1) ∧ W.cell? ⟨w6.heap.size, 2, none⟩ = some (.slice d2 k e2)) := fun W hk => lk_cells (HALL.out W hk).2.1
        have HSZ9 : Hid (w6.heap.size ≤ w9.heap.size) := Nat.le_of_lt (Array.getElem?_eq_some_iff.1 HG79.out).1
        have HLN : Hid (M0.length = m0 ∧ M1.length = m1 ∧ M2.length = k) := ⟨HM0.out.1.trans HMM.out.1, HM1.out.1.trans HMM.out.2.1, HM2.out⟩
        obtain ⟨R0, R1, R2⟩ := HOr.out
        replace R0 := R0.on ((Below.refl _ wr).drew)
        replace R1 := R1.on ((Below.refl _ wr).drew)
        replace R2 := R2.on ((Below.refl _ wr).drew)
        have HAP01 : Hid (∀ g, (Value.slice d0 m0 e0).ownBlock = some g → ¬ ((Value.slice d1 m1 e1).ownBlock = some g)) := fun g h1 h2 => HXa.out.n g h1 h2
        have HAP10 : Hid (∀ g, (Value.slice d1 m1 e1).ownBlock = some g → ¬ ((Value.slice d0 m0 e0).ownBlock = some g)) := fun g h1 h2 => HXa.out.n g h2 h1
        have HAP02 : Hid (∀ g, (Value.slice d0 m0 e0).ownBlock = some g → ¬ ((Value.slice d2 k e2).ownBlock = some g)) := fun g h1 h2 => (HDN.out g h2).1 h1
        have HAP20 : Hid (∀ g, (Value.slice d2 k e2).ownBlock = some g → ¬ ((Value.slice d0 m0 e0).ownBlock = some g)) := fun g h1 h2 => (HDN.out g h1).1 h2
        have HAP12 : Hid (∀ g, (Value.slice d1 m1 e1).ownBlock = some g → ¬ ((Value.slice d2 k e2).ownBlock = some g)) := fun g h1 h2 => (HDN.out g h2).2 h1
        have HAP21 : Hid (∀ g, (Value.slice d2 k e2).ownBlock = some g → ¬ ((Value.slice d1 m1 e1).ownBlock = some g)) := fun g h1 h2 => (HDN.out g h1).2 h2
        have ww0 : IntKind.i64.wrap ((m0 : Int) + 1 + ((m1 : Int) + 1)) = (m0 : Int) + 1 + ((m1 : Int) + 1) := by rw [IntKind.wrap_i64]; omega
        have ww1 : IntKind.i64.wrap ((m0 : Int) + 1 + ((m1 : Int) + 1) + ((k : Int) + 1)) = (m0 : Int) + 1 + ((m1 : Int) + 1) + ((k : Int) + 1) := by rw [IntKind.wrap_i64]; omega
        clear y0 y1 y2
        refine wp_region_noPanic ?_
        refine wp_region_held_drew (S := fun W => Kp G w9 W) (by kernel_rfl) (HKG.out.drew) (fun hHeld => ?_)
        generalize wr.drew = X0 at hHeld R0 R1 R2 ⊢
        refine wpAnyH_take (i := 0) (oi := { dst := some 53, op := Op.fieldAddr 26 (Operand.tmp 9) 0, type := 0, pos := "law.go:233", after := #[], guard := none }) (v := ?_) rfl (by kernel_rfl) (by kernel_rfl) (by kernel_rfl) (fun _ _ _ h => h) (Or.inl ⟨by rfl, ?_⟩) hHeld ?_
        rotate_left
        · intro w hSw; (try dsimp only at hSw); obtain ⟨y0, y1, y2⟩ := HBXC.out _ hSw; go_simp; try with_reducible rfl
        (try simp only [Act.put, List.setIfInBounds_toArray, List.set_cons_zero, List.set_cons_succ])
        refine wpAnyH_take (i := 1) (oi := { dst := some 54, op := Op.load 23 (Operand.tmp 53), type := 23, pos := "law.go:233", after := #[{ on := 0, ground := Ground.data }], guard := none }) (v := ?_) rfl (by kernel_rfl) (by kernel_rfl) (by kernel_rfl) (fun _ _ _ h => h) (Or.inl ⟨by rfl, ?_⟩) hHeld ?_
        rotate_left
        · intro w hSw; (try dsimp only at hSw); obtain ⟨y0, y1, y2⟩ := HBXC.out _ hSw; go_simp; try with_reducible rfl
        (try simp only [Act.put, List.setIfInBounds_toArray, List.set_cons_zero, List.set_cons_succ])
        refine wpAnyH_take (i := 5) (oi := { dst := some 58, op := Op.fieldAddr 26 (Operand.tmp 9) 1, type := 0, pos := "law.go:233", after := #[], guard := none }) (v := ?_) rfl (by kernel_rfl) (by kernel_rfl) (by kernel_rfl) (fun _ _ _ h => h) (Or.inl ⟨by rfl, ?_⟩) hHeld ?_
        rotate_left
        · intro w hSw; (try dsimp only at hSw); obtain ⟨y0, y1, y2⟩ := HBXC.out _ hSw; go_simp; try with_reducible rfl
        (try simp only [Act.put, List.setIfInBounds_toArray, List.set_cons_zero, List.set_cons_succ])
        refine wpAnyH_take (i := 6) (oi := { dst := some 59, op := Op.load 23 (Operand.tmp 58), type := 23, pos := "law.go:233", after := #[{ on := 5, ground := Ground.data }], guard := none }) (v := ?_) rfl (by kernel_rfl) (by kernel_rfl) (by kernel_rfl) (fun _ _ _ h => h) (Or.inl ⟨by rfl, ?_⟩) hHeld ?_
        rotate_left
        · intro w hSw; (try dsimp only at hSw); obtain ⟨y0, y1, y2⟩ := HBXC.out _ hSw; go_simp; try with_reducible rfl
        (try simp only [Act.put, List.setIfInBounds_toArray, List.set_cons_zero, List.set_cons_succ])
        refine wpAnyH_take (i := 11) (oi := { dst := some 64, op := Op.fieldAddr 26 (Operand.tmp 9) 2, type := 0, pos := "law.go:233", after := #[], guard := none }) (v := ?_) rfl (by kernel_rfl) (by kernel_rfl) (by kernel_rfl) (fun _ _ _ h => h) (Or.inl ⟨by rfl, ?_⟩) hHeld ?_
        rotate_left
        · intro w hSw; (try dsimp only at hSw); obtain ⟨y0, y1, y2⟩ := HBXC.out _ hSw; go_simp; try with_reducible rfl
        (try simp only [Act.put, List.setIfInBounds_toArray, List.set_cons_zero, List.set_cons_succ])
        refine wpAnyH_take (i := 12) (oi := { dst := some 65, op := Op.load 24 (Operand.tmp 64), type := 24, pos := "law.go:233", after := #[{ on := 11, ground := Ground.data }], guard := none }) (v := ?_) rfl (by kernel_rfl) (by kernel_rfl) (by kernel_rfl) (fun _ _ _ h => h) (Or.inl ⟨by rfl, ?_⟩) hHeld ?_
        rotate_left
        · intro w hSw; (try dsimp only at hSw); obtain ⟨y0, y1, y2⟩ := HBXC.out _ hSw; go_simp; try with_reducible rfl
        (try simp only [Act.put, List.setIfInBounds_toArray, List.set_cons_zero, List.set_cons_succ])
        refine wpAnyH_take (i := 13) (oi := { dst := some 66, op := Op.build 30 #[(0, Operand.const (Value.int IntKind.i64 (-9)))], type := 30, pos := "law.go:233", after := #[], guard := none }) (v := ?_) rfl (by kernel_rfl) (by kernel_rfl) (by kernel_rfl) (fun _ _ _ h => h) (Or.inl ⟨by rfl, ?_⟩) hHeld ?_
        rotate_left
        · intro w hSw; (try dsimp only at hSw); obtain ⟨y0, y1, y2⟩ := HBXC.out _ hSw; go_simp; try with_reducible rfl
        (try simp only [Act.put, List.setIfInBounds_toArray, List.set_cons_zero, List.set_cons_succ])
        refine wpAnyH_ready (rs := [2, 7, 14]) (by kernel_rfl) (by simp) (AllReadyH.cons (o := { dst := some 55, op := Op.buildSlice 23 1 #[(0, Operand.const (Value.string { data := #[47, 51] }))], type := 23, pos := "law.go:233", after := #[], guard := none }) rfl (fun K hK => ?_) (AllReadyH.cons (o := { dst := some 60, op := Op.buildSlice 23 1 #[(0, Operand.const (Value.string { data := #[47, 51] }))], type := 23, pos := "law.go:233", after := #[], guard := none }) rfl (fun K hK => ?_) (AllReadyH.cons (o := { dst := some 67, op := Op.buildSlice 24 1 #[(0, Operand.tmp 66)], type := 24, pos := "law.go:233", after := #[{ on := 13, ground := Ground.data }], guard := none }) rfl (fun K hK => ?_) (AllReadyH.nil))))
        · skip
          have T0 := srcN (F := G) elT X0 ⟨#[47, 51]⟩ #[.string ⟨#[47, 51]⟩] rfl (fun h => by have h1 := (HGR.out _ h).2; have h2 := hHeld.size; have h3 := HSZ9.out; omega)
          have hb : Below X0.heap.size X0 (X0.alloc (.cells #[.string ⟨#[47, 51]⟩] 9)) := (Below.refl _ _).alloc (Nat.le_refl _) _
          have hHeld := hHeld.trans (Kp.of_below hb)
          replace R0 := R0.on hb
          replace R1 := R1.on hb
          replace R2 := R2.on hb
          go_simp
          refine hK.out _ _ hHeld (fun _ => ?_)
          clear hK K hb
          (try simp only [Act.put, List.setIfInBounds_toArray, List.set_cons_zero, List.set_cons_succ])
          generalize X0.alloc (.cells #[.string ⟨#[47, 51]⟩] 9) = X1 at hHeld R0 R1 R2 T0  ⊢
          refine wpAnyH_ready (rs := [3, 7, 14]) (by kernel_rfl) (by simp) (AllReadyH.cons (o := { dst := some 56, op := Op.call { callee := Callee.builtin Builtin.append, args := #[Operand.tmp 54, Operand.tmp 55], argTypes := #[23, 23] }, type := 23, pos := "law.go:233", after := #[{ on := 1, ground := Ground.data }, { on := 2, ground := Ground.data }], guard := none }) rfl (fun K hK => ?_) (AllReadyH.cons (o := { dst := some 60, op := Op.buildSlice 23 1 #[(0, Operand.const (Value.string { data := #[47, 51] }))], type := 23, pos := "law.go:233", after := #[], guard := none }) rfl (fun K hK => ?_) (AllReadyH.cons (o := { dst := some 67, op := Op.buildSlice 24 1 #[(0, Operand.tmp 66)], type := 24, pos := "law.go:233", after := #[{ on := 13, ground := Ground.data }], guard := none }) rfl (fun K hK => ?_) (AllReadyH.nil))))
          · skip
            refine stepG_keep (F := fun b => w5.heap.size ≤ b) elT rfl (.tmp 54) (.tmp 55) rfl (.slice d0 m0 e0) M0 m0 HLN.out.1 ⟨#[47, 51]⟩ (X0.heap.size) 1 (by first | rfl | simp [Act.eval]) (by first | rfl | simp [Act.eval]) R0 T0.row (txL_one _) (by have := HLN.out; omega) ?_
            intro ao0 cp0 X2 o0 k0
            have hHeld := hHeld.trans (k0.weak HGI.out.1)
            replace R1 := R1.kp k0 (HAP10.out)
            replace R2 := R2.kp k0 (HAP20.out)
            replace R0 := o0
            refine hK.out _ _ hHeld (fun _ => ?_)
            clear hK K o0 k0 T0
            (try simp only [Act.put, List.setIfInBounds_toArray, List.set_cons_zero, List.set_cons_succ])
            refine wpAnyH_take (i := 4) (oi := { dst := some 57, op := Op.call { callee := Callee.builtin Builtin.len, args := #[Operand.tmp 56], argTypes := #[23] }, type := 3, pos := "law.go:233", after := #[{ on := 3, ground := Ground.data }], guard := none }) (v := ?_) rfl (by kernel_rfl) (by kernel_rfl) (by kernel_rfl) (fun _ _ _ h => h) (Or.inl ⟨by rfl, ?_⟩) hHeld ?_
            rotate_left
            · intro w hSw; (try dsimp only at hSw); obtain ⟨y0, y1, y2⟩ := HBXC.out _ hSw; go_simp; try with_reducible rfl
            (try simp only [Act.put, List.setIfInBounds_toArray, List.set_cons_zero, List.set_cons_succ])
            refine wpAnyH_ready (rs := [7, 14]) (by kernel_rfl) (by simp) (AllReadyH.cons (o := { dst := some 60, op := Op.buildSlice 23 1 #[(0, Operand.const (Value.string { data := #[47, 51] }))], type := 23, pos := "law.go:233", after := #[], guard := none }) rfl (fun K hK => ?_) (AllReadyH.cons (o := { dst := some 67, op := Op.buildSlice 24 1 #[(0, Operand.tmp 66)], type := 24, pos := "law.go:233", after := #[{ on := 13, ground := Ground.data }], guard := none }) rfl (fun K hK => ?_) (AllReadyH.nil)))
            · skip
              have T1 := srcN (F := G) elT X2 ⟨#[47, 51]⟩ #[.string ⟨#[47, 51]⟩] rfl (fun h => by have h1 := (HGR.out _ h).2; have h2 := hHeld.size; have h3 := HSZ9.out; omega)
              have hb : Below X2.heap.size X2 (X2.alloc (.cells #[.string ⟨#[47, 51]⟩] 9)) := (Below.refl _ _).alloc (Nat.le_refl _) _
              have hHeld := hHeld.trans (Kp.of_below hb)
              replace R0 := R0.on hb
              replace R1 := R1.on hb
              replace R2 := R2.on hb
              go_simp
              refine hK.out _ _ hHeld (fun _ => ?_)
              clear hK K hb
              (try simp only [Act.put, List.setIfInBounds_toArray, List.set_cons_zero, List.set_cons_succ])
              generalize X2.alloc (.cells #[.string ⟨#[47, 51]⟩] 9) = X3 at hHeld R0 R1 R2 T1  ⊢
              refine wpAnyH_ready (rs := [8, 14]) (by kernel_rfl) (by simp) (AllReadyH.cons (o := { dst := some 61, op := Op.call { callee := Callee.builtin Builtin.append, args := #[Operand.tmp 59, Operand.tmp 60], argTypes := #[23, 23] }, type := 23, pos := "law.go:233", after := #[{ on := 6, ground := Ground.data }, { on := 7, ground := Ground.data }, { on := 3, ground := Ground.chain }], guard := none }) rfl (fun K hK => ?_) (AllReadyH.cons (o := { dst := some 67, op := Op.buildSlice 24 1 #[(0, Operand.tmp 66)], type := 24, pos := "law.go:233", after := #[{ on := 13, ground := Ground.data }], guard := none }) rfl (fun K hK => ?_) (AllReadyH.nil)))
              · skip
                refine stepG_keep (F := fun b => w5.heap.size ≤ b) elT rfl (.tmp 59) (.tmp 60) rfl (.slice d1 m1 e1) M1 m1 HLN.out.2.1 ⟨#[47, 51]⟩ (X2.heap.size) 1 (by first | rfl | simp [Act.eval]) (by first | rfl | simp [Act.eval]) R1 T1.row (txL_one _) (by have := HLN.out; omega) ?_
                intro ao1 cp1 X4 o1 k1
                have hHeld := hHeld.trans (k1.weak HGI.out.2.1)
                replace R0 := R0.kp k1 (HAP01.out)
                replace R2 := R2.kp k1 (HAP21.out)
                replace R1 := o1
                refine hK.out _ _ hHeld (fun _ => ?_)
                clear hK K o1 k1 T1
                (try simp only [Act.put, List.setIfInBounds_toArray, List.set_cons_zero, List.set_cons_succ])
                refine wpAnyH_take (i := 9) (oi := { dst := some 62, op := Op.call { callee := Callee.builtin Builtin.len, args := #[Operand.tmp 61], argTypes := #[23] }, type := 3, pos := "law.go:233", after := #[{ on := 8, ground := Ground.data }], guard := none }) (v := ?_) rfl (by kernel_rfl) (by kernel_rfl) (by kernel_rfl) (fun _ _ _ h => h) (Or.inl ⟨by rfl, ?_⟩) hHeld ?_
                rotate_left
                · intro w hSw; (try dsimp only at hSw); obtain ⟨y0, y1, y2⟩ := HBXC.out _ hSw; go_simp; try with_reducible rfl
                (try simp only [Act.put, List.setIfInBounds_toArray, List.set_cons_zero, List.set_cons_succ])
                refine wpAnyH_take (i := 10) (oi := { dst := some 63, op := Op.binOp BinOp.add 3 (Operand.tmp 57) (Operand.tmp 62) 3, type := 3, pos := "law.go:233", after := #[{ on := 4, ground := Ground.data }, { on := 9, ground := Ground.data }], guard := none }) (v := ?_) rfl (by kernel_rfl) (by kernel_rfl) (by kernel_rfl) (fun _ _ _ h => h) (Or.inl ⟨by rfl, ?_⟩) hHeld ?_
                rotate_left
                · intro w hSw; (try dsimp only at hSw); obtain ⟨y0, y1, y2⟩ := HBXC.out _ hSw; go_simp; try with_reducible rfl
                (try simp only [Act.put, List.setIfInBounds_toArray, List.set_cons_zero, List.set_cons_succ])
                refine wpAnyH_ready (rs := [14]) (by kernel_rfl) (by simp) (AllReadyH.cons (o := { dst := some 67, op := Op.buildSlice 24 1 #[(0, Operand.tmp 66)], type := 24, pos := "law.go:233", after := #[{ on := 13, ground := Ground.data }], guard := none }) rfl (fun K hK => ?_) (AllReadyH.nil))
                · skip
                  have T2 := srcN (F := G) elP X4 (-9, 0) #[.int .i64 (-9), .int .i64 0] rfl (fun h => by have h1 := (HGR.out _ h).2; have h2 := hHeld.size; have h3 := HSZ9.out; omega)
                  have hb : Below X4.heap.size X4 (X4.alloc (.cells #[.int .i64 (-9), .int .i64 0] 30)) := (Below.refl _ _).alloc (Nat.le_refl _) _
                  have hHeld := hHeld.trans (Kp.of_below hb)
                  replace R0 := R0.on hb
                  replace R1 := R1.on hb
                  replace R2 := R2.on hb
                  go_simp
                  refine hK.out _ _ hHeld (fun _ => ?_)
                  clear hK K hb
                  (try simp only [Act.put, List.setIfInBounds_toArray, List.set_cons_zero, List.set_cons_succ])
                  generalize X4.alloc (.cells #[.int .i64 (-9), .int .i64 0] 30) = X5 at hHeld R0 R1 R2 T2  ⊢
                  refine wpAnyH_ready (rs := [15]) (by kernel_rfl) (by simp) (AllReadyH.cons (o := { dst := some 68, op := Op.call { callee := Callee.builtin Builtin.append, args := #[Operand.tmp 65, Operand.tmp 67], argTypes := #[24, 24] }, type := 24, pos := "law.go:233", after := #[{ on := 12, ground := Ground.data }, { on := 14, ground := Ground.data }, { on := 8, ground := Ground.chain }], guard := none }) rfl (fun K hK => ?_) (AllReadyH.nil))
                  · skip
                    refine stepG_keep (F := fun b => w5.heap.size ≤ b) elP rfl (.tmp 65) (.tmp 67) rfl (.slice d2 k e2) M2 k HLN.out.2.2 (-9, 0) (X4.heap.size) 1 (by first | rfl | simp [Act.eval]) (by first | rfl | simp [Act.eval]) R2 T2.row (paL_one _) (by have := HLN.out; omega) ?_
                    intro ao2 cp2 X6 o2 k2
                    have hHeld := hHeld.trans (k2.weak HGI.out.2.2)
                    replace R0 := R0.kp k2 (HAP02.out)
                    replace R1 := R1.kp k2 (HAP12.out)
                    replace R2 := o2
                    refine hK.out _ _ hHeld (fun _ => ?_)
                    clear hK K o2 k2 T2
                    (try simp only [Act.put, List.setIfInBounds_toArray, List.set_cons_zero, List.set_cons_succ])
                    refine wpAnyH_take (i := 16) (oi := { dst := some 69, op := Op.call { callee := Callee.builtin Builtin.len, args := #[Operand.tmp 68], argTypes := #[24] }, type := 3, pos := "law.go:233", after := #[{ on := 15, ground := Ground.data }], guard := none }) (v := ?_) rfl (by kernel_rfl) (by kernel_rfl) (by kernel_rfl) (fun _ _ _ h => h) (Or.inl ⟨by rfl, ?_⟩) hHeld ?_
                    rotate_left
                    · intro w hSw; (try dsimp only at hSw); obtain ⟨y0, y1, y2⟩ := HBXC.out _ hSw; go_simp; try with_reducible rfl
                    (try simp only [Act.put, List.setIfInBounds_toArray, List.set_cons_zero, List.set_cons_succ])
                    refine wpAnyH_take (i := 17) (oi := { dst := some 70, op := Op.binOp BinOp.add 3 (Operand.tmp 63) (Operand.tmp 69) 3, type := 3, pos := "law.go:233", after := #[{ on := 10, ground := Ground.data }, { on := 16, ground := Ground.data }], guard := none }) (v := ?_) rfl (by kernel_rfl) (by kernel_rfl) (by kernel_rfl) (fun _ _ _ h => h) (Or.inl ⟨by rfl, ?_⟩) hHeld ?_
                    rotate_left
                    · intro w hSw; (try dsimp only at hSw); obtain ⟨y0, y1, y2⟩ := HBXC.out _ hSw; go_simp; try with_reducible rfl
                    (try simp only [Act.put, List.setIfInBounds_toArray, List.set_cons_zero, List.set_cons_succ])
                    refine wpAnyH_take (i := 18) (oi := { dst := some 13, op := Op.assign (Operand.tmp 70), type := 3, pos := "law.go:233", after := #[{ on := 17, ground := Ground.data }, { on := 15, ground := Ground.chain }, { on := 0, ground := Ground.phase }, { on := 1, ground := Ground.phase }, { on := 2, ground := Ground.phase }, { on := 3, ground := Ground.phase }, { on := 4, ground := Ground.phase }, { on := 5, ground := Ground.phase }, { on := 6, ground := Ground.phase }, { on := 7, ground := Ground.phase }, { on := 8, ground := Ground.phase }, { on := 9, ground := Ground.phase }, { on := 10, ground := Ground.phase }, { on := 11, ground := Ground.phase }, { on := 12, ground := Ground.phase }, { on := 13, ground := Ground.phase }, { on := 14, ground := Ground.phase }, { on := 15, ground := Ground.phase }, { on := 16, ground := Ground.phase }, { on := 17, ground := Ground.phase }], guard := none }) (v := ?_) rfl (by kernel_rfl) (by kernel_rfl) (by kernel_rfl) (fun _ _ _ h => h) (Or.inl ⟨by rfl, ?_⟩) hHeld ?_
                    rotate_left
                    · intro w hSw; (try dsimp only at hSw); obtain ⟨y0, y1, y2⟩ := HBXC.out _ hSw; go_simp; try with_reducible rfl
                    (try simp only [Act.put, List.setIfInBounds_toArray, List.set_cons_zero, List.set_cons_succ])
                    refine wpAnyH_done (by kernel_rfl) ?_ _
                    refine NoPanic.normal ?_
                    go_wp2
                    go_meet
                    case rel => exact ⟨_, rfl, by omega, OwnF.row elT R0, OwnF.row elT R1, hHeld⟩
              · skip
                have T2 := srcN (F := G) elP X3 (-9, 0) #[.int .i64 (-9), .int .i64 0] rfl (fun h => by have h1 := (HGR.out _ h).2; have h2 := hHeld.size; have h3 := HSZ9.out; omega)
                have hb : Below X3.heap.size X3 (X3.alloc (.cells #[.int .i64 (-9), .int .i64 0] 30)) := (Below.refl _ _).alloc (Nat.le_refl _) _
                have hHeld := hHeld.trans (Kp.of_below hb)
                replace R0 := R0.on hb
                replace R1 := R1.on hb
                replace R2 := R2.on hb
                replace T1 := T1.kp (Kp.of_below hb)
                go_simp
                refine hK.out _ _ hHeld (fun _ => ?_)
                clear hK K hb
                (try simp only [Act.put, List.setIfInBounds_toArray, List.set_cons_zero, List.set_cons_succ])
                generalize X3.alloc (.cells #[.int .i64 (-9), .int .i64 0] 30) = X7 at hHeld R0 R1 R2 T2 T1 ⊢
                refine wpAnyH_ready (rs := [8]) (by kernel_rfl) (by simp) (AllReadyH.cons (o := { dst := some 61, op := Op.call { callee := Callee.builtin Builtin.append, args := #[Operand.tmp 59, Operand.tmp 60], argTypes := #[23, 23] }, type := 23, pos := "law.go:233", after := #[{ on := 6, ground := Ground.data }, { on := 7, ground := Ground.data }, { on := 3, ground := Ground.chain }], guard := none }) rfl (fun K hK => ?_) (AllReadyH.nil))
                · skip
                  refine stepG_keep (F := fun b => w5.heap.size ≤ b) elT rfl (.tmp 59) (.tmp 60) rfl (.slice d1 m1 e1) M1 m1 HLN.out.2.1 ⟨#[47, 51]⟩ (X2.heap.size) 1 (by first | rfl | simp [Act.eval]) (by first | rfl | simp [Act.eval]) R1 T1.row (txL_one _) (by have := HLN.out; omega) ?_
                  intro ao1 cp1 X8 o1 k1
                  have hHeld := hHeld.trans (k1.weak HGI.out.2.1)
                  replace R0 := R0.kp k1 (HAP01.out)
                  replace R2 := R2.kp k1 (HAP21.out)
                  replace R1 := o1
                  replace T2 := T2.kp (k1.weak HGI.out.2.1)
                  refine hK.out _ _ hHeld (fun _ => ?_)
                  clear hK K o1 k1 T1
                  (try simp only [Act.put, List.setIfInBounds_toArray, List.set_cons_zero, List.set_cons_succ])
                  refine wpAnyH_take (i := 9) (oi := { dst := some 62, op := Op.call { callee := Callee.builtin Builtin.len, args := #[Operand.tmp 61], argTypes := #[23] }, type := 3, pos := "law.go:233", after := #[{ on := 8, ground := Ground.data }], guard := none }) (v := ?_) rfl (by kernel_rfl) (by kernel_rfl) (by kernel_rfl) (fun _ _ _ h => h) (Or.inl ⟨by rfl, ?_⟩) hHeld ?_
                  rotate_left
                  · intro w hSw; (try dsimp only at hSw); obtain ⟨y0, y1, y2⟩ := HBXC.out _ hSw; go_simp; try with_reducible rfl
                  (try simp only [Act.put, List.setIfInBounds_toArray, List.set_cons_zero, List.set_cons_succ])
                  refine wpAnyH_take (i := 10) (oi := { dst := some 63, op := Op.binOp BinOp.add 3 (Operand.tmp 57) (Operand.tmp 62) 3, type := 3, pos := "law.go:233", after := #[{ on := 4, ground := Ground.data }, { on := 9, ground := Ground.data }], guard := none }) (v := ?_) rfl (by kernel_rfl) (by kernel_rfl) (by kernel_rfl) (fun _ _ _ h => h) (Or.inl ⟨by rfl, ?_⟩) hHeld ?_
                  rotate_left
                  · intro w hSw; (try dsimp only at hSw); obtain ⟨y0, y1, y2⟩ := HBXC.out _ hSw; go_simp; try with_reducible rfl
                  (try simp only [Act.put, List.setIfInBounds_toArray, List.set_cons_zero, List.set_cons_succ])
                  refine wpAnyH_ready (rs := [15]) (by kernel_rfl) (by simp) (AllReadyH.cons (o := { dst := some 68, op := Op.call { callee := Callee.builtin Builtin.append, args := #[Operand.tmp 65, Operand.tmp 67], argTypes := #[24, 24] }, type := 24, pos := "law.go:233", after := #[{ on := 12, ground := Ground.data }, { on := 14, ground := Ground.data }, { on := 8, ground := Ground.chain }], guard := none }) rfl (fun K hK => ?_) (AllReadyH.nil))
                  · skip
                    refine stepG_keep (F := fun b => w5.heap.size ≤ b) elP rfl (.tmp 65) (.tmp 67) rfl (.slice d2 k e2) M2 k HLN.out.2.2 (-9, 0) (X3.heap.size) 1 (by first | rfl | simp [Act.eval]) (by first | rfl | simp [Act.eval]) R2 T2.row (paL_one _) (by have := HLN.out; omega) ?_
                    intro ao2 cp2 X9 o2 k2
                    have hHeld := hHeld.trans (k2.weak HGI.out.2.2)
                    replace R0 := R0.kp k2 (HAP02.out)
                    replace R1 := R1.kp k2 (HAP12.out)
                    replace R2 := o2
                    refine hK.out _ _ hHeld (fun _ => ?_)
                    clear hK K o2 k2 T2
                    (try simp only [Act.put, List.setIfInBounds_toArray, List.set_cons_zero, List.set_cons_succ])
                    refine wpAnyH_take (i := 16) (oi := { dst := some 69, op := Op.call { callee := Callee.builtin Builtin.len, args := #[Operand.tmp 68], argTypes := #[24] }, type := 3, pos := "law.go:233", after := #[{ on := 15, ground := Ground.data }], guard := none }) (v := ?_) rfl (by kernel_rfl) (by kernel_rfl) (by kernel_rfl) (fun _ _ _ h => h) (Or.inl ⟨by rfl, ?_⟩) hHeld ?_
                    rotate_left
                    · intro w hSw; (try dsimp only at hSw); obtain ⟨y0, y1, y2⟩ := HBXC.out _ hSw; go_simp; try with_reducible rfl
                    (try simp only [Act.put, List.setIfInBounds_toArray, List.set_cons_zero, List.set_cons_succ])
                    refine wpAnyH_take (i := 17) (oi := { dst := some 70, op := Op.binOp BinOp.add 3 (Operand.tmp 63) (Operand.tmp 69) 3, type := 3, pos := "law.go:233", after := #[{ on := 10, ground := Ground.data }, { on := 16, ground := Ground.data }], guard := none }) (v := ?_) rfl (by kernel_rfl) (by kernel_rfl) (by kernel_rfl) (fun _ _ _ h => h) (Or.inl ⟨by rfl, ?_⟩) hHeld ?_
                    rotate_left
                    · intro w hSw; (try dsimp only at hSw); obtain ⟨y0, y1, y2⟩ := HBXC.out _ hSw; go_simp; try with_reducible rfl
                    (try simp only [Act.put, List.setIfInBounds_toArray, List.set_cons_zero, List.set_cons_succ])
                    refine wpAnyH_take (i := 18) (oi := { dst := some 13, op := Op.assign (Operand.tmp 70), type := 3, pos := "law.go:233", after := #[{ on := 17, ground := Ground.data }, { on := 15, ground := Ground.chain }, { on := 0, ground := Ground.phase }, { on := 1, ground := Ground.phase }, { on := 2, ground := Ground.phase }, { on := 3, ground := Ground.phase }, { on := 4, ground := Ground.phase }, { on := 5, ground := Ground.phase }, { on := 6, ground := Ground.phase }, { on := 7, ground := Ground.phase }, { on := 8, ground := Ground.phase }, { on := 9, ground := Ground.phase }, { on := 10, ground := Ground.phase }, { on := 11, ground := Ground.phase }, { on := 12, ground := Ground.phase }, { on := 13, ground := Ground.phase }, { on := 14, ground := Ground.phase }, { on := 15, ground := Ground.phase }, { on := 16, ground := Ground.phase }, { on := 17, ground := Ground.phase }], guard := none }) (v := ?_) rfl (by kernel_rfl) (by kernel_rfl) (by kernel_rfl) (fun _ _ _ h => h) (Or.inl ⟨by rfl, ?_⟩) hHeld ?_
                    rotate_left
                    · intro w hSw; (try dsimp only at hSw); obtain ⟨y0, y1, y2⟩ := HBXC.out _ hSw; go_simp; try with_reducible rfl
                    (try simp only [Act.put, List.setIfInBounds_toArray, List.set_cons_zero, List.set_cons_succ])
                    refine wpAnyH_done (by kernel_rfl) ?_ _
                    refine NoPanic.normal ?_
                    go_wp2
                    go_meet
                    case rel => exact ⟨_, rfl, by omega, OwnF.row elT R0, OwnF.row elT R1, hHeld⟩
            · skip
              have T2 := srcN (F := G) elP X2 (-9, 0) #[.int .i64 (-9), .int .i64 0] rfl (fun h => by have h1 := (HGR.out _ h).2; have h2 := hHeld.size; have h3 := HSZ9.out; omega)
              have hb : Below X2.heap.size X2 (X2.alloc (.cells #[.int .i64 (-9), .int .i64 0] 30)) := (Below.refl _ _).alloc (Nat.le_refl _) _
              have hHeld := hHeld.trans (Kp.of_below hb)
              replace R0 := R0.on hb
              replace R1 := R1.on hb
              replace R2 := R2.on hb
              go_simp
              refine hK.out _ _ hHeld (fun _ => ?_)
              clear hK K hb
              (try simp only [Act.put, List.setIfInBounds_toArray, List.set_cons_zero, List.set_cons_succ])
              generalize X2.alloc (.cells #[.int .i64 (-9), .int .i64 0] 30) = X10 at hHeld R0 R1 R2 T2  ⊢
              refine wpAnyH_ready (rs := [7]) (by kernel_rfl) (by simp) (AllReadyH.cons (o := { dst := some 60, op := Op.buildSlice 23 1 #[(0, Operand.const (Value.string { data := #[47, 51] }))], type := 23, pos := "law.go:233", after := #[], guard := none }) rfl (fun K hK => ?_) (AllReadyH.nil))
              · skip
                have T1 := srcN (F := G) elT X10 ⟨#[47, 51]⟩ #[.string ⟨#[47, 51]⟩] rfl (fun h => by have h1 := (HGR.out _ h).2; have h2 := hHeld.size; have h3 := HSZ9.out; omega)
                have hb : Below X10.heap.size X10 (X10.alloc (.cells #[.string ⟨#[47, 51]⟩] 9)) := (Below.refl _ _).alloc (Nat.le_refl _) _
                have hHeld := hHeld.trans (Kp.of_below hb)
                replace R0 := R0.on hb
                replace R1 := R1.on hb
                replace R2 := R2.on hb
                replace T2 := T2.kp (Kp.of_below hb)
                go_simp
                refine hK.out _ _ hHeld (fun _ => ?_)
                clear hK K hb
                (try simp only [Act.put, List.setIfInBounds_toArray, List.set_cons_zero, List.set_cons_succ])
                generalize X10.alloc (.cells #[.string ⟨#[47, 51]⟩] 9) = X11 at hHeld R0 R1 R2 T1 T2 ⊢
                refine wpAnyH_ready (rs := [8]) (by kernel_rfl) (by simp) (AllReadyH.cons (o := { dst := some 61, op := Op.call { callee := Callee.builtin Builtin.append, args := #[Operand.tmp 59, Operand.tmp 60], argTypes := #[23, 23] }, type := 23, pos := "law.go:233", after := #[{ on := 6, ground := Ground.data }, { on := 7, ground := Ground.data }, { on := 3, ground := Ground.chain }], guard := none }) rfl (fun K hK => ?_) (AllReadyH.nil))
                · skip
                  refine stepG_keep (F := fun b => w5.heap.size ≤ b) elT rfl (.tmp 59) (.tmp 60) rfl (.slice d1 m1 e1) M1 m1 HLN.out.2.1 ⟨#[47, 51]⟩ (X10.heap.size) 1 (by first | rfl | simp [Act.eval]) (by first | rfl | simp [Act.eval]) R1 T1.row (txL_one _) (by have := HLN.out; omega) ?_
                  intro ao1 cp1 X12 o1 k1
                  have hHeld := hHeld.trans (k1.weak HGI.out.2.1)
                  replace R0 := R0.kp k1 (HAP01.out)
                  replace R2 := R2.kp k1 (HAP21.out)
                  replace R1 := o1
                  replace T2 := T2.kp (k1.weak HGI.out.2.1)
                  refine hK.out _ _ hHeld (fun _ => ?_)
                  clear hK K o1 k1 T1
                  (try simp only [Act.put, List.setIfInBounds_toArray, List.set_cons_zero, List.set_cons_succ])
                  refine wpAnyH_take (i := 9) (oi := { dst := some 62, op := Op.call { callee := Callee.builtin Builtin.len, args := #[Operand.tmp 61], argTypes := #[23] }, type := 3, pos := "law.go:233", after := #[{ on := 8, ground := Ground.data }], guard := none }) (v := ?_) rfl (by kernel_rfl) (by kernel_rfl) (by kernel_rfl) (fun _ _ _ h => h) (Or.inl ⟨by rfl, ?_⟩) hHeld ?_
                  rotate_left
                  · intro w hSw; (try dsimp only at hSw); obtain ⟨y0, y1, y2⟩ := HBXC.out _ hSw; go_simp; try with_reducible rfl
                  (try simp only [Act.put, List.setIfInBounds_toArray, List.set_cons_zero, List.set_cons_succ])
                  refine wpAnyH_take (i := 10) (oi := { dst := some 63, op := Op.binOp BinOp.add 3 (Operand.tmp 57) (Operand.tmp 62) 3, type := 3, pos := "law.go:233", after := #[{ on := 4, ground := Ground.data }, { on := 9, ground := Ground.data }], guard := none }) (v := ?_) rfl (by kernel_rfl) (by kernel_rfl) (by kernel_rfl) (fun _ _ _ h => h) (Or.inl ⟨by rfl, ?_⟩) hHeld ?_
                  rotate_left
                  · intro w hSw; (try dsimp only at hSw); obtain ⟨y0, y1, y2⟩ := HBXC.out _ hSw; go_simp; try with_reducible rfl
                  (try simp only [Act.put, List.setIfInBounds_toArray, List.set_cons_zero, List.set_cons_succ])
                  refine wpAnyH_ready (rs := [15]) (by kernel_rfl) (by simp) (AllReadyH.cons (o := { dst := some 68, op := Op.call { callee := Callee.builtin Builtin.append, args := #[Operand.tmp 65, Operand.tmp 67], argTypes := #[24, 24] }, type := 24, pos := "law.go:233", after := #[{ on := 12, ground := Ground.data }, { on := 14, ground := Ground.data }, { on := 8, ground := Ground.chain }], guard := none }) rfl (fun K hK => ?_) (AllReadyH.nil))
                  · skip
                    refine stepG_keep (F := fun b => w5.heap.size ≤ b) elP rfl (.tmp 65) (.tmp 67) rfl (.slice d2 k e2) M2 k HLN.out.2.2 (-9, 0) (X2.heap.size) 1 (by first | rfl | simp [Act.eval]) (by first | rfl | simp [Act.eval]) R2 T2.row (paL_one _) (by have := HLN.out; omega) ?_
                    intro ao2 cp2 X13 o2 k2
                    have hHeld := hHeld.trans (k2.weak HGI.out.2.2)
                    replace R0 := R0.kp k2 (HAP02.out)
                    replace R1 := R1.kp k2 (HAP12.out)
                    replace R2 := o2
                    refine hK.out _ _ hHeld (fun _ => ?_)
                    clear hK K o2 k2 T2
                    (try simp only [Act.put, List.setIfInBounds_toArray, List.set_cons_zero, List.set_cons_succ])
                    refine wpAnyH_take (i := 16) (oi := { dst := some 69, op := Op.call { callee := Callee.builtin Builtin.len, args := #[Operand.tmp 68], argTypes := #[24] }, type := 3, pos := "law.go:233", after := #[{ on := 15, ground := Ground.data }], guard := none }) (v := ?_) rfl (by kernel_rfl) (by kernel_rfl) (by kernel_rfl) (fun _ _ _ h => h) (Or.inl ⟨by rfl, ?_⟩) hHeld ?_
                    rotate_left
                    · intro w hSw; (try dsimp only at hSw); obtain ⟨y0, y1, y2⟩ := HBXC.out _ hSw; go_simp; try with_reducible rfl
                    (try simp only [Act.put, List.setIfInBounds_toArray, List.set_cons_zero, List.set_cons_succ])
                    refine wpAnyH_take (i := 17) (oi := { dst := some 70, op := Op.binOp BinOp.add 3 (Operand.tmp 63) (Operand.tmp 69) 3, type := 3, pos := "law.go:233", after := #[{ on := 10, ground := Ground.data }, { on := 16, ground := Ground.data }], guard := none }) (v := ?_) rfl (by kernel_rfl) (by kernel_rfl) (by kernel_rfl) (fun _ _ _ h => h) (Or.inl ⟨by rfl, ?_⟩) hHeld ?_
                    rotate_left
                    · intro w hSw; (try dsimp only at hSw); obtain ⟨y0, y1, y2⟩ := HBXC.out _ hSw; go_simp; try with_reducible rfl
                    (try simp only [Act.put, List.setIfInBounds_toArray, List.set_cons_zero, List.set_cons_succ])
                    refine wpAnyH_take (i := 18) (oi := { dst := some 13, op := Op.assign (Operand.tmp 70), type := 3, pos := "law.go:233", after := #[{ on := 17, ground := Ground.data }, { on := 15, ground := Ground.chain }, { on := 0, ground := Ground.phase }, { on := 1, ground := Ground.phase }, { on := 2, ground := Ground.phase }, { on := 3, ground := Ground.phase }, { on := 4, ground := Ground.phase }, { on := 5, ground := Ground.phase }, { on := 6, ground := Ground.phase }, { on := 7, ground := Ground.phase }, { on := 8, ground := Ground.phase }, { on := 9, ground := Ground.phase }, { on := 10, ground := Ground.phase }, { on := 11, ground := Ground.phase }, { on := 12, ground := Ground.phase }, { on := 13, ground := Ground.phase }, { on := 14, ground := Ground.phase }, { on := 15, ground := Ground.phase }, { on := 16, ground := Ground.phase }, { on := 17, ground := Ground.phase }], guard := none }) (v := ?_) rfl (by kernel_rfl) (by kernel_rfl) (by kernel_rfl) (fun _ _ _ h => h) (Or.inl ⟨by rfl, ?_⟩) hHeld ?_
                    rotate_left
                    · intro w hSw; (try dsimp only at hSw); obtain ⟨y0, y1, y2⟩ := HBXC.out _ hSw; go_simp; try with_reducible rfl
                    (try simp only [Act.put, List.setIfInBounds_toArray, List.set_cons_zero, List.set_cons_succ])
                    refine wpAnyH_done (by kernel_rfl) ?_ _
                    refine NoPanic.normal ?_
                    go_wp2
                    go_meet
                    case rel => exact ⟨_, rfl, by omega, OwnF.row elT R0, OwnF.row elT R1, hHeld⟩
          · skip
            have T1 := srcN (F := G) elT X1 ⟨#[47, 51]⟩ #[.string ⟨#[47, 51]⟩] rfl (fun h => by have h1 := (HGR.out _ h).2; have h2 := hHeld.size; have h3 := HSZ9.out; omega)
            have hb : Below X1.heap.size X1 (X1.alloc (.cells #[.string ⟨#[47, 51]⟩] 9)) := (Below.refl _ _).alloc (Nat.le_refl _) _
            have hHeld := hHeld.trans (Kp.of_below hb)
            replace R0 := R0.on hb
            replace R1 := R1.on hb
            replace R2 := R2.on hb
            replace T0 := T0.kp (Kp.of_below hb)
            go_simp
            refine hK.out _ _ hHeld (fun _ => ?_)
            clear hK K hb
            (try simp only [Act.put, List.setIfInBounds_toArray, List.set_cons_zero, List.set_cons_succ])
            generalize X1.alloc (.cells #[.string ⟨#[47, 51]⟩] 9) = X14 at hHeld R0 R1 R2 T1 T0 ⊢
            refine wpAnyH_ready (rs := [3, 14]) (by kernel_rfl) (by simp) (AllReadyH.cons (o := { dst := some 56, op := Op.call { callee := Callee.builtin Builtin.append, args := #[Operand.tmp 54, Operand.tmp 55], argTypes := #[23, 23] }, type := 23, pos := "law.go:233", after := #[{ on := 1, ground := Ground.data }, { on := 2, ground := Ground.data }], guard := none }) rfl (fun K hK => ?_) (AllReadyH.cons (o := { dst := some 67, op := Op.buildSlice 24 1 #[(0, Operand.tmp 66)], type := 24, pos := "law.go:233", after := #[{ on := 13, ground := Ground.data }], guard := none }) rfl (fun K hK => ?_) (AllReadyH.nil)))
            · skip
              refine stepG_keep (F := fun b => w5.heap.size ≤ b) elT rfl (.tmp 54) (.tmp 55) rfl (.slice d0 m0 e0) M0 m0 HLN.out.1 ⟨#[47, 51]⟩ (X0.heap.size) 1 (by first | rfl | simp [Act.eval]) (by first | rfl | simp [Act.eval]) R0 T0.row (txL_one _) (by have := HLN.out; omega) ?_
              intro ao0 cp0 X15 o0 k0
              have hHeld := hHeld.trans (k0.weak HGI.out.1)
              replace R1 := R1.kp k0 (HAP10.out)
              replace R2 := R2.kp k0 (HAP20.out)
              replace R0 := o0
              replace T1 := T1.kp (k0.weak HGI.out.1)
              refine hK.out _ _ hHeld (fun _ => ?_)
              clear hK K o0 k0 T0
              (try simp only [Act.put, List.setIfInBounds_toArray, List.set_cons_zero, List.set_cons_succ])
              refine wpAnyH_take (i := 4) (oi := { dst := some 57, op := Op.call { callee := Callee.builtin Builtin.len, args := #[Operand.tmp 56], argTypes := #[23] }, type := 3, pos := "law.go:233", after := #[{ on := 3, ground := Ground.data }], guard := none }) (v := ?_) rfl (by kernel_rfl) (by kernel_rfl) (by kernel_rfl) (fun _ _ _ h => h) (Or.inl ⟨by rfl, ?_⟩) hHeld ?_
              rotate_left
              · intro w hSw; (try dsimp only at hSw); obtain ⟨y0, y1, y2⟩ := HBXC.out _ hSw; go_simp; try with_reducible rfl
              (try simp only [Act.put, List.setIfInBounds_toArray, List.set_cons_zero, List.set_cons_succ])
              refine wpAnyH_ready (rs := [8, 14]) (by kernel_rfl) (by simp) (AllReadyH.cons (o := { dst := some 61, op := Op.call { callee := Callee.builtin Builtin.append, args := #[Operand.tmp 59, Operand.tmp 60], argTypes := #[23, 23] }, type := 23, pos := "law.go:233", after := #[{ on := 6, ground := Ground.data }, { on := 7, ground := Ground.data }, { on := 3, ground := Ground.chain }], guard := none }) rfl (fun K hK => ?_) (AllReadyH.cons (o := { dst := some 67, op := Op.buildSlice 24 1 #[(0, Operand.tmp 66)], type := 24, pos := "law.go:233", after := #[{ on := 13, ground := Ground.data }], guard := none }) rfl (fun K hK => ?_) (AllReadyH.nil)))
              · skip
                refine stepG_keep (F := fun b => w5.heap.size ≤ b) elT rfl (.tmp 59) (.tmp 60) rfl (.slice d1 m1 e1) M1 m1 HLN.out.2.1 ⟨#[47, 51]⟩ (X1.heap.size) 1 (by first | rfl | simp [Act.eval]) (by first | rfl | simp [Act.eval]) R1 T1.row (txL_one _) (by have := HLN.out; omega) ?_
                intro ao1 cp1 X16 o1 k1
                have hHeld := hHeld.trans (k1.weak HGI.out.2.1)
                replace R0 := R0.kp k1 (HAP01.out)
                replace R2 := R2.kp k1 (HAP21.out)
                replace R1 := o1
                refine hK.out _ _ hHeld (fun _ => ?_)
                clear hK K o1 k1 T1
                (try simp only [Act.put, List.setIfInBounds_toArray, List.set_cons_zero, List.set_cons_succ])
                refine wpAnyH_take (i := 9) (oi := { dst := some 62, op := Op.call { callee := Callee.builtin Builtin.len, args := #[Operand.tmp 61], argTypes := #[23] }, type := 3, pos := "law.go:233", after := #[{ on := 8, ground := Ground.data }], guard := none }) (v := ?_) rfl (by kernel_rfl) (by kernel_rfl) (by kernel_rfl) (fun _ _ _ h => h) (Or.inl ⟨by rfl, ?_⟩) hHeld ?_
                rotate_left
                · intro w hSw; (try dsimp only at hSw); obtain ⟨y0, y1, y2⟩ := HBXC.out _ hSw; go_simp; try with_reducible rfl
                (try simp only [Act.put, List.setIfInBounds_toArray, List.set_cons_zero, List.set_cons_succ])
                refine wpAnyH_take (i := 10) (oi := { dst := some 63, op := Op.binOp BinOp.add 3 (Operand.tmp 57) (Operand.tmp 62) 3, type := 3, pos := "law.go:233", after := #[{ on := 4, ground := Ground.data }, { on := 9, ground := Ground.data }], guard := none }) (v := ?_) rfl (by kernel_rfl) (by kernel_rfl) (by kernel_rfl) (fun _ _ _ h => h) (Or.inl ⟨by rfl, ?_⟩) hHeld ?_
                rotate_left
                · intro w hSw; (try dsimp only at hSw); obtain ⟨y0, y1, y2⟩ := HBXC.out _ hSw; go_simp; try with_reducible rfl
                (try simp only [Act.put, List.setIfInBounds_toArray, List.set_cons_zero, List.set_cons_succ])
                refine wpAnyH_ready (rs := [14]) (by kernel_rfl) (by simp) (AllReadyH.cons (o := { dst := some 67, op := Op.buildSlice 24 1 #[(0, Operand.tmp 66)], type := 24, pos := "law.go:233", after := #[{ on := 13, ground := Ground.data }], guard := none }) rfl (fun K hK => ?_) (AllReadyH.nil))
                · skip
                  have T2 := srcN (F := G) elP X16 (-9, 0) #[.int .i64 (-9), .int .i64 0] rfl (fun h => by have h1 := (HGR.out _ h).2; have h2 := hHeld.size; have h3 := HSZ9.out; omega)
                  have hb : Below X16.heap.size X16 (X16.alloc (.cells #[.int .i64 (-9), .int .i64 0] 30)) := (Below.refl _ _).alloc (Nat.le_refl _) _
                  have hHeld := hHeld.trans (Kp.of_below hb)
                  replace R0 := R0.on hb
                  replace R1 := R1.on hb
                  replace R2 := R2.on hb
                  go_simp
                  refine hK.out _ _ hHeld (fun _ => ?_)
                  clear hK K hb
                  (try simp only [Act.put, List.setIfInBounds_toArray, List.set_cons_zero, List.set_cons_succ])
                  generalize X16.alloc (.cells #[.int .i64 (-9), .int .i64 0] 30) = X17 at hHeld R0 R1 R2 T2  ⊢
                  refine wpAnyH_ready (rs := [15]) (by kernel_rfl) (by simp) (AllReadyH.cons (o := { dst := some 68, op := Op.call { callee := Callee.builtin Builtin.append, args := #[Operand.tmp 65, Operand.tmp 67], argTypes := #[24, 24] }, type := 24, pos := "law.go:233", after := #[{ on := 12, ground := Ground.data }, { on := 14, ground := Ground.data }, { on := 8, ground := Ground.chain }], guard := none }) rfl (fun K hK => ?_) (AllReadyH.nil))
                  · skip
                    refine stepG_keep (F := fun b => w5.heap.size ≤ b) elP rfl (.tmp 65) (.tmp 67) rfl (.slice d2 k e2) M2 k HLN.out.2.2 (-9, 0) (X16.heap.size) 1 (by first | rfl | simp [Act.eval]) (by first | rfl | simp [Act.eval]) R2 T2.row (paL_one _) (by have := HLN.out; omega) ?_
                    intro ao2 cp2 X18 o2 k2
                    have hHeld := hHeld.trans (k2.weak HGI.out.2.2)
                    replace R0 := R0.kp k2 (HAP02.out)
                    replace R1 := R1.kp k2 (HAP12.out)
                    replace R2 := o2
                    refine hK.out _ _ hHeld (fun _ => ?_)
                    clear hK K o2 k2 T2
                    (try simp only [Act.put, List.setIfInBounds_toArray, List.set_cons_zero, List.set_cons_succ])
                    refine wpAnyH_take (i := 16) (oi := { dst := some 69, op := Op.call { callee := Callee.builtin Builtin.len, args := #[Operand.tmp 68], argTypes := #[24] }, type := 3, pos := "law.go:233", after := #[{ on := 15, ground := Ground.data }], guard := none }) (v := ?_) rfl (by kernel_rfl) (by kernel_rfl) (by kernel_rfl) (fun _ _ _ h => h) (Or.inl ⟨by rfl, ?_⟩) hHeld ?_
                    rotate_left
                    · intro w hSw; (try dsimp only at hSw); obtain ⟨y0, y1, y2⟩ := HBXC.out _ hSw; go_simp; try with_reducible rfl
                    (try simp only [Act.put, List.setIfInBounds_toArray, List.set_cons_zero, List.set_cons_succ])
                    refine wpAnyH_take (i := 17) (oi := { dst := some 70, op := Op.binOp BinOp.add 3 (Operand.tmp 63) (Operand.tmp 69) 3, type := 3, pos := "law.go:233", after := #[{ on := 10, ground := Ground.data }, { on := 16, ground := Ground.data }], guard := none }) (v := ?_) rfl (by kernel_rfl) (by kernel_rfl) (by kernel_rfl) (fun _ _ _ h => h) (Or.inl ⟨by rfl, ?_⟩) hHeld ?_
                    rotate_left
                    · intro w hSw; (try dsimp only at hSw); obtain ⟨y0, y1, y2⟩ := HBXC.out _ hSw; go_simp; try with_reducible rfl
                    (try simp only [Act.put, List.setIfInBounds_toArray, List.set_cons_zero, List.set_cons_succ])
                    refine wpAnyH_take (i := 18) (oi := { dst := some 13, op := Op.assign (Operand.tmp 70), type := 3, pos := "law.go:233", after := #[{ on := 17, ground := Ground.data }, { on := 15, ground := Ground.chain }, { on := 0, ground := Ground.phase }, { on := 1, ground := Ground.phase }, { on := 2, ground := Ground.phase }, { on := 3, ground := Ground.phase }, { on := 4, ground := Ground.phase }, { on := 5, ground := Ground.phase }, { on := 6, ground := Ground.phase }, { on := 7, ground := Ground.phase }, { on := 8, ground := Ground.phase }, { on := 9, ground := Ground.phase }, { on := 10, ground := Ground.phase }, { on := 11, ground := Ground.phase }, { on := 12, ground := Ground.phase }, { on := 13, ground := Ground.phase }, { on := 14, ground := Ground.phase }, { on := 15, ground := Ground.phase }, { on := 16, ground := Ground.phase }, { on := 17, ground := Ground.phase }], guard := none }) (v := ?_) rfl (by kernel_rfl) (by kernel_rfl) (by kernel_rfl) (fun _ _ _ h => h) (Or.inl ⟨by rfl, ?_⟩) hHeld ?_
                    rotate_left
                    · intro w hSw; (try dsimp only at hSw); obtain ⟨y0, y1, y2⟩ := HBXC.out _ hSw; go_simp; try with_reducible rfl
                    (try simp only [Act.put, List.setIfInBounds_toArray, List.set_cons_zero, List.set_cons_succ])
                    refine wpAnyH_done (by kernel_rfl) ?_ _
                    refine NoPanic.normal ?_
                    go_wp2
                    go_meet
                    case rel => exact ⟨_, rfl, by omega, OwnF.row elT R0, OwnF.row elT R1, hHeld⟩
              · skip
                have T2 := srcN (F := G) elP X15 (-9, 0) #[.int .i64 (-9), .int .i64 0] rfl (fun h => by have h1 := (HGR.out _ h).2; have h2 := hHeld.size; have h3 := HSZ9.out; omega)
                have hb : Below X15.heap.size X15 (X15.alloc (.cells #[.int .i64 (-9), .int .i64 0] 30)) := (Below.refl _ _).alloc (Nat.le_refl _) _
                have hHeld := hHeld.trans (Kp.of_below hb)
                replace R0 := R0.on hb
                replace R1 := R1.on hb
                replace R2 := R2.on hb
                replace T1 := T1.kp (Kp.of_below hb)
                go_simp
                refine hK.out _ _ hHeld (fun _ => ?_)
                clear hK K hb
                (try simp only [Act.put, List.setIfInBounds_toArray, List.set_cons_zero, List.set_cons_succ])
                generalize X15.alloc (.cells #[.int .i64 (-9), .int .i64 0] 30) = X19 at hHeld R0 R1 R2 T2 T1 ⊢
                refine wpAnyH_ready (rs := [8]) (by kernel_rfl) (by simp) (AllReadyH.cons (o := { dst := some 61, op := Op.call { callee := Callee.builtin Builtin.append, args := #[Operand.tmp 59, Operand.tmp 60], argTypes := #[23, 23] }, type := 23, pos := "law.go:233", after := #[{ on := 6, ground := Ground.data }, { on := 7, ground := Ground.data }, { on := 3, ground := Ground.chain }], guard := none }) rfl (fun K hK => ?_) (AllReadyH.nil))
                · skip
                  refine stepG_keep (F := fun b => w5.heap.size ≤ b) elT rfl (.tmp 59) (.tmp 60) rfl (.slice d1 m1 e1) M1 m1 HLN.out.2.1 ⟨#[47, 51]⟩ (X1.heap.size) 1 (by first | rfl | simp [Act.eval]) (by first | rfl | simp [Act.eval]) R1 T1.row (txL_one _) (by have := HLN.out; omega) ?_
                  intro ao1 cp1 X20 o1 k1
                  have hHeld := hHeld.trans (k1.weak HGI.out.2.1)
                  replace R0 := R0.kp k1 (HAP01.out)
                  replace R2 := R2.kp k1 (HAP21.out)
                  replace R1 := o1
                  replace T2 := T2.kp (k1.weak HGI.out.2.1)
                  refine hK.out _ _ hHeld (fun _ => ?_)
                  clear hK K o1 k1 T1
                  (try simp only [Act.put, List.setIfInBounds_toArray, List.set_cons_zero, List.set_cons_succ])
                  refine wpAnyH_take (i := 9) (oi := { dst := some 62, op := Op.call { callee := Callee.builtin Builtin.len, args := #[Operand.tmp 61], argTypes := #[23] }, type := 3, pos := "law.go:233", after := #[{ on := 8, ground := Ground.data }], guard := none }) (v := ?_) rfl (by kernel_rfl) (by kernel_rfl) (by kernel_rfl) (fun _ _ _ h => h) (Or.inl ⟨by rfl, ?_⟩) hHeld ?_
                  rotate_left
                  · intro w hSw; (try dsimp only at hSw); obtain ⟨y0, y1, y2⟩ := HBXC.out _ hSw; go_simp; try with_reducible rfl
                  (try simp only [Act.put, List.setIfInBounds_toArray, List.set_cons_zero, List.set_cons_succ])
                  refine wpAnyH_take (i := 10) (oi := { dst := some 63, op := Op.binOp BinOp.add 3 (Operand.tmp 57) (Operand.tmp 62) 3, type := 3, pos := "law.go:233", after := #[{ on := 4, ground := Ground.data }, { on := 9, ground := Ground.data }], guard := none }) (v := ?_) rfl (by kernel_rfl) (by kernel_rfl) (by kernel_rfl) (fun _ _ _ h => h) (Or.inl ⟨by rfl, ?_⟩) hHeld ?_
                  rotate_left
                  · intro w hSw; (try dsimp only at hSw); obtain ⟨y0, y1, y2⟩ := HBXC.out _ hSw; go_simp; try with_reducible rfl
                  (try simp only [Act.put, List.setIfInBounds_toArray, List.set_cons_zero, List.set_cons_succ])
                  refine wpAnyH_ready (rs := [15]) (by kernel_rfl) (by simp) (AllReadyH.cons (o := { dst := some 68, op := Op.call { callee := Callee.builtin Builtin.append, args := #[Operand.tmp 65, Operand.tmp 67], argTypes := #[24, 24] }, type := 24, pos := "law.go:233", after := #[{ on := 12, ground := Ground.data }, { on := 14, ground := Ground.data }, { on := 8, ground := Ground.chain }], guard := none }) rfl (fun K hK => ?_) (AllReadyH.nil))
                  · skip
                    refine stepG_keep (F := fun b => w5.heap.size ≤ b) elP rfl (.tmp 65) (.tmp 67) rfl (.slice d2 k e2) M2 k HLN.out.2.2 (-9, 0) (X15.heap.size) 1 (by first | rfl | simp [Act.eval]) (by first | rfl | simp [Act.eval]) R2 T2.row (paL_one _) (by have := HLN.out; omega) ?_
                    intro ao2 cp2 X21 o2 k2
                    have hHeld := hHeld.trans (k2.weak HGI.out.2.2)
                    replace R0 := R0.kp k2 (HAP02.out)
                    replace R1 := R1.kp k2 (HAP12.out)
                    replace R2 := o2
                    refine hK.out _ _ hHeld (fun _ => ?_)
                    clear hK K o2 k2 T2
                    (try simp only [Act.put, List.setIfInBounds_toArray, List.set_cons_zero, List.set_cons_succ])
                    refine wpAnyH_take (i := 16) (oi := { dst := some 69, op := Op.call { callee := Callee.builtin Builtin.len, args := #[Operand.tmp 68], argTypes := #[24] }, type := 3, pos := "law.go:233", after := #[{ on := 15, ground := Ground.data }], guard := none }) (v := ?_) rfl (by kernel_rfl) (by kernel_rfl) (by kernel_rfl) (fun _ _ _ h => h) (Or.inl ⟨by rfl, ?_⟩) hHeld ?_
                    rotate_left
                    · intro w hSw; (try dsimp only at hSw); obtain ⟨y0, y1, y2⟩ := HBXC.out _ hSw; go_simp; try with_reducible rfl
                    (try simp only [Act.put, List.setIfInBounds_toArray, List.set_cons_zero, List.set_cons_succ])
                    refine wpAnyH_take (i := 17) (oi := { dst := some 70, op := Op.binOp BinOp.add 3 (Operand.tmp 63) (Operand.tmp 69) 3, type := 3, pos := "law.go:233", after := #[{ on := 10, ground := Ground.data }, { on := 16, ground := Ground.data }], guard := none }) (v := ?_) rfl (by kernel_rfl) (by kernel_rfl) (by kernel_rfl) (fun _ _ _ h => h) (Or.inl ⟨by rfl, ?_⟩) hHeld ?_
                    rotate_left
                    · intro w hSw; (try dsimp only at hSw); obtain ⟨y0, y1, y2⟩ := HBXC.out _ hSw; go_simp; try with_reducible rfl
                    (try simp only [Act.put, List.setIfInBounds_toArray, List.set_cons_zero, List.set_cons_succ])
                    refine wpAnyH_take (i := 18) (oi := { dst := some 13, op := Op.assign (Operand.tmp 70), type := 3, pos := "law.go:233", after := #[{ on := 17, ground := Ground.data }, { on := 15, ground := Ground.chain }, { on := 0, ground := Ground.phase }, { on := 1, ground := Ground.phase }, { on := 2, ground := Ground.phase }, { on := 3, ground := Ground.phase }, { on := 4, ground := Ground.phase }, { on := 5, ground := Ground.phase }, { on := 6, ground := Ground.phase }, { on := 7, ground := Ground.phase }, { on := 8, ground := Ground.phase }, { on := 9, ground := Ground.phase }, { on := 10, ground := Ground.phase }, { on := 11, ground := Ground.phase }, { on := 12, ground := Ground.phase }, { on := 13, ground := Ground.phase }, { on := 14, ground := Ground.phase }, { on := 15, ground := Ground.phase }, { on := 16, ground := Ground.phase }, { on := 17, ground := Ground.phase }], guard := none }) (v := ?_) rfl (by kernel_rfl) (by kernel_rfl) (by kernel_rfl) (fun _ _ _ h => h) (Or.inl ⟨by rfl, ?_⟩) hHeld ?_
                    rotate_left
                    · intro w hSw; (try dsimp only at hSw); obtain ⟨y0, y1, y2⟩ := HBXC.out _ hSw; go_simp; try with_reducible rfl
                    (try simp only [Act.put, List.setIfInBounds_toArray, List.set_cons_zero, List.set_cons_succ])
                    refine wpAnyH_done (by kernel_rfl) ?_ _
                    refine NoPanic.normal ?_
                    go_wp2
                    go_meet
                    case rel => exact ⟨_, rfl, by omega, OwnF.row elT R0, OwnF.row elT R1, hHeld⟩
            · skip
              have T2 := srcN (F := G) elP X14 (-9, 0) #[.int .i64 (-9), .int .i64 0] rfl (fun h => by have h1 := (HGR.out _ h).2; have h2 := hHeld.size; have h3 := HSZ9.out; omega)
              have hb : Below X14.heap.size X14 (X14.alloc (.cells #[.int .i64 (-9), .int .i64 0] 30)) := (Below.refl _ _).alloc (Nat.le_refl _) _
              have hHeld := hHeld.trans (Kp.of_below hb)
              replace R0 := R0.on hb
              replace R1 := R1.on hb
              replace R2 := R2.on hb
              replace T0 := T0.kp (Kp.of_below hb)
              replace T1 := T1.kp (Kp.of_below hb)
              go_simp
              refine hK.out _ _ hHeld (fun _ => ?_)
              clear hK K hb
              (try simp only [Act.put, List.setIfInBounds_toArray, List.set_cons_zero, List.set_cons_succ])
              generalize X14.alloc (.cells #[.int .i64 (-9), .int .i64 0] 30) = X22 at hHeld R0 R1 R2 T2 T0 T1 ⊢
              refine wpAnyH_ready (rs := [3]) (by kernel_rfl) (by simp) (AllReadyH.cons (o := { dst := some 56, op := Op.call { callee := Callee.builtin Builtin.append, args := #[Operand.tmp 54, Operand.tmp 55], argTypes := #[23, 23] }, type := 23, pos := "law.go:233", after := #[{ on := 1, ground := Ground.data }, { on := 2, ground := Ground.data }], guard := none }) rfl (fun K hK => ?_) (AllReadyH.nil))
              · skip
                refine stepG_keep (F := fun b => w5.heap.size ≤ b) elT rfl (.tmp 54) (.tmp 55) rfl (.slice d0 m0 e0) M0 m0 HLN.out.1 ⟨#[47, 51]⟩ (X0.heap.size) 1 (by first | rfl | simp [Act.eval]) (by first | rfl | simp [Act.eval]) R0 T0.row (txL_one _) (by have := HLN.out; omega) ?_
                intro ao0 cp0 X23 o0 k0
                have hHeld := hHeld.trans (k0.weak HGI.out.1)
                replace R1 := R1.kp k0 (HAP10.out)
                replace R2 := R2.kp k0 (HAP20.out)
                replace R0 := o0
                replace T1 := T1.kp (k0.weak HGI.out.1)
                replace T2 := T2.kp (k0.weak HGI.out.1)
                refine hK.out _ _ hHeld (fun _ => ?_)
                clear hK K o0 k0 T0
                (try simp only [Act.put, List.setIfInBounds_toArray, List.set_cons_zero, List.set_cons_succ])
                refine wpAnyH_take (i := 4) (oi := { dst := some 57, op := Op.call { callee := Callee.builtin Builtin.len, args := #[Operand.tmp 56], argTypes := #[23] }, type := 3, pos := "law.go:233", after := #[{ on := 3, ground := Ground.data }], guard := none }) (v := ?_) rfl (by kernel_rfl) (by kernel_rfl) (by kernel_rfl) (fun _ _ _ h => h) (Or.inl ⟨by rfl, ?_⟩) hHeld ?_
                rotate_left
                · intro w hSw; (try dsimp only at hSw); obtain ⟨y0, y1, y2⟩ := HBXC.out _ hSw; go_simp; try with_reducible rfl
                (try simp only [Act.put, List.setIfInBounds_toArray, List.set_cons_zero, List.set_cons_succ])
                refine wpAnyH_ready (rs := [8]) (by kernel_rfl) (by simp) (AllReadyH.cons (o := { dst := some 61, op := Op.call { callee := Callee.builtin Builtin.append, args := #[Operand.tmp 59, Operand.tmp 60], argTypes := #[23, 23] }, type := 23, pos := "law.go:233", after := #[{ on := 6, ground := Ground.data }, { on := 7, ground := Ground.data }, { on := 3, ground := Ground.chain }], guard := none }) rfl (fun K hK => ?_) (AllReadyH.nil))
                · skip
                  refine stepG_keep (F := fun b => w5.heap.size ≤ b) elT rfl (.tmp 59) (.tmp 60) rfl (.slice d1 m1 e1) M1 m1 HLN.out.2.1 ⟨#[47, 51]⟩ (X1.heap.size) 1 (by first | rfl | simp [Act.eval]) (by first | rfl | simp [Act.eval]) R1 T1.row (txL_one _) (by have := HLN.out; omega) ?_
                  intro ao1 cp1 X24 o1 k1
                  have hHeld := hHeld.trans (k1.weak HGI.out.2.1)
                  replace R0 := R0.kp k1 (HAP01.out)
                  replace R2 := R2.kp k1 (HAP21.out)
                  replace R1 := o1
                  replace T2 := T2.kp (k1.weak HGI.out.2.1)
                  refine hK.out _ _ hHeld (fun _ => ?_)
                  clear hK K o1 k1 T1
                  (try simp only [Act.put, List.setIfInBounds_toArray, List.set_cons_zero, List.set_cons_succ])
                  refine wpAnyH_take (i := 9) (oi := { dst := some 62, op := Op.call { callee := Callee.builtin Builtin.len, args := #[Operand.tmp 61], argTypes := #[23] }, type := 3, pos := "law.go:233", after := #[{ on := 8, ground := Ground.data }], guard := none }) (v := ?_) rfl (by kernel_rfl) (by kernel_rfl) (by kernel_rfl) (fun _ _ _ h => h) (Or.inl ⟨by rfl, ?_⟩) hHeld ?_
                  rotate_left
                  · intro w hSw; (try dsimp only at hSw); obtain ⟨y0, y1, y2⟩ := HBXC.out _ hSw; go_simp; try with_reducible rfl
                  (try simp only [Act.put, List.setIfInBounds_toArray, List.set_cons_zero, List.set_cons_succ])
                  refine wpAnyH_take (i := 10) (oi := { dst := some 63, op := Op.binOp BinOp.add 3 (Operand.tmp 57) (Operand.tmp 62) 3, type := 3, pos := "law.go:233", after := #[{ on := 4, ground := Ground.data }, { on := 9, ground := Ground.data }], guard := none }) (v := ?_) rfl (by kernel_rfl) (by kernel_rfl) (by kernel_rfl) (fun _ _ _ h => h) (Or.inl ⟨by rfl, ?_⟩) hHeld ?_
                  rotate_left
                  · intro w hSw; (try dsimp only at hSw); obtain ⟨y0, y1, y2⟩ := HBXC.out _ hSw; go_simp; try with_reducible rfl
                  (try simp only [Act.put, List.setIfInBounds_toArray, List.set_cons_zero, List.set_cons_succ])
                  refine wpAnyH_ready (rs := [15]) (by kernel_rfl) (by simp) (AllReadyH.cons (o := { dst := some 68, op := Op.call { callee := Callee.builtin Builtin.append, args := #[Operand.tmp 65, Operand.tmp 67], argTypes := #[24, 24] }, type := 24, pos := "law.go:233", after := #[{ on := 12, ground := Ground.data }, { on := 14, ground := Ground.data }, { on := 8, ground := Ground.chain }], guard := none }) rfl (fun K hK => ?_) (AllReadyH.nil))
                  · skip
                    refine stepG_keep (F := fun b => w5.heap.size ≤ b) elP rfl (.tmp 65) (.tmp 67) rfl (.slice d2 k e2) M2 k HLN.out.2.2 (-9, 0) (X14.heap.size) 1 (by first | rfl | simp [Act.eval]) (by first | rfl | simp [Act.eval]) R2 T2.row (paL_one _) (by have := HLN.out; omega) ?_
                    intro ao2 cp2 X25 o2 k2
                    have hHeld := hHeld.trans (k2.weak HGI.out.2.2)
                    replace R0 := R0.kp k2 (HAP02.out)
                    replace R1 := R1.kp k2 (HAP12.out)
                    replace R2 := o2
                    refine hK.out _ _ hHeld (fun _ => ?_)
                    clear hK K o2 k2 T2
                    (try simp only [Act.put, List.setIfInBounds_toArray, List.set_cons_zero, List.set_cons_succ])
                    refine wpAnyH_take (i := 16) (oi := { dst := some 69, op := Op.call { callee := Callee.builtin Builtin.len, args := #[Operand.tmp 68], argTypes := #[24] }, type := 3, pos := "law.go:233", after := #[{ on := 15, ground := Ground.data }], guard := none }) (v := ?_) rfl (by kernel_rfl) (by kernel_rfl) (by kernel_rfl) (fun _ _ _ h => h) (Or.inl ⟨by rfl, ?_⟩) hHeld ?_
                    rotate_left
                    · intro w hSw; (try dsimp only at hSw); obtain ⟨y0, y1, y2⟩ := HBXC.out _ hSw; go_simp; try with_reducible rfl
                    (try simp only [Act.put, List.setIfInBounds_toArray, List.set_cons_zero, List.set_cons_succ])
                    refine wpAnyH_take (i := 17) (oi := { dst := some 70, op := Op.binOp BinOp.add 3 (Operand.tmp 63) (Operand.tmp 69) 3, type := 3, pos := "law.go:233", after := #[{ on := 10, ground := Ground.data }, { on := 16, ground := Ground.data }], guard := none }) (v := ?_) rfl (by kernel_rfl) (by kernel_rfl) (by kernel_rfl) (fun _ _ _ h => h) (Or.inl ⟨by rfl, ?_⟩) hHeld ?_
                    rotate_left
                    · intro w hSw; (try dsimp only at hSw); obtain ⟨y0, y1, y2⟩ := HBXC.out _ hSw; go_simp; try with_reducible rfl
                    (try simp only [Act.put, List.setIfInBounds_toArray, List.set_cons_zero, List.set_cons_succ])
                    refine wpAnyH_take (i := 18) (oi := { dst := some 13, op := Op.assign (Operand.tmp 70), type := 3, pos := "law.go:233", after := #[{ on := 17, ground := Ground.data }, { on := 15, ground := Ground.chain }, { on := 0, ground := Ground.phase }, { on := 1, ground := Ground.phase }, { on := 2, ground := Ground.phase }, { on := 3, ground := Ground.phase }, { on := 4, ground := Ground.phase }, { on := 5, ground := Ground.phase }, { on := 6, ground := Ground.phase }, { on := 7, ground := Ground.phase }, { on := 8, ground := Ground.phase }, { on := 9, ground := Ground.phase }, { on := 10, ground := Ground.phase }, { on := 11, ground := Ground.phase }, { on := 12, ground := Ground.phase }, { on := 13, ground := Ground.phase }, { on := 14, ground := Ground.phase }, { on := 15, ground := Ground.phase }, { on := 16, ground := Ground.phase }, { on := 17, ground := Ground.phase }], guard := none }) (v := ?_) rfl (by kernel_rfl) (by kernel_rfl) (by kernel_rfl) (fun _ _ _ h => h) (Or.inl ⟨by rfl, ?_⟩) hHeld ?_
                    rotate_left
                    · intro w hSw; (try dsimp only at hSw); obtain ⟨y0, y1, y2⟩ := HBXC.out _ hSw; go_simp; try with_reducible rfl
                    (try simp only [Act.put, List.setIfInBounds_toArray, List.set_cons_zero, List.set_cons_succ])
                    refine wpAnyH_done (by kernel_rfl) ?_ _
                    refine NoPanic.normal ?_
                    go_wp2
                    go_meet
                    case rel => exact ⟨_, rfl, by omega, OwnF.row elT R0, OwnF.row elT R1, hHeld⟩
          · skip
            have T2 := srcN (F := G) elP X1 (-9, 0) #[.int .i64 (-9), .int .i64 0] rfl (fun h => by have h1 := (HGR.out _ h).2; have h2 := hHeld.size; have h3 := HSZ9.out; omega)
            have hb : Below X1.heap.size X1 (X1.alloc (.cells #[.int .i64 (-9), .int .i64 0] 30)) := (Below.refl _ _).alloc (Nat.le_refl _) _
            have hHeld := hHeld.trans (Kp.of_below hb)
            replace R0 := R0.on hb
            replace R1 := R1.on hb
            replace R2 := R2.on hb
            replace T0 := T0.kp (Kp.of_below hb)
            go_simp
            refine hK.out _ _ hHeld (fun _ => ?_)
            clear hK K hb
            (try simp only [Act.put, List.setIfInBounds_toArray, List.set_cons_zero, List.set_cons_succ])
            generalize X1.alloc (.cells #[.int .i64 (-9), .int .i64 0] 30) = X26 at hHeld R0 R1 R2 T2 T0 ⊢
            refine wpAnyH_ready (rs := [3, 7]) (by kernel_rfl) (by simp) (AllReadyH.cons (o := { dst := some 56, op := Op.call { callee := Callee.builtin Builtin.append, args := #[Operand.tmp 54, Operand.tmp 55], argTypes := #[23, 23] }, type := 23, pos := "law.go:233", after := #[{ on := 1, ground := Ground.data }, { on := 2, ground := Ground.data }], guard := none }) rfl (fun K hK => ?_) (AllReadyH.cons (o := { dst := some 60, op := Op.buildSlice 23 1 #[(0, Operand.const (Value.string { data := #[47, 51] }))], type := 23, pos := "law.go:233", after := #[], guard := none }) rfl (fun K hK => ?_) (AllReadyH.nil)))
            · skip
              refine stepG_keep (F := fun b => w5.heap.size ≤ b) elT rfl (.tmp 54) (.tmp 55) rfl (.slice d0 m0 e0) M0 m0 HLN.out.1 ⟨#[47, 51]⟩ (X0.heap.size) 1 (by first | rfl | simp [Act.eval]) (by first | rfl | simp [Act.eval]) R0 T0.row (txL_one _) (by have := HLN.out; omega) ?_
              intro ao0 cp0 X27 o0 k0
              have hHeld := hHeld.trans (k0.weak HGI.out.1)
              replace R1 := R1.kp k0 (HAP10.out)
              replace R2 := R2.kp k0 (HAP20.out)
              replace R0 := o0
              replace T2 := T2.kp (k0.weak HGI.out.1)
              refine hK.out _ _ hHeld (fun _ => ?_)
              clear hK K o0 k0 T0
              (try simp only [Act.put, List.setIfInBounds_toArray, List.set_cons_zero, List.set_cons_succ])
              refine wpAnyH_take (i := 4) (oi := { dst := some 57, op := Op.call { callee := Callee.builtin Builtin.len, args := #[Operand.tmp 56], argTypes := #[23] }, type := 3, pos := "law.go:233", after := #[{ on := 3, ground := Ground.data }], guard := none }) (v := ?_) rfl (by kernel_rfl) (by kernel_rfl) (by kernel_rfl) (fun _ _ _ h => h) (Or.inl ⟨by rfl, ?_⟩) hHeld ?_
              rotate_left
              · intro w hSw; (try dsimp only at hSw); obtain ⟨y0, y1, y2⟩ := HBXC.out _ hSw; go_simp; try with_reducible rfl
              (try simp only [Act.put, List.setIfInBounds_toArray, List.set_cons_zero, List.set_cons_succ])
              refine wpAnyH_ready (rs := [7]) (by kernel_rfl) (by simp) (AllReadyH.cons (o := { dst := some 60, op := Op.buildSlice 23 1 #[(0, Operand.const (Value.string { data := #[47, 51] }))], type := 23, pos := "law.go:233", after := #[], guard := none }) rfl (fun K hK => ?_) (AllReadyH.nil))
              · skip
                have T1 := srcN (F := G) elT X27 ⟨#[47, 51]⟩ #[.string ⟨#[47, 51]⟩] rfl (fun h => by have h1 := (HGR.out _ h).2; have h2 := hHeld.size; have h3 := HSZ9.out; omega)
                have hb : Below X27.heap.size X27 (X27.alloc (.cells #[.string ⟨#[47, 51]⟩] 9)) := (Below.refl _ _).alloc (Nat.le_refl _) _
                have hHeld := hHeld.trans (Kp.of_below hb)
                replace R0 := R0.on hb
                replace R1 := R1.on hb
                replace R2 := R2.on hb
                replace T2 := T2.kp (Kp.of_below hb)
                go_simp
                refine hK.out _ _ hHeld (fun _ => ?_)
                clear hK K hb
                (try simp only [Act.put, List.setIfInBounds_toArray, List.set_cons_zero, List.set_cons_succ])
                generalize X27.alloc (.cells #[.string ⟨#[47, 51]⟩] 9) = X28 at hHeld R0 R1 R2 T1 T2 ⊢
                refine wpAnyH_ready (rs := [8]) (by kernel_rfl) (by simp) (AllReadyH.cons (o := { dst := some 61, op := Op.call { callee := Callee.builtin Builtin.append, args := #[Operand.tmp 59, Operand.tmp 60], argTypes := #[23, 23] }, type := 23, pos := "law.go:233", after := #[{ on := 6, ground := Ground.data }, { on := 7, ground := Ground.data }, { on := 3, ground := Ground.chain }], guard := none }) rfl (fun K hK => ?_) (AllReadyH.nil))
                · skip
                  refine stepG_keep (F := fun b => w5.heap.size ≤ b) elT rfl (.tmp 59) (.tmp 60) rfl (.slice d1 m1 e1) M1 m1 HLN.out.2.1 ⟨#[47, 51]⟩ (X27.heap.size) 1 (by first | rfl | simp [Act.eval]) (by first | rfl | simp [Act.eval]) R1 T1.row (txL_one _) (by have := HLN.out; omega) ?_
                  intro ao1 cp1 X29 o1 k1
                  have hHeld := hHeld.trans (k1.weak HGI.out.2.1)
                  replace R0 := R0.kp k1 (HAP01.out)
                  replace R2 := R2.kp k1 (HAP21.out)
                  replace R1 := o1
                  replace T2 := T2.kp (k1.weak HGI.out.2.1)
                  refine hK.out _ _ hHeld (fun _ => ?_)
                  clear hK K o1 k1 T1
                  (try simp only [Act.put, List.setIfInBounds_toArray, List.set_cons_zero, List.set_cons_succ])
                  refine wpAnyH_take (i := 9) (oi := { dst := some 62, op := Op.call { callee := Callee.builtin Builtin.len, args := #[Operand.tmp 61], argTypes := #[23] }, type := 3, pos := "law.go:233", after := #[{ on := 8, ground := Ground.data }], guard := none }) (v := ?_) rfl (by kernel_rfl) (by kernel_rfl) (by kernel_rfl) (fun _ _ _ h => h) (Or.inl ⟨by rfl, ?_⟩) hHeld ?_
                  rotate_left
                  · intro w hSw; (try dsimp only at hSw); obtain ⟨y0, y1, y2⟩ := HBXC.out _ hSw; go_simp; try with_reducible rfl
                  (try simp only [Act.put, List.setIfInBounds_toArray, List.set_cons_zero, List.set_cons_succ])
                  refine wpAnyH_take (i := 10) (oi := { dst := some 63, op := Op.binOp BinOp.add 3 (Operand.tmp 57) (Operand.tmp 62) 3, type := 3, pos := "law.go:233", after := #[{ on := 4, ground := Ground.data }, { on := 9, ground := Ground.data }], guard := none }) (v := ?_) rfl (by kernel_rfl) (by kernel_rfl) (by kernel_rfl) (fun _ _ _ h => h) (Or.inl ⟨by rfl, ?_⟩) hHeld ?_
                  rotate_left
                  · intro w hSw; (try dsimp only at hSw); obtain ⟨y0, y1, y2⟩ := HBXC.out _ hSw; go_simp; try with_reducible rfl
                  (try simp only [Act.put, List.setIfInBounds_toArray, List.set_cons_zero, List.set_cons_succ])
                  refine wpAnyH_ready (rs := [15]) (by kernel_rfl) (by simp) (AllReadyH.cons (o := { dst := some 68, op := Op.call { callee := Callee.builtin Builtin.append, args := #[Operand.tmp 65, Operand.tmp 67], argTypes := #[24, 24] }, type := 24, pos := "law.go:233", after := #[{ on := 12, ground := Ground.data }, { on := 14, ground := Ground.data }, { on := 8, ground := Ground.chain }], guard := none }) rfl (fun K hK => ?_) (AllReadyH.nil))
                  · skip
                    refine stepG_keep (F := fun b => w5.heap.size ≤ b) elP rfl (.tmp 65) (.tmp 67) rfl (.slice d2 k e2) M2 k HLN.out.2.2 (-9, 0) (X1.heap.size) 1 (by first | rfl | simp [Act.eval]) (by first | rfl | simp [Act.eval]) R2 T2.row (paL_one _) (by have := HLN.out; omega) ?_
                    intro ao2 cp2 X30 o2 k2
                    have hHeld := hHeld.trans (k2.weak HGI.out.2.2)
                    replace R0 := R0.kp k2 (HAP02.out)
                    replace R1 := R1.kp k2 (HAP12.out)
                    replace R2 := o2
                    refine hK.out _ _ hHeld (fun _ => ?_)
                    clear hK K o2 k2 T2
                    (try simp only [Act.put, List.setIfInBounds_toArray, List.set_cons_zero, List.set_cons_succ])
                    refine wpAnyH_take (i := 16) (oi := { dst := some 69, op := Op.call { callee := Callee.builtin Builtin.len, args := #[Operand.tmp 68], argTypes := #[24] }, type := 3, pos := "law.go:233", after := #[{ on := 15, ground := Ground.data }], guard := none }) (v := ?_) rfl (by kernel_rfl) (by kernel_rfl) (by kernel_rfl) (fun _ _ _ h => h) (Or.inl ⟨by rfl, ?_⟩) hHeld ?_
                    rotate_left
                    · intro w hSw; (try dsimp only at hSw); obtain ⟨y0, y1, y2⟩ := HBXC.out _ hSw; go_simp; try with_reducible rfl
                    (try simp only [Act.put, List.setIfInBounds_toArray, List.set_cons_zero, List.set_cons_succ])
                    refine wpAnyH_take (i := 17) (oi := { dst := some 70, op := Op.binOp BinOp.add 3 (Operand.tmp 63) (Operand.tmp 69) 3, type := 3, pos := "law.go:233", after := #[{ on := 10, ground := Ground.data }, { on := 16, ground := Ground.data }], guard := none }) (v := ?_) rfl (by kernel_rfl) (by kernel_rfl) (by kernel_rfl) (fun _ _ _ h => h) (Or.inl ⟨by rfl, ?_⟩) hHeld ?_
                    rotate_left
                    · intro w hSw; (try dsimp only at hSw); obtain ⟨y0, y1, y2⟩ := HBXC.out _ hSw; go_simp; try with_reducible rfl
                    (try simp only [Act.put, List.setIfInBounds_toArray, List.set_cons_zero, List.set_cons_succ])
                    refine wpAnyH_take (i := 18) (oi := { dst := some 13, op := Op.assign (Operand.tmp 70), type := 3, pos := "law.go:233", after := #[{ on := 17, ground := Ground.data }, { on := 15, ground := Ground.chain }, { on := 0, ground := Ground.phase }, { on := 1, ground := Ground.phase }, { on := 2, ground := Ground.phase }, { on := 3, ground := Ground.phase }, { on := 4, ground := Ground.phase }, { on := 5, ground := Ground.phase }, { on := 6, ground := Ground.phase }, { on := 7, ground := Ground.phase }, { on := 8, ground := Ground.phase }, { on := 9, ground := Ground.phase }, { on := 10, ground := Ground.phase }, { on := 11, ground := Ground.phase }, { on := 12, ground := Ground.phase }, { on := 13, ground := Ground.phase }, { on := 14, ground := Ground.phase }, { on := 15, ground := Ground.phase }, { on := 16, ground := Ground.phase }, { on := 17, ground := Ground.phase }], guard := none }) (v := ?_) rfl (by kernel_rfl) (by kernel_rfl) (by kernel_rfl) (fun _ _ _ h => h) (Or.inl ⟨by rfl, ?_⟩) hHeld ?_
                    rotate_left
                    · intro w hSw; (try dsimp only at hSw); obtain ⟨y0, y1, y2⟩ := HBXC.out _ hSw; go_simp; try with_reducible rfl
                    (try simp only [Act.put, List.setIfInBounds_toArray, List.set_cons_zero, List.set_cons_succ])
                    refine wpAnyH_done (by kernel_rfl) ?_ _
                    refine NoPanic.normal ?_
                    go_wp2
                    go_meet
                    case rel => exact ⟨_, rfl, by omega, OwnF.row elT R0, OwnF.row elT R1, hHeld⟩
            · skip
              have T1 := srcN (F := G) elT X26 ⟨#[47, 51]⟩ #[.string ⟨#[47, 51]⟩] rfl (fun h => by have h1 := (HGR.out _ h).2; have h2 := hHeld.size; have h3 := HSZ9.out; omega)
              have hb : Below X26.heap.size X26 (X26.alloc (.cells #[.string ⟨#[47, 51]⟩] 9)) := (Below.refl _ _).alloc (Nat.le_refl _) _
              have hHeld := hHeld.trans (Kp.of_below hb)
              replace R0 := R0.on hb
              replace R1 := R1.on hb
              replace R2 := R2.on hb
              replace T0 := T0.kp (Kp.of_below hb)
              replace T2 := T2.kp (Kp.of_below hb)
              go_simp
              refine hK.out _ _ hHeld (fun _ => ?_)
              clear hK K hb
              (try simp only [Act.put, List.setIfInBounds_toArray, List.set_cons_zero, List.set_cons_succ])
              generalize X26.alloc (.cells #[.string ⟨#[47, 51]⟩] 9) = X31 at hHeld R0 R1 R2 T1 T0 T2 ⊢
              refine wpAnyH_ready (rs := [3]) (by kernel_rfl) (by simp) (AllReadyH.cons (o := { dst := some 56, op := Op.call { callee := Callee.builtin Builtin.append, args := #[Operand.tmp 54, Operand.tmp 55], argTypes := #[23, 23] }, type := 23, pos := "law.go:233", after := #[{ on := 1, ground := Ground.data }, { on := 2, ground := Ground.data }], guard := none }) rfl (fun K hK => ?_) (AllReadyH.nil))
              · skip
                refine stepG_keep (F := fun b => w5.heap.size ≤ b) elT rfl (.tmp 54) (.tmp 55) rfl (.slice d0 m0 e0) M0 m0 HLN.out.1 ⟨#[47, 51]⟩ (X0.heap.size) 1 (by first | rfl | simp [Act.eval]) (by first | rfl | simp [Act.eval]) R0 T0.row (txL_one _) (by have := HLN.out; omega) ?_
                intro ao0 cp0 X32 o0 k0
                have hHeld := hHeld.trans (k0.weak HGI.out.1)
                replace R1 := R1.kp k0 (HAP10.out)
                replace R2 := R2.kp k0 (HAP20.out)
                replace R0 := o0
                replace T2 := T2.kp (k0.weak HGI.out.1)
                replace T1 := T1.kp (k0.weak HGI.out.1)
                refine hK.out _ _ hHeld (fun _ => ?_)
                clear hK K o0 k0 T0
                (try simp only [Act.put, List.setIfInBounds_toArray, List.set_cons_zero, List.set_cons_succ])
                refine wpAnyH_take (i := 4) (oi := { dst := some 57, op := Op.call { callee := Callee.builtin Builtin.len, args := #[Operand.tmp 56], argTypes := #[23] }, type := 3, pos := "law.go:233", after := #[{ on := 3, ground := Ground.data }], guard := none }) (v := ?_) rfl (by kernel_rfl) (by kernel_rfl) (by kernel_rfl) (fun _ _ _ h => h) (Or.inl ⟨by rfl, ?_⟩) hHeld ?_
                rotate_left
                · intro w hSw; (try dsimp only at hSw); obtain ⟨y0, y1, y2⟩ := HBXC.out _ hSw; go_simp; try with_reducible rfl
                (try simp only [Act.put, List.setIfInBounds_toArray, List.set_cons_zero, List.set_cons_succ])
                refine wpAnyH_ready (rs := [8]) (by kernel_rfl) (by simp) (AllReadyH.cons (o := { dst := some 61, op := Op.call { callee := Callee.builtin Builtin.append, args := #[Operand.tmp 59, Operand.tmp 60], argTypes := #[23, 23] }, type := 23, pos := "law.go:233", after := #[{ on := 6, ground := Ground.data }, { on := 7, ground := Ground.data }, { on := 3, ground := Ground.chain }], guard := none }) rfl (fun K hK => ?_) (AllReadyH.nil))
                · skip
                  refine stepG_keep (F := fun b => w5.heap.size ≤ b) elT rfl (.tmp 59) (.tmp 60) rfl (.slice d1 m1 e1) M1 m1 HLN.out.2.1 ⟨#[47, 51]⟩ (X26.heap.size) 1 (by first | rfl | simp [Act.eval]) (by first | rfl | simp [Act.eval]) R1 T1.row (txL_one _) (by have := HLN.out; omega) ?_
                  intro ao1 cp1 X33 o1 k1
                  have hHeld := hHeld.trans (k1.weak HGI.out.2.1)
                  replace R0 := R0.kp k1 (HAP01.out)
                  replace R2 := R2.kp k1 (HAP21.out)
                  replace R1 := o1
                  replace T2 := T2.kp (k1.weak HGI.out.2.1)
                  refine hK.out _ _ hHeld (fun _ => ?_)
                  clear hK K o1 k1 T1
                  (try simp only [Act.put, List.setIfInBounds_toArray, List.set_cons_zero, List.set_cons_succ])
                  refine wpAnyH_take (i := 9) (oi := { dst := some 62, op := Op.call { callee := Callee.builtin Builtin.len, args := #[Operand.tmp 61], argTypes := #[23] }, type := 3, pos := "law.go:233", after := #[{ on := 8, ground := Ground.data }], guard := none }) (v := ?_) rfl (by kernel_rfl) (by kernel_rfl) (by kernel_rfl) (fun _ _ _ h => h) (Or.inl ⟨by rfl, ?_⟩) hHeld ?_
                  rotate_left
                  · intro w hSw; (try dsimp only at hSw); obtain ⟨y0, y1, y2⟩ := HBXC.out _ hSw; go_simp; try with_reducible rfl
                  (try simp only [Act.put, List.setIfInBounds_toArray, List.set_cons_zero, List.set_cons_succ])
                  refine wpAnyH_take (i := 10) (oi := { dst := some 63, op := Op.binOp BinOp.add 3 (Operand.tmp 57) (Operand.tmp 62) 3, type := 3, pos := "law.go:233", after := #[{ on := 4, ground := Ground.data }, { on := 9, ground := Ground.data }], guard := none }) (v := ?_) rfl (by kernel_rfl) (by kernel_rfl) (by kernel_rfl) (fun _ _ _ h => h) (Or.inl ⟨by rfl, ?_⟩) hHeld ?_
                  rotate_left
                  · intro w hSw; (try dsimp only at hSw); obtain ⟨y0, y1, y2⟩ := HBXC.out _ hSw; go_simp; try with_reducible rfl
                  (try simp only [Act.put, List.setIfInBounds_toArray, List.set_cons_zero, List.set_cons_succ])
                  refine wpAnyH_ready (rs := [15]) (by kernel_rfl) (by simp) (AllReadyH.cons (o := { dst := some 68, op := Op.call { callee := Callee.builtin Builtin.append, args := #[Operand.tmp 65, Operand.tmp 67], argTypes := #[24, 24] }, type := 24, pos := "law.go:233", after := #[{ on := 12, ground := Ground.data }, { on := 14, ground := Ground.data }, { on := 8, ground := Ground.chain }], guard := none }) rfl (fun K hK => ?_) (AllReadyH.nil))
                  · skip
                    refine stepG_keep (F := fun b => w5.heap.size ≤ b) elP rfl (.tmp 65) (.tmp 67) rfl (.slice d2 k e2) M2 k HLN.out.2.2 (-9, 0) (X1.heap.size) 1 (by first | rfl | simp [Act.eval]) (by first | rfl | simp [Act.eval]) R2 T2.row (paL_one _) (by have := HLN.out; omega) ?_
                    intro ao2 cp2 X34 o2 k2
                    have hHeld := hHeld.trans (k2.weak HGI.out.2.2)
                    replace R0 := R0.kp k2 (HAP02.out)
                    replace R1 := R1.kp k2 (HAP12.out)
                    replace R2 := o2
                    refine hK.out _ _ hHeld (fun _ => ?_)
                    clear hK K o2 k2 T2
                    (try simp only [Act.put, List.setIfInBounds_toArray, List.set_cons_zero, List.set_cons_succ])
                    refine wpAnyH_take (i := 16) (oi := { dst := some 69, op := Op.call { callee := Callee.builtin Builtin.len, args := #[Operand.tmp 68], argTypes := #[24] }, type := 3, pos := "law.go:233", after := #[{ on := 15, ground := Ground.data }], guard := none }) (v := ?_) rfl (by kernel_rfl) (by kernel_rfl) (by kernel_rfl) (fun _ _ _ h => h) (Or.inl ⟨by rfl, ?_⟩) hHeld ?_
                    rotate_left
                    · intro w hSw; (try dsimp only at hSw); obtain ⟨y0, y1, y2⟩ := HBXC.out _ hSw; go_simp; try with_reducible rfl
                    (try simp only [Act.put, List.setIfInBounds_toArray, List.set_cons_zero, List.set_cons_succ])
                    refine wpAnyH_take (i := 17) (oi := { dst := some 70, op := Op.binOp BinOp.add 3 (Operand.tmp 63) (Operand.tmp 69) 3, type := 3, pos := "law.go:233", after := #[{ on := 10, ground := Ground.data }, { on := 16, ground := Ground.data }], guard := none }) (v := ?_) rfl (by kernel_rfl) (by kernel_rfl) (by kernel_rfl) (fun _ _ _ h => h) (Or.inl ⟨by rfl, ?_⟩) hHeld ?_
                    rotate_left
                    · intro w hSw; (try dsimp only at hSw); obtain ⟨y0, y1, y2⟩ := HBXC.out _ hSw; go_simp; try with_reducible rfl
                    (try simp only [Act.put, List.setIfInBounds_toArray, List.set_cons_zero, List.set_cons_succ])
                    refine wpAnyH_take (i := 18) (oi := { dst := some 13, op := Op.assign (Operand.tmp 70), type := 3, pos := "law.go:233", after := #[{ on := 17, ground := Ground.data }, { on := 15, ground := Ground.chain }, { on := 0, ground := Ground.phase }, { on := 1, ground := Ground.phase }, { on := 2, ground := Ground.phase }, { on := 3, ground := Ground.phase }, { on := 4, ground := Ground.phase }, { on := 5, ground := Ground.phase }, { on := 6, ground := Ground.phase }, { on := 7, ground := Ground.phase }, { on := 8, ground := Ground.phase }, { on := 9, ground := Ground.phase }, { on := 10, ground := Ground.phase }, { on := 11, ground := Ground.phase }, { on := 12, ground := Ground.phase }, { on := 13, ground := Ground.phase }, { on := 14, ground := Ground.phase }, { on := 15, ground := Ground.phase }, { on := 16, ground := Ground.phase }, { on := 17, ground := Ground.phase }], guard := none }) (v := ?_) rfl (by kernel_rfl) (by kernel_rfl) (by kernel_rfl) (fun _ _ _ h => h) (Or.inl ⟨by rfl, ?_⟩) hHeld ?_
                    rotate_left
                    · intro w hSw; (try dsimp only at hSw); obtain ⟨y0, y1, y2⟩ := HBXC.out _ hSw; go_simp; try with_reducible rfl
                    (try simp only [Act.put, List.setIfInBounds_toArray, List.set_cons_zero, List.set_cons_succ])
                    refine wpAnyH_done (by kernel_rfl) ?_ _
                    refine NoPanic.normal ?_
                    go_wp2
                    go_meet
                    case rel => exact ⟨_, rfl, by omega, OwnF.row elT R0, OwnF.row elT R1, hHeld⟩
        · skip
          have T1 := srcN (F := G) elT X0 ⟨#[47, 51]⟩ #[.string ⟨#[47, 51]⟩] rfl (fun h => by have h1 := (HGR.out _ h).2; have h2 := hHeld.size; have h3 := HSZ9.out; omega)
          have hb : Below X0.heap.size X0 (X0.alloc (.cells #[.string ⟨#[47, 51]⟩] 9)) := (Below.refl _ _).alloc (Nat.le_refl _) _
          have hHeld := hHeld.trans (Kp.of_below hb)
          replace R0 := R0.on hb
          replace R1 := R1.on hb
          replace R2 := R2.on hb
          go_simp
          refine hK.out _ _ hHeld (fun _ => ?_)
          clear hK K hb
          (try simp only [Act.put, List.setIfInBounds_toArray, List.set_cons_zero, List.set_cons_succ])
          generalize X0.alloc (.cells #[.string ⟨#[47, 51]⟩] 9) = X35 at hHeld R0 R1 R2 T1  ⊢
          refine wpAnyH_ready (rs := [2, 14]) (by kernel_rfl) (by simp) (AllReadyH.cons (o := { dst := some 55, op := Op.buildSlice 23 1 #[(0, Operand.const (Value.string { data := #[47, 51] }))], type := 23, pos := "law.go:233", after := #[], guard := none }) rfl (fun K hK => ?_) (AllReadyH.cons (o := { dst := some 67, op := Op.buildSlice 24 1 #[(0, Operand.tmp 66)], type := 24, pos := "law.go:233", after := #[{ on := 13, ground := Ground.data }], guard := none }) rfl (fun K hK => ?_) (AllReadyH.nil)))
          · skip
            have T0 := srcN (F := G) elT X35 ⟨#[47, 51]⟩ #[.string ⟨#[47, 51]⟩] rfl (fun h => by have h1 := (HGR.out _ h).2; have h2 := hHeld.size; have h3 := HSZ9.out; omega)
            have hb : Below X35.heap.size X35 (X35.alloc (.cells #[.string ⟨#[47, 51]⟩] 9)) := (Below.refl _ _).alloc (Nat.le_refl _) _
            have hHeld := hHeld.trans (Kp.of_below hb)
            replace R0 := R0.on hb
            replace R1 := R1.on hb
            replace R2 := R2.on hb
            replace T1 := T1.kp (Kp.of_below hb)
            go_simp
            refine hK.out _ _ hHeld (fun _ => ?_)
            clear hK K hb
            (try simp only [Act.put, List.setIfInBounds_toArray, List.set_cons_zero, List.set_cons_succ])
            generalize X35.alloc (.cells #[.string ⟨#[47, 51]⟩] 9) = X36 at hHeld R0 R1 R2 T0 T1 ⊢
            refine wpAnyH_ready (rs := [3, 14]) (by kernel_rfl) (by simp) (AllReadyH.cons (o := { dst := some 56, op := Op.call { callee := Callee.builtin Builtin.append, args := #[Operand.tmp 54, Operand.tmp 55], argTypes := #[23, 23] }, type := 23, pos := "law.go:233", after := #[{ on := 1, ground := Ground.data }, { on := 2, ground := Ground.data }], guard := none }) rfl (fun K hK => ?_) (AllReadyH.cons (o := { dst := some 67, op := Op.buildSlice 24 1 #[(0, Operand.tmp 66)], type := 24, pos := "law.go:233", after := #[{ on := 13, ground := Ground.data }], guard := none }) rfl (fun K hK => ?_) (AllReadyH.nil)))
            · skip
              refine stepG_keep (F := fun b => w5.heap.size ≤ b) elT rfl (.tmp 54) (.tmp 55) rfl (.slice d0 m0 e0) M0 m0 HLN.out.1 ⟨#[47, 51]⟩ (X35.heap.size) 1 (by first | rfl | simp [Act.eval]) (by first | rfl | simp [Act.eval]) R0 T0.row (txL_one _) (by have := HLN.out; omega) ?_
              intro ao0 cp0 X37 o0 k0
              have hHeld := hHeld.trans (k0.weak HGI.out.1)
              replace R1 := R1.kp k0 (HAP10.out)
              replace R2 := R2.kp k0 (HAP20.out)
              replace R0 := o0
              replace T1 := T1.kp (k0.weak HGI.out.1)
              refine hK.out _ _ hHeld (fun _ => ?_)
              clear hK K o0 k0 T0
              (try simp only [Act.put, List.setIfInBounds_toArray, List.set_cons_zero, List.set_cons_succ])
              refine wpAnyH_take (i := 4) (oi := { dst := some 57, op := Op.call { callee := Callee.builtin Builtin.len, args := #[Operand.tmp 56], argTypes := #[23] }, type := 3, pos := "law.go:233", after := #[{ on := 3, ground := Ground.data }], guard := none }) (v := ?_) rfl (by kernel_rfl) (by kernel_rfl) (by kernel_rfl) (fun _ _ _ h => h) (Or.inl ⟨by rfl, ?_⟩) hHeld ?_
              rotate_left
              · intro w hSw; (try dsimp only at hSw); obtain ⟨y0, y1, y2⟩ := HBXC.out _ hSw; go_simp; try with_reducible rfl
              (try simp only [Act.put, List.setIfInBounds_toArray, List.set_cons_zero, List.set_cons_succ])
              refine wpAnyH_ready (rs := [8, 14]) (by kernel_rfl) (by simp) (AllReadyH.cons (o := { dst := some 61, op := Op.call { callee := Callee.builtin Builtin.append, args := #[Operand.tmp 59, Operand.tmp 60], argTypes := #[23, 23] }, type := 23, pos := "law.go:233", after := #[{ on := 6, ground := Ground.data }, { on := 7, ground := Ground.data }, { on := 3, ground := Ground.chain }], guard := none }) rfl (fun K hK => ?_) (AllReadyH.cons (o := { dst := some 67, op := Op.buildSlice 24 1 #[(0, Operand.tmp 66)], type := 24, pos := "law.go:233", after := #[{ on := 13, ground := Ground.data }], guard := none }) rfl (fun K hK => ?_) (AllReadyH.nil)))
              · skip
                refine stepG_keep (F := fun b => w5.heap.size ≤ b) elT rfl (.tmp 59) (.tmp 60) rfl (.slice d1 m1 e1) M1 m1 HLN.out.2.1 ⟨#[47, 51]⟩ (X0.heap.size) 1 (by first | rfl | simp [Act.eval]) (by first | rfl | simp [Act.eval]) R1 T1.row (txL_one _) (by have := HLN.out; omega) ?_
                intro ao1 cp1 X38 o1 k1
                have hHeld := hHeld.trans (k1.weak HGI.out.2.1)
                replace R0 := R0.kp k1 (HAP01.out)
                replace R2 := R2.kp k1 (HAP21.out)
                replace R1 := o1
                refine hK.out _ _ hHeld (fun _ => ?_)
                clear hK K o1 k1 T1
                (try simp only [Act.put, List.setIfInBounds_toArray, List.set_cons_zero, List.set_cons_succ])
                refine wpAnyH_take (i := 9) (oi := { dst := some 62, op := Op.call { callee := Callee.builtin Builtin.len, args := #[Operand.tmp 61], argTypes := #[23] }, type := 3, pos := "law.go:233", after := #[{ on := 8, ground := Ground.data }], guard := none }) (v := ?_) rfl (by kernel_rfl) (by kernel_rfl) (by kernel_rfl) (fun _ _ _ h => h) (Or.inl ⟨by rfl, ?_⟩) hHeld ?_
                rotate_left
                · intro w hSw; (try dsimp only at hSw); obtain ⟨y0, y1, y2⟩ := HBXC.out _ hSw; go_simp; try with_reducible rfl
                (try simp only [Act.put, List.setIfInBounds_toArray, List.set_cons_zero, List.set_cons_succ])
                refine wpAnyH_take (i := 10) (oi := { dst := some 63, op := Op.binOp BinOp.add 3 (Operand.tmp 57) (Operand.tmp 62) 3, type := 3, pos := "law.go:233", after := #[{ on := 4, ground := Ground.data }, { on := 9, ground := Ground.data }], guard := none }) (v := ?_) rfl (by kernel_rfl) (by kernel_rfl) (by kernel_rfl) (fun _ _ _ h => h) (Or.inl ⟨by rfl, ?_⟩) hHeld ?_
                rotate_left
                · intro w hSw; (try dsimp only at hSw); obtain ⟨y0, y1, y2⟩ := HBXC.out _ hSw; go_simp; try with_reducible rfl
                (try simp only [Act.put, List.setIfInBounds_toArray, List.set_cons_zero, List.set_cons_succ])
                refine wpAnyH_ready (rs := [14]) (by kernel_rfl) (by simp) (AllReadyH.cons (o := { dst := some 67, op := Op.buildSlice 24 1 #[(0, Operand.tmp 66)], type := 24, pos := "law.go:233", after := #[{ on := 13, ground := Ground.data }], guard := none }) rfl (fun K hK => ?_) (AllReadyH.nil))
                · skip
                  have T2 := srcN (F := G) elP X38 (-9, 0) #[.int .i64 (-9), .int .i64 0] rfl (fun h => by have h1 := (HGR.out _ h).2; have h2 := hHeld.size; have h3 := HSZ9.out; omega)
                  have hb : Below X38.heap.size X38 (X38.alloc (.cells #[.int .i64 (-9), .int .i64 0] 30)) := (Below.refl _ _).alloc (Nat.le_refl _) _
                  have hHeld := hHeld.trans (Kp.of_below hb)
                  replace R0 := R0.on hb
                  replace R1 := R1.on hb
                  replace R2 := R2.on hb
                  go_simp
                  refine hK.out _ _ hHeld (fun _ => ?_)
                  clear hK K hb
                  (try simp only [Act.put, List.setIfInBounds_toArray, List.set_cons_zero, List.set_cons_succ])
                  generalize X38.alloc (.cells #[.int .i64 (-9), .int .i64 0] 30) = X39 at hHeld R0 R1 R2 T2  ⊢
                  refine wpAnyH_ready (rs := [15]) (by kernel_rfl) (by simp) (AllReadyH.cons (o := { dst := some 68, op := Op.call { callee := Callee.builtin Builtin.append, args := #[Operand.tmp 65, Operand.tmp 67], argTypes := #[24, 24] }, type := 24, pos := "law.go:233", after := #[{ on := 12, ground := Ground.data }, { on := 14, ground := Ground.data }, { on := 8, ground := Ground.chain }], guard := none }) rfl (fun K hK => ?_) (AllReadyH.nil))
                  · skip
                    refine stepG_keep (F := fun b => w5.heap.size ≤ b) elP rfl (.tmp 65) (.tmp 67) rfl (.slice d2 k e2) M2 k HLN.out.2.2 (-9, 0) (X38.heap.size) 1 (by first | rfl | simp [Act.eval]) (by first | rfl | simp [Act.eval]) R2 T2.row (paL_one _) (by have := HLN.out; omega) ?_
                    intro ao2 cp2 X40 o2 k2
                    have hHeld := hHeld.trans (k2.weak HGI.out.2.2)
                    replace R0 := R0.kp k2 (HAP02.out)
                    replace R1 := R1.kp k2 (HAP12.out)
                    replace R2 := o2
                    refine hK.out _ _ hHeld (fun _ => ?_)
                    clear hK K o2 k2 T2
                    (try simp only [Act.put, List.setIfInBounds_toArray, List.set_cons_zero, List.set_cons_succ])
                    refine wpAnyH_take (i := 16) (oi := { dst := some 69, op := Op.call { callee := Callee.builtin Builtin.len, args := #[Operand.tmp 68], argTypes := #[24] }, type := 3, pos := "law.go:233", after := #[{ on := 15, ground := Ground.data }], guard := none }) (v := ?_) rfl (by kernel_rfl) (by kernel_rfl) (by kernel_rfl) (fun _ _ _ h => h) (Or.inl ⟨by rfl, ?_⟩) hHeld ?_
                    rotate_left
                    · intro w hSw; (try dsimp only at hSw); obtain ⟨y0, y1, y2⟩ := HBXC.out _ hSw; go_simp; try with_reducible rfl
                    (try simp only [Act.put, List.setIfInBounds_toArray, List.set_cons_zero, List.set_cons_succ])
                    refine wpAnyH_take (i := 17) (oi := { dst := some 70, op := Op.binOp BinOp.add 3 (Operand.tmp 63) (Operand.tmp 69) 3, type := 3, pos := "law.go:233", after := #[{ on := 10, ground := Ground.data }, { on := 16, ground := Ground.data }], guard := none }) (v := ?_) rfl (by kernel_rfl) (by kernel_rfl) (by kernel_rfl) (fun _ _ _ h => h) (Or.inl ⟨by rfl, ?_⟩) hHeld ?_
                    rotate_left
                    · intro w hSw; (try dsimp only at hSw); obtain ⟨y0, y1, y2⟩ := HBXC.out _ hSw; go_simp; try with_reducible rfl
                    (try simp only [Act.put, List.setIfInBounds_toArray, List.set_cons_zero, List.set_cons_succ])
                    refine wpAnyH_take (i := 18) (oi := { dst := some 13, op := Op.assign (Operand.tmp 70), type := 3, pos := "law.go:233", after := #[{ on := 17, ground := Ground.data }, { on := 15, ground := Ground.chain }, { on := 0, ground := Ground.phase }, { on := 1, ground := Ground.phase }, { on := 2, ground := Ground.phase }, { on := 3, ground := Ground.phase }, { on := 4, ground := Ground.phase }, { on := 5, ground := Ground.phase }, { on := 6, ground := Ground.phase }, { on := 7, ground := Ground.phase }, { on := 8, ground := Ground.phase }, { on := 9, ground := Ground.phase }, { on := 10, ground := Ground.phase }, { on := 11, ground := Ground.phase }, { on := 12, ground := Ground.phase }, { on := 13, ground := Ground.phase }, { on := 14, ground := Ground.phase }, { on := 15, ground := Ground.phase }, { on := 16, ground := Ground.phase }, { on := 17, ground := Ground.phase }], guard := none }) (v := ?_) rfl (by kernel_rfl) (by kernel_rfl) (by kernel_rfl) (fun _ _ _ h => h) (Or.inl ⟨by rfl, ?_⟩) hHeld ?_
                    rotate_left
                    · intro w hSw; (try dsimp only at hSw); obtain ⟨y0, y1, y2⟩ := HBXC.out _ hSw; go_simp; try with_reducible rfl
                    (try simp only [Act.put, List.setIfInBounds_toArray, List.set_cons_zero, List.set_cons_succ])
                    refine wpAnyH_done (by kernel_rfl) ?_ _
                    refine NoPanic.normal ?_
                    go_wp2
                    go_meet
                    case rel => exact ⟨_, rfl, by omega, OwnF.row elT R0, OwnF.row elT R1, hHeld⟩
              · skip
                have T2 := srcN (F := G) elP X37 (-9, 0) #[.int .i64 (-9), .int .i64 0] rfl (fun h => by have h1 := (HGR.out _ h).2; have h2 := hHeld.size; have h3 := HSZ9.out; omega)
                have hb : Below X37.heap.size X37 (X37.alloc (.cells #[.int .i64 (-9), .int .i64 0] 30)) := (Below.refl _ _).alloc (Nat.le_refl _) _
                have hHeld := hHeld.trans (Kp.of_below hb)
                replace R0 := R0.on hb
                replace R1 := R1.on hb
                replace R2 := R2.on hb
                replace T1 := T1.kp (Kp.of_below hb)
                go_simp
                refine hK.out _ _ hHeld (fun _ => ?_)
                clear hK K hb
                (try simp only [Act.put, List.setIfInBounds_toArray, List.set_cons_zero, List.set_cons_succ])
                generalize X37.alloc (.cells #[.int .i64 (-9), .int .i64 0] 30) = X41 at hHeld R0 R1 R2 T2 T1 ⊢
                refine wpAnyH_ready (rs := [8]) (by kernel_rfl) (by simp) (AllReadyH.cons (o := { dst := some 61, op := Op.call { callee := Callee.builtin Builtin.append, args := #[Operand.tmp 59, Operand.tmp 60], argTypes := #[23, 23] }, type := 23, pos := "law.go:233", after := #[{ on := 6, ground := Ground.data }, { on := 7, ground := Ground.data }, { on := 3, ground := Ground.chain }], guard := none }) rfl (fun K hK => ?_) (AllReadyH.nil))
                · skip
                  refine stepG_keep (F := fun b => w5.heap.size ≤ b) elT rfl (.tmp 59) (.tmp 60) rfl (.slice d1 m1 e1) M1 m1 HLN.out.2.1 ⟨#[47, 51]⟩ (X0.heap.size) 1 (by first | rfl | simp [Act.eval]) (by first | rfl | simp [Act.eval]) R1 T1.row (txL_one _) (by have := HLN.out; omega) ?_
                  intro ao1 cp1 X42 o1 k1
                  have hHeld := hHeld.trans (k1.weak HGI.out.2.1)
                  replace R0 := R0.kp k1 (HAP01.out)
                  replace R2 := R2.kp k1 (HAP21.out)
                  replace R1 := o1
                  replace T2 := T2.kp (k1.weak HGI.out.2.1)
                  refine hK.out _ _ hHeld (fun _ => ?_)
                  clear hK K o1 k1 T1
                  (try simp only [Act.put, List.setIfInBounds_toArray, List.set_cons_zero, List.set_cons_succ])
                  refine wpAnyH_take (i := 9) (oi := { dst := some 62, op := Op.call { callee := Callee.builtin Builtin.len, args := #[Operand.tmp 61], argTypes := #[23] }, type := 3, pos := "law.go:233", after := #[{ on := 8, ground := Ground.data }], guard := none }) (v := ?_) rfl (by kernel_rfl) (by kernel_rfl) (by kernel_rfl) (fun _ _ _ h => h) (Or.inl ⟨by rfl, ?_⟩) hHeld ?_
                  rotate_left
                  · intro w hSw; (try dsimp only at hSw); obtain ⟨y0, y1, y2⟩ := HBXC.out _ hSw; go_simp; try with_reducible rfl
                  (try simp only [Act.put, List.setIfInBounds_toArray, List.set_cons_zero, List.set_cons_succ])
                  refine wpAnyH_take (i := 10) (oi := { dst := some 63, op := Op.binOp BinOp.add 3 (Operand.tmp 57) (Operand.tmp 62) 3, type := 3, pos := "law.go:233", after := #[{ on := 4, ground := Ground.data }, { on := 9, ground := Ground.data }], guard := none }) (v := ?_) rfl (by kernel_rfl) (by kernel_rfl) (by kernel_rfl) (fun _ _ _ h => h) (Or.inl ⟨by rfl, ?_⟩) hHeld ?_
                  rotate_left
                  · intro w hSw; (try dsimp only at hSw); obtain ⟨y0, y1, y2⟩ := HBXC.out _ hSw; go_simp; try with_reducible rfl
                  (try simp only [Act.put, List.setIfInBounds_toArray, List.set_cons_zero, List.set_cons_succ])
                  refine wpAnyH_ready (rs := [15]) (by kernel_rfl) (by simp) (AllReadyH.cons (o := { dst := some 68, op := Op.call { callee := Callee.builtin Builtin.append, args := #[Operand.tmp 65, Operand.tmp 67], argTypes := #[24, 24] }, type := 24, pos := "law.go:233", after := #[{ on := 12, ground := Ground.data }, { on := 14, ground := Ground.data }, { on := 8, ground := Ground.chain }], guard := none }) rfl (fun K hK => ?_) (AllReadyH.nil))
                  · skip
                    refine stepG_keep (F := fun b => w5.heap.size ≤ b) elP rfl (.tmp 65) (.tmp 67) rfl (.slice d2 k e2) M2 k HLN.out.2.2 (-9, 0) (X37.heap.size) 1 (by first | rfl | simp [Act.eval]) (by first | rfl | simp [Act.eval]) R2 T2.row (paL_one _) (by have := HLN.out; omega) ?_
                    intro ao2 cp2 X43 o2 k2
                    have hHeld := hHeld.trans (k2.weak HGI.out.2.2)
                    replace R0 := R0.kp k2 (HAP02.out)
                    replace R1 := R1.kp k2 (HAP12.out)
                    replace R2 := o2
                    refine hK.out _ _ hHeld (fun _ => ?_)
                    clear hK K o2 k2 T2
                    (try simp only [Act.put, List.setIfInBounds_toArray, List.set_cons_zero, List.set_cons_succ])
                    refine wpAnyH_take (i := 16) (oi := { dst := some 69, op := Op.call { callee := Callee.builtin Builtin.len, args := #[Operand.tmp 68], argTypes := #[24] }, type := 3, pos := "law.go:233", after := #[{ on := 15, ground := Ground.data }], guard := none }) (v := ?_) rfl (by kernel_rfl) (by kernel_rfl) (by kernel_rfl) (fun _ _ _ h => h) (Or.inl ⟨by rfl, ?_⟩) hHeld ?_
                    rotate_left
                    · intro w hSw; (try dsimp only at hSw); obtain ⟨y0, y1, y2⟩ := HBXC.out _ hSw; go_simp; try with_reducible rfl
                    (try simp only [Act.put, List.setIfInBounds_toArray, List.set_cons_zero, List.set_cons_succ])
                    refine wpAnyH_take (i := 17) (oi := { dst := some 70, op := Op.binOp BinOp.add 3 (Operand.tmp 63) (Operand.tmp 69) 3, type := 3, pos := "law.go:233", after := #[{ on := 10, ground := Ground.data }, { on := 16, ground := Ground.data }], guard := none }) (v := ?_) rfl (by kernel_rfl) (by kernel_rfl) (by kernel_rfl) (fun _ _ _ h => h) (Or.inl ⟨by rfl, ?_⟩) hHeld ?_
                    rotate_left
                    · intro w hSw; (try dsimp only at hSw); obtain ⟨y0, y1, y2⟩ := HBXC.out _ hSw; go_simp; try with_reducible rfl
                    (try simp only [Act.put, List.setIfInBounds_toArray, List.set_cons_zero, List.set_cons_succ])
                    refine wpAnyH_take (i := 18) (oi := { dst := some 13, op := Op.assign (Operand.tmp 70), type := 3, pos := "law.go:233", after := #[{ on := 17, ground := Ground.data }, { on := 15, ground := Ground.chain }, { on := 0, ground := Ground.phase }, { on := 1, ground := Ground.phase }, { on := 2, ground := Ground.phase }, { on := 3, ground := Ground.phase }, { on := 4, ground := Ground.phase }, { on := 5, ground := Ground.phase }, { on := 6, ground := Ground.phase }, { on := 7, ground := Ground.phase }, { on := 8, ground := Ground.phase }, { on := 9, ground := Ground.phase }, { on := 10, ground := Ground.phase }, { on := 11, ground := Ground.phase }, { on := 12, ground := Ground.phase }, { on := 13, ground := Ground.phase }, { on := 14, ground := Ground.phase }, { on := 15, ground := Ground.phase }, { on := 16, ground := Ground.phase }, { on := 17, ground := Ground.phase }], guard := none }) (v := ?_) rfl (by kernel_rfl) (by kernel_rfl) (by kernel_rfl) (fun _ _ _ h => h) (Or.inl ⟨by rfl, ?_⟩) hHeld ?_
                    rotate_left
                    · intro w hSw; (try dsimp only at hSw); obtain ⟨y0, y1, y2⟩ := HBXC.out _ hSw; go_simp; try with_reducible rfl
                    (try simp only [Act.put, List.setIfInBounds_toArray, List.set_cons_zero, List.set_cons_succ])
                    refine wpAnyH_done (by kernel_rfl) ?_ _
                    refine NoPanic.normal ?_
                    go_wp2
                    go_meet
                    case rel => exact ⟨_, rfl, by omega, OwnF.row elT R0, OwnF.row elT R1, hHeld⟩
            · skip
              have T2 := srcN (F := G) elP X36 (-9, 0) #[.int .i64 (-9), .int .i64 0] rfl (fun h => by have h1 := (HGR.out _ h).2; have h2 := hHeld.size; have h3 := HSZ9.out; omega)
              have hb : Below X36.heap.size X36 (X36.alloc (.cells #[.int .i64 (-9), .int .i64 0] 30)) := (Below.refl _ _).alloc (Nat.le_refl _) _
              have hHeld := hHeld.trans (Kp.of_below hb)
              replace R0 := R0.on hb
              replace R1 := R1.on hb
              replace R2 := R2.on hb
              replace T1 := T1.kp (Kp.of_below hb)
              replace T0 := T0.kp (Kp.of_below hb)
              go_simp
              refine hK.out _ _ hHeld (fun _ => ?_)
              clear hK K hb
              (try simp only [Act.put, List.setIfInBounds_toArray, List.set_cons_zero, List.set_cons_succ])
              generalize X36.alloc (.cells #[.int .i64 (-9), .int .i64 0] 30) = X44 at hHeld R0 R1 R2 T2 T1 T0 ⊢
              refine wpAnyH_ready (rs := [3]) (by kernel_rfl) (by simp) (AllReadyH.cons (o := { dst := some 56, op := Op.call { callee := Callee.builtin Builtin.append, args := #[Operand.tmp 54, Operand.tmp 55], argTypes := #[23, 23] }, type := 23, pos := "law.go:233", after := #[{ on := 1, ground := Ground.data }, { on := 2, ground := Ground.data }], guard := none }) rfl (fun K hK => ?_) (AllReadyH.nil))
              · skip
                refine stepG_keep (F := fun b => w5.heap.size ≤ b) elT rfl (.tmp 54) (.tmp 55) rfl (.slice d0 m0 e0) M0 m0 HLN.out.1 ⟨#[47, 51]⟩ (X35.heap.size) 1 (by first | rfl | simp [Act.eval]) (by first | rfl | simp [Act.eval]) R0 T0.row (txL_one _) (by have := HLN.out; omega) ?_
                intro ao0 cp0 X45 o0 k0
                have hHeld := hHeld.trans (k0.weak HGI.out.1)
                replace R1 := R1.kp k0 (HAP10.out)
                replace R2 := R2.kp k0 (HAP20.out)
                replace R0 := o0
                replace T1 := T1.kp (k0.weak HGI.out.1)
                replace T2 := T2.kp (k0.weak HGI.out.1)
                refine hK.out _ _ hHeld (fun _ => ?_)
                clear hK K o0 k0 T0
                (try simp only [Act.put, List.setIfInBounds_toArray, List.set_cons_zero, List.set_cons_succ])
                refine wpAnyH_take (i := 4) (oi := { dst := some 57, op := Op.call { callee := Callee.builtin Builtin.len, args := #[Operand.tmp 56], argTypes := #[23] }, type := 3, pos := "law.go:233", after := #[{ on := 3, ground := Ground.data }], guard := none }) (v := ?_) rfl (by kernel_rfl) (by kernel_rfl) (by kernel_rfl) (fun _ _ _ h => h) (Or.inl ⟨by rfl, ?_⟩) hHeld ?_
                rotate_left
                · intro w hSw; (try dsimp only at hSw); obtain ⟨y0, y1, y2⟩ := HBXC.out _ hSw; go_simp; try with_reducible rfl
                (try simp only [Act.put, List.setIfInBounds_toArray, List.set_cons_zero, List.set_cons_succ])
                refine wpAnyH_ready (rs := [8]) (by kernel_rfl) (by simp) (AllReadyH.cons (o := { dst := some 61, op := Op.call { callee := Callee.builtin Builtin.append, args := #[Operand.tmp 59, Operand.tmp 60], argTypes := #[23, 23] }, type := 23, pos := "law.go:233", after := #[{ on := 6, ground := Ground.data }, { on := 7, ground := Ground.data }, { on := 3, ground := Ground.chain }], guard := none }) rfl (fun K hK => ?_) (AllReadyH.nil))
                · skip
                  refine stepG_keep (F := fun b => w5.heap.size ≤ b) elT rfl (.tmp 59) (.tmp 60) rfl (.slice d1 m1 e1) M1 m1 HLN.out.2.1 ⟨#[47, 51]⟩ (X0.heap.size) 1 (by first | rfl | simp [Act.eval]) (by first | rfl | simp [Act.eval]) R1 T1.row (txL_one _) (by have := HLN.out; omega) ?_
                  intro ao1 cp1 X46 o1 k1
                  have hHeld := hHeld.trans (k1.weak HGI.out.2.1)
                  replace R0 := R0.kp k1 (HAP01.out)
                  replace R2 := R2.kp k1 (HAP21.out)
                  replace R1 := o1
                  replace T2 := T2.kp (k1.weak HGI.out.2.1)
                  refine hK.out _ _ hHeld (fun _ => ?_)
                  clear hK K o1 k1 T1
                  (try simp only [Act.put, List.setIfInBounds_toArray, List.set_cons_zero, List.set_cons_succ])
                  refine wpAnyH_take (i := 9) (oi := { dst := some 62, op := Op.call { callee := Callee.builtin Builtin.len, args := #[Operand.tmp 61], argTypes := #[23] }, type := 3, pos := "law.go:233", after := #[{ on := 8, ground := Ground.data }], guard := none }) (v := ?_) rfl (by kernel_rfl) (by kernel_rfl) (by kernel_rfl) (fun _ _ _ h => h) (Or.inl ⟨by rfl, ?_⟩) hHeld ?_
                  rotate_left
                  · intro w hSw; (try dsimp only at hSw); obtain ⟨y0, y1, y2⟩ := HBXC.out _ hSw; go_simp; try with_reducible rfl
                  (try simp only [Act.put, List.setIfInBounds_toArray, List.set_cons_zero, List.set_cons_succ])
                  refine wpAnyH_take (i := 10) (oi := { dst := some 63, op := Op.binOp BinOp.add 3 (Operand.tmp 57) (Operand.tmp 62) 3, type := 3, pos := "law.go:233", after := #[{ on := 4, ground := Ground.data }, { on := 9, ground := Ground.data }], guard := none }) (v := ?_) rfl (by kernel_rfl) (by kernel_rfl) (by kernel_rfl) (fun _ _ _ h => h) (Or.inl ⟨by rfl, ?_⟩) hHeld ?_
                  rotate_left
                  · intro w hSw; (try dsimp only at hSw); obtain ⟨y0, y1, y2⟩ := HBXC.out _ hSw; go_simp; try with_reducible rfl
                  (try simp only [Act.put, List.setIfInBounds_toArray, List.set_cons_zero, List.set_cons_succ])
                  refine wpAnyH_ready (rs := [15]) (by kernel_rfl) (by simp) (AllReadyH.cons (o := { dst := some 68, op := Op.call { callee := Callee.builtin Builtin.append, args := #[Operand.tmp 65, Operand.tmp 67], argTypes := #[24, 24] }, type := 24, pos := "law.go:233", after := #[{ on := 12, ground := Ground.data }, { on := 14, ground := Ground.data }, { on := 8, ground := Ground.chain }], guard := none }) rfl (fun K hK => ?_) (AllReadyH.nil))
                  · skip
                    refine stepG_keep (F := fun b => w5.heap.size ≤ b) elP rfl (.tmp 65) (.tmp 67) rfl (.slice d2 k e2) M2 k HLN.out.2.2 (-9, 0) (X36.heap.size) 1 (by first | rfl | simp [Act.eval]) (by first | rfl | simp [Act.eval]) R2 T2.row (paL_one _) (by have := HLN.out; omega) ?_
                    intro ao2 cp2 X47 o2 k2
                    have hHeld := hHeld.trans (k2.weak HGI.out.2.2)
                    replace R0 := R0.kp k2 (HAP02.out)
                    replace R1 := R1.kp k2 (HAP12.out)
                    replace R2 := o2
                    refine hK.out _ _ hHeld (fun _ => ?_)
                    clear hK K o2 k2 T2
                    (try simp only [Act.put, List.setIfInBounds_toArray, List.set_cons_zero, List.set_cons_succ])
                    refine wpAnyH_take (i := 16) (oi := { dst := some 69, op := Op.call { callee := Callee.builtin Builtin.len, args := #[Operand.tmp 68], argTypes := #[24] }, type := 3, pos := "law.go:233", after := #[{ on := 15, ground := Ground.data }], guard := none }) (v := ?_) rfl (by kernel_rfl) (by kernel_rfl) (by kernel_rfl) (fun _ _ _ h => h) (Or.inl ⟨by rfl, ?_⟩) hHeld ?_
                    rotate_left
                    · intro w hSw; (try dsimp only at hSw); obtain ⟨y0, y1, y2⟩ := HBXC.out _ hSw; go_simp; try with_reducible rfl
                    (try simp only [Act.put, List.setIfInBounds_toArray, List.set_cons_zero, List.set_cons_succ])
                    refine wpAnyH_take (i := 17) (oi := { dst := some 70, op := Op.binOp BinOp.add 3 (Operand.tmp 63) (Operand.tmp 69) 3, type := 3, pos := "law.go:233", after := #[{ on := 10, ground := Ground.data }, { on := 16, ground := Ground.data }], guard := none }) (v := ?_) rfl (by kernel_rfl) (by kernel_rfl) (by kernel_rfl) (fun _ _ _ h => h) (Or.inl ⟨by rfl, ?_⟩) hHeld ?_
                    rotate_left
                    · intro w hSw; (try dsimp only at hSw); obtain ⟨y0, y1, y2⟩ := HBXC.out _ hSw; go_simp; try with_reducible rfl
                    (try simp only [Act.put, List.setIfInBounds_toArray, List.set_cons_zero, List.set_cons_succ])
                    refine wpAnyH_take (i := 18) (oi := { dst := some 13, op := Op.assign (Operand.tmp 70), type := 3, pos := "law.go:233", after := #[{ on := 17, ground := Ground.data }, { on := 15, ground := Ground.chain }, { on := 0, ground := Ground.phase }, { on := 1, ground := Ground.phase }, { on := 2, ground := Ground.phase }, { on := 3, ground := Ground.phase }, { on := 4, ground := Ground.phase }, { on := 5, ground := Ground.phase }, { on := 6, ground := Ground.phase }, { on := 7, ground := Ground.phase }, { on := 8, ground := Ground.phase }, { on := 9, ground := Ground.phase }, { on := 10, ground := Ground.phase }, { on := 11, ground := Ground.phase }, { on := 12, ground := Ground.phase }, { on := 13, ground := Ground.phase }, { on := 14, ground := Ground.phase }, { on := 15, ground := Ground.phase }, { on := 16, ground := Ground.phase }, { on := 17, ground := Ground.phase }], guard := none }) (v := ?_) rfl (by kernel_rfl) (by kernel_rfl) (by kernel_rfl) (fun _ _ _ h => h) (Or.inl ⟨by rfl, ?_⟩) hHeld ?_
                    rotate_left
                    · intro w hSw; (try dsimp only at hSw); obtain ⟨y0, y1, y2⟩ := HBXC.out _ hSw; go_simp; try with_reducible rfl
                    (try simp only [Act.put, List.setIfInBounds_toArray, List.set_cons_zero, List.set_cons_succ])
                    refine wpAnyH_done (by kernel_rfl) ?_ _
                    refine NoPanic.normal ?_
                    go_wp2
                    go_meet
                    case rel => exact ⟨_, rfl, by omega, OwnF.row elT R0, OwnF.row elT R1, hHeld⟩
          · skip
            have T2 := srcN (F := G) elP X35 (-9, 0) #[.int .i64 (-9), .int .i64 0] rfl (fun h => by have h1 := (HGR.out _ h).2; have h2 := hHeld.size; have h3 := HSZ9.out; omega)
            have hb : Below X35.heap.size X35 (X35.alloc (.cells #[.int .i64 (-9), .int .i64 0] 30)) := (Below.refl _ _).alloc (Nat.le_refl _) _
            have hHeld := hHeld.trans (Kp.of_below hb)
            replace R0 := R0.on hb
            replace R1 := R1.on hb
            replace R2 := R2.on hb
            replace T1 := T1.kp (Kp.of_below hb)
            go_simp
            refine hK.out _ _ hHeld (fun _ => ?_)
            clear hK K hb
            (try simp only [Act.put, List.setIfInBounds_toArray, List.set_cons_zero, List.set_cons_succ])
            generalize X35.alloc (.cells #[.int .i64 (-9), .int .i64 0] 30) = X48 at hHeld R0 R1 R2 T2 T1 ⊢
            refine wpAnyH_ready (rs := [2]) (by kernel_rfl) (by simp) (AllReadyH.cons (o := { dst := some 55, op := Op.buildSlice 23 1 #[(0, Operand.const (Value.string { data := #[47, 51] }))], type := 23, pos := "law.go:233", after := #[], guard := none }) rfl (fun K hK => ?_) (AllReadyH.nil))
            · skip
              have T0 := srcN (F := G) elT X48 ⟨#[47, 51]⟩ #[.string ⟨#[47, 51]⟩] rfl (fun h => by have h1 := (HGR.out _ h).2; have h2 := hHeld.size; have h3 := HSZ9.out; omega)
              have hb : Below X48.heap.size X48 (X48.alloc (.cells #[.string ⟨#[47, 51]⟩] 9)) := (Below.refl _ _).alloc (Nat.le_refl _) _
              have hHeld := hHeld.trans (Kp.of_below hb)
              replace R0 := R0.on hb
              replace R1 := R1.on hb
              replace R2 := R2.on hb
              replace T1 := T1.kp (Kp.of_below hb)
              replace T2 := T2.kp (Kp.of_below hb)
              go_simp
              refine hK.out _ _ hHeld (fun _ => ?_)
              clear hK K hb
              (try simp only [Act.put, List.setIfInBounds_toArray, List.set_cons_zero, List.set_cons_succ])
              generalize X48.alloc (.cells #[.string ⟨#[47, 51]⟩] 9) = X49 at hHeld R0 R1 R2 T0 T1 T2 ⊢
              refine wpAnyH_ready (rs := [3]) (by kernel_rfl) (by simp) (AllReadyH.cons (o := { dst := some 56, op := Op.call { callee := Callee.builtin Builtin.append, args := #[Operand.tmp 54, Operand.tmp 55], argTypes := #[23, 23] }, type := 23, pos := "law.go:233", after := #[{ on := 1, ground := Ground.data }, { on := 2, ground := Ground.data }], guard := none }) rfl (fun K hK => ?_) (AllReadyH.nil))
              · skip
                refine stepG_keep (F := fun b => w5.heap.size ≤ b) elT rfl (.tmp 54) (.tmp 55) rfl (.slice d0 m0 e0) M0 m0 HLN.out.1 ⟨#[47, 51]⟩ (X48.heap.size) 1 (by first | rfl | simp [Act.eval]) (by first | rfl | simp [Act.eval]) R0 T0.row (txL_one _) (by have := HLN.out; omega) ?_
                intro ao0 cp0 X50 o0 k0
                have hHeld := hHeld.trans (k0.weak HGI.out.1)
                replace R1 := R1.kp k0 (HAP10.out)
                replace R2 := R2.kp k0 (HAP20.out)
                replace R0 := o0
                replace T1 := T1.kp (k0.weak HGI.out.1)
                replace T2 := T2.kp (k0.weak HGI.out.1)
                refine hK.out _ _ hHeld (fun _ => ?_)
                clear hK K o0 k0 T0
                (try simp only [Act.put, List.setIfInBounds_toArray, List.set_cons_zero, List.set_cons_succ])
                refine wpAnyH_take (i := 4) (oi := { dst := some 57, op := Op.call { callee := Callee.builtin Builtin.len, args := #[Operand.tmp 56], argTypes := #[23] }, type := 3, pos := "law.go:233", after := #[{ on := 3, ground := Ground.data }], guard := none }) (v := ?_) rfl (by kernel_rfl) (by kernel_rfl) (by kernel_rfl) (fun _ _ _ h => h) (Or.inl ⟨by rfl, ?_⟩) hHeld ?_
                rotate_left
                · intro w hSw; (try dsimp only at hSw); obtain ⟨y0, y1, y2⟩ := HBXC.out _ hSw; go_simp; try with_reducible rfl
                (try simp only [Act.put, List.setIfInBounds_toArray, List.set_cons_zero, List.set_cons_succ])
                refine wpAnyH_ready (rs := [8]) (by kernel_rfl) (by simp) (AllReadyH.cons (o := { dst := some 61, op := Op.call { callee := Callee.builtin Builtin.append, args := #[Operand.tmp 59, Operand.tmp 60], argTypes := #[23, 23] }, type := 23, pos := "law.go:233", after := #[{ on := 6, ground := Ground.data }, { on := 7, ground := Ground.data }, { on := 3, ground := Ground.chain }], guard := none }) rfl (fun K hK => ?_) (AllReadyH.nil))
                · skip
                  refine stepG_keep (F := fun b => w5.heap.size ≤ b) elT rfl (.tmp 59) (.tmp 60) rfl (.slice d1 m1 e1) M1 m1 HLN.out.2.1 ⟨#[47, 51]⟩ (X0.heap.size) 1 (by first | rfl | simp [Act.eval]) (by first | rfl | simp [Act.eval]) R1 T1.row (txL_one _) (by have := HLN.out; omega) ?_
                  intro ao1 cp1 X51 o1 k1
                  have hHeld := hHeld.trans (k1.weak HGI.out.2.1)
                  replace R0 := R0.kp k1 (HAP01.out)
                  replace R2 := R2.kp k1 (HAP21.out)
                  replace R1 := o1
                  replace T2 := T2.kp (k1.weak HGI.out.2.1)
                  refine hK.out _ _ hHeld (fun _ => ?_)
                  clear hK K o1 k1 T1
                  (try simp only [Act.put, List.setIfInBounds_toArray, List.set_cons_zero, List.set_cons_succ])
                  refine wpAnyH_take (i := 9) (oi := { dst := some 62, op := Op.call { callee := Callee.builtin Builtin.len, args := #[Operand.tmp 61], argTypes := #[23] }, type := 3, pos := "law.go:233", after := #[{ on := 8, ground := Ground.data }], guard := none }) (v := ?_) rfl (by kernel_rfl) (by kernel_rfl) (by kernel_rfl) (fun _ _ _ h => h) (Or.inl ⟨by rfl, ?_⟩) hHeld ?_
                  rotate_left
                  · intro w hSw; (try dsimp only at hSw); obtain ⟨y0, y1, y2⟩ := HBXC.out _ hSw; go_simp; try with_reducible rfl
                  (try simp only [Act.put, List.setIfInBounds_toArray, List.set_cons_zero, List.set_cons_succ])
                  refine wpAnyH_take (i := 10) (oi := { dst := some 63, op := Op.binOp BinOp.add 3 (Operand.tmp 57) (Operand.tmp 62) 3, type := 3, pos := "law.go:233", after := #[{ on := 4, ground := Ground.data }, { on := 9, ground := Ground.data }], guard := none }) (v := ?_) rfl (by kernel_rfl) (by kernel_rfl) (by kernel_rfl) (fun _ _ _ h => h) (Or.inl ⟨by rfl, ?_⟩) hHeld ?_
                  rotate_left
                  · intro w hSw; (try dsimp only at hSw); obtain ⟨y0, y1, y2⟩ := HBXC.out _ hSw; go_simp; try with_reducible rfl
                  (try simp only [Act.put, List.setIfInBounds_toArray, List.set_cons_zero, List.set_cons_succ])
                  refine wpAnyH_ready (rs := [15]) (by kernel_rfl) (by simp) (AllReadyH.cons (o := { dst := some 68, op := Op.call { callee := Callee.builtin Builtin.append, args := #[Operand.tmp 65, Operand.tmp 67], argTypes := #[24, 24] }, type := 24, pos := "law.go:233", after := #[{ on := 12, ground := Ground.data }, { on := 14, ground := Ground.data }, { on := 8, ground := Ground.chain }], guard := none }) rfl (fun K hK => ?_) (AllReadyH.nil))
                  · skip
                    refine stepG_keep (F := fun b => w5.heap.size ≤ b) elP rfl (.tmp 65) (.tmp 67) rfl (.slice d2 k e2) M2 k HLN.out.2.2 (-9, 0) (X35.heap.size) 1 (by first | rfl | simp [Act.eval]) (by first | rfl | simp [Act.eval]) R2 T2.row (paL_one _) (by have := HLN.out; omega) ?_
                    intro ao2 cp2 X52 o2 k2
                    have hHeld := hHeld.trans (k2.weak HGI.out.2.2)
                    replace R0 := R0.kp k2 (HAP02.out)
                    replace R1 := R1.kp k2 (HAP12.out)
                    replace R2 := o2
                    refine hK.out _ _ hHeld (fun _ => ?_)
                    clear hK K o2 k2 T2
                    (try simp only [Act.put, List.setIfInBounds_toArray, List.set_cons_zero, List.set_cons_succ])
                    refine wpAnyH_take (i := 16) (oi := { dst := some 69, op := Op.call { callee := Callee.builtin Builtin.len, args := #[Operand.tmp 68], argTypes := #[24] }, type := 3, pos := "law.go:233", after := #[{ on := 15, ground := Ground.data }], guard := none }) (v := ?_) rfl (by kernel_rfl) (by kernel_rfl) (by kernel_rfl) (fun _ _ _ h => h) (Or.inl ⟨by rfl, ?_⟩) hHeld ?_
                    rotate_left
                    · intro w hSw; (try dsimp only at hSw); obtain ⟨y0, y1, y2⟩ := HBXC.out _ hSw; go_simp; try with_reducible rfl
                    (try simp only [Act.put, List.setIfInBounds_toArray, List.set_cons_zero, List.set_cons_succ])
                    refine wpAnyH_take (i := 17) (oi := { dst := some 70, op := Op.binOp BinOp.add 3 (Operand.tmp 63) (Operand.tmp 69) 3, type := 3, pos := "law.go:233", after := #[{ on := 10, ground := Ground.data }, { on := 16, ground := Ground.data }], guard := none }) (v := ?_) rfl (by kernel_rfl) (by kernel_rfl) (by kernel_rfl) (fun _ _ _ h => h) (Or.inl ⟨by rfl, ?_⟩) hHeld ?_
                    rotate_left
                    · intro w hSw; (try dsimp only at hSw); obtain ⟨y0, y1, y2⟩ := HBXC.out _ hSw; go_simp; try with_reducible rfl
                    (try simp only [Act.put, List.setIfInBounds_toArray, List.set_cons_zero, List.set_cons_succ])
                    refine wpAnyH_take (i := 18) (oi := { dst := some 13, op := Op.assign (Operand.tmp 70), type := 3, pos := "law.go:233", after := #[{ on := 17, ground := Ground.data }, { on := 15, ground := Ground.chain }, { on := 0, ground := Ground.phase }, { on := 1, ground := Ground.phase }, { on := 2, ground := Ground.phase }, { on := 3, ground := Ground.phase }, { on := 4, ground := Ground.phase }, { on := 5, ground := Ground.phase }, { on := 6, ground := Ground.phase }, { on := 7, ground := Ground.phase }, { on := 8, ground := Ground.phase }, { on := 9, ground := Ground.phase }, { on := 10, ground := Ground.phase }, { on := 11, ground := Ground.phase }, { on := 12, ground := Ground.phase }, { on := 13, ground := Ground.phase }, { on := 14, ground := Ground.phase }, { on := 15, ground := Ground.phase }, { on := 16, ground := Ground.phase }, { on := 17, ground := Ground.phase }], guard := none }) (v := ?_) rfl (by kernel_rfl) (by kernel_rfl) (by kernel_rfl) (fun _ _ _ h => h) (Or.inl ⟨by rfl, ?_⟩) hHeld ?_
                    rotate_left
                    · intro w hSw; (try dsimp only at hSw); obtain ⟨y0, y1, y2⟩ := HBXC.out _ hSw; go_simp; try with_reducible rfl
                    (try simp only [Act.put, List.setIfInBounds_toArray, List.set_cons_zero, List.set_cons_succ])
                    refine wpAnyH_done (by kernel_rfl) ?_ _
                    refine NoPanic.normal ?_
                    go_wp2
                    go_meet
                    case rel => exact ⟨_, rfl, by omega, OwnF.row elT R0, OwnF.row elT R1, hHeld⟩
        · skip
          have T2 := srcN (F := G) elP X0 (-9, 0) #[.int .i64 (-9), .int .i64 0] rfl (fun h => by have h1 := (HGR.out _ h).2; have h2 := hHeld.size; have h3 := HSZ9.out; omega)
          have hb : Below X0.heap.size X0 (X0.alloc (.cells #[.int .i64 (-9), .int .i64 0] 30)) := (Below.refl _ _).alloc (Nat.le_refl _) _
          have hHeld := hHeld.trans (Kp.of_below hb)
          replace R0 := R0.on hb
          replace R1 := R1.on hb
          replace R2 := R2.on hb
          go_simp
          refine hK.out _ _ hHeld (fun _ => ?_)
          clear hK K hb
          (try simp only [Act.put, List.setIfInBounds_toArray, List.set_cons_zero, List.set_cons_succ])
          generalize X0.alloc (.cells #[.int .i64 (-9), .int .i64 0] 30) = X53 at hHeld R0 R1 R2 T2  ⊢
          refine wpAnyH_ready (rs := [2, 7]) (by kernel_rfl) (by simp) (AllReadyH.cons (o := { dst := some 55, op := Op.buildSlice 23 1 #[(0, Operand.const (Value.string { data := #[47, 51] }))], type := 23, pos := "law.go:233", after := #[], guard := none }) rfl (fun K hK => ?_) (AllReadyH.cons (o := { dst := some 60, op := Op.buildSlice 23 1 #[(0, Operand.const (Value.string { data := #[47, 51] }))], type := 23, pos := "law.go:233", after := #[], guard := none }) rfl (fun K hK => ?_) (AllReadyH.nil)))
          · skip
            have T0 := srcN (F := G) elT X53 ⟨#[47, 51]⟩ #[.string ⟨#[47, 51]⟩] rfl (fun h => by have h1 := (HGR.out _ h).2; have h2 := hHeld.size; have h3 := HSZ9.out; omega)
            have hb : Below X53.heap.size X53 (X53.alloc (.cells #[.string ⟨#[47, 51]⟩] 9)) := (Below.refl _ _).alloc (Nat.le_refl _) _
            have hHeld := hHeld.trans (Kp.of_below hb)
            replace R0 := R0.on hb
            replace R1 := R1.on hb
            replace R2 := R2.on hb
            replace T2 := T2.kp (Kp.of_below hb)
            go_simp
            refine hK.out _ _ hHeld (fun _ => ?_)
            clear hK K hb
            (try simp only [Act.put, List.setIfInBounds_toArray, List.set_cons_zero, List.set_cons_succ])
            generalize X53.alloc (.cells #[.string ⟨#[47, 51]⟩] 9) = X54 at hHeld R0 R1 R2 T0 T2 ⊢
            refine wpAnyH_ready (rs := [3, 7]) (by kernel_rfl) (by simp) (AllReadyH.cons (o := { dst := some 56, op := Op.call { callee := Callee.builtin Builtin.append, args := #[Operand.tmp 54, Operand.tmp 55], argTypes := #[23, 23] }, type := 23, pos := "law.go:233", after := #[{ on := 1, ground := Ground.data }, { on := 2, ground := Ground.data }], guard := none }) rfl (fun K hK => ?_) (AllReadyH.cons (o := { dst := some 60, op := Op.buildSlice 23 1 #[(0, Operand.const (Value.string { data := #[47, 51] }))], type := 23, pos := "law.go:233", after := #[], guard := none }) rfl (fun K hK => ?_) (AllReadyH.nil)))
            · skip
              refine stepG_keep (F := fun b => w5.heap.size ≤ b) elT rfl (.tmp 54) (.tmp 55) rfl (.slice d0 m0 e0) M0 m0 HLN.out.1 ⟨#[47, 51]⟩ (X53.heap.size) 1 (by first | rfl | simp [Act.eval]) (by first | rfl | simp [Act.eval]) R0 T0.row (txL_one _) (by have := HLN.out; omega) ?_
              intro ao0 cp0 X55 o0 k0
              have hHeld := hHeld.trans (k0.weak HGI.out.1)
              replace R1 := R1.kp k0 (HAP10.out)
              replace R2 := R2.kp k0 (HAP20.out)
              replace R0 := o0
              replace T2 := T2.kp (k0.weak HGI.out.1)
              refine hK.out _ _ hHeld (fun _ => ?_)
              clear hK K o0 k0 T0
              (try simp only [Act.put, List.setIfInBounds_toArray, List.set_cons_zero, List.set_cons_succ])
              refine wpAnyH_take (i := 4) (oi := { dst := some 57, op := Op.call { callee := Callee.builtin Builtin.len, args := #[Operand.tmp 56], argTypes := #[23] }, type := 3, pos := "law.go:233", after := #[{ on := 3, ground := Ground.data }], guard := none }) (v := ?_) rfl (by kernel_rfl) (by kernel_rfl) (by kernel_rfl) (fun _ _ _ h => h) (Or.inl ⟨by rfl, ?_⟩) hHeld ?_
              rotate_left
              · intro w hSw; (try dsimp only at hSw); obtain ⟨y0, y1, y2⟩ := HBXC.out _ hSw; go_simp; try with_reducible rfl
              (try simp only [Act.put, List.setIfInBounds_toArray, List.set_cons_zero, List.set_cons_succ])
              refine wpAnyH_ready (rs := [7]) (by kernel_rfl) (by simp) (AllReadyH.cons (o := { dst := some 60, op := Op.buildSlice 23 1 #[(0, Operand.const (Value.string { data := #[47, 51] }))], type := 23, pos := "law.go:233", after := #[], guard := none }) rfl (fun K hK => ?_) (AllReadyH.nil))
              · skip
                have T1 := srcN (F := G) elT X55 ⟨#[47, 51]⟩ #[.string ⟨#[47, 51]⟩] rfl (fun h => by have h1 := (HGR.out _ h).2; have h2 := hHeld.size; have h3 := HSZ9.out; omega)
                have hb : Below X55.heap.size X55 (X55.alloc (.cells #[.string ⟨#[47, 51]⟩] 9)) := (Below.refl _ _).alloc (Nat.le_refl _) _
                have hHeld := hHeld.trans (Kp.of_below hb)
                replace R0 := R0.on hb
                replace R1 := R1.on hb
                replace R2 := R2.on hb
                replace T2 := T2.kp (Kp.of_below hb)
                go_simp
                refine hK.out _ _ hHeld (fun _ => ?_)
                clear hK K hb
                (try simp only [Act.put, List.setIfInBounds_toArray, List.set_cons_zero, List.set_cons_succ])
                generalize X55.alloc (.cells #[.string ⟨#[47, 51]⟩] 9) = X56 at hHeld R0 R1 R2 T1 T2 ⊢
                refine wpAnyH_ready (rs := [8]) (by kernel_rfl) (by simp) (AllReadyH.cons (o := { dst := some 61, op := Op.call { callee := Callee.builtin Builtin.append, args := #[Operand.tmp 59, Operand.tmp 60], argTypes := #[23, 23] }, type := 23, pos := "law.go:233", after := #[{ on := 6, ground := Ground.data }, { on := 7, ground := Ground.data }, { on := 3, ground := Ground.chain }], guard := none }) rfl (fun K hK => ?_) (AllReadyH.nil))
                · skip
                  refine stepG_keep (F := fun b => w5.heap.size ≤ b) elT rfl (.tmp 59) (.tmp 60) rfl (.slice d1 m1 e1) M1 m1 HLN.out.2.1 ⟨#[47, 51]⟩ (X55.heap.size) 1 (by first | rfl | simp [Act.eval]) (by first | rfl | simp [Act.eval]) R1 T1.row (txL_one _) (by have := HLN.out; omega) ?_
                  intro ao1 cp1 X57 o1 k1
                  have hHeld := hHeld.trans (k1.weak HGI.out.2.1)
                  replace R0 := R0.kp k1 (HAP01.out)
                  replace R2 := R2.kp k1 (HAP21.out)
                  replace R1 := o1
                  replace T2 := T2.kp (k1.weak HGI.out.2.1)
                  refine hK.out _ _ hHeld (fun _ => ?_)
                  clear hK K o1 k1 T1
                  (try simp only [Act.put, List.setIfInBounds_toArray, List.set_cons_zero, List.set_cons_succ])
                  refine wpAnyH_take (i := 9) (oi := { dst := some 62, op := Op.call { callee := Callee.builtin Builtin.len, args := #[Operand.tmp 61], argTypes := #[23] }, type := 3, pos := "law.go:233", after := #[{ on := 8, ground := Ground.data }], guard := none }) (v := ?_) rfl (by kernel_rfl) (by kernel_rfl) (by kernel_rfl) (fun _ _ _ h => h) (Or.inl ⟨by rfl, ?_⟩) hHeld ?_
                  rotate_left
                  · intro w hSw; (try dsimp only at hSw); obtain ⟨y0, y1, y2⟩ := HBXC.out _ hSw; go_simp; try with_reducible rfl
                  (try simp only [Act.put, List.setIfInBounds_toArray, List.set_cons_zero, List.set_cons_succ])
                  refine wpAnyH_take (i := 10) (oi := { dst := some 63, op := Op.binOp BinOp.add 3 (Operand.tmp 57) (Operand.tmp 62) 3, type := 3, pos := "law.go:233", after := #[{ on := 4, ground := Ground.data }, { on := 9, ground := Ground.data }], guard := none }) (v := ?_) rfl (by kernel_rfl) (by kernel_rfl) (by kernel_rfl) (fun _ _ _ h => h) (Or.inl ⟨by rfl, ?_⟩) hHeld ?_
                  rotate_left
                  · intro w hSw; (try dsimp only at hSw); obtain ⟨y0, y1, y2⟩ := HBXC.out _ hSw; go_simp; try with_reducible rfl
                  (try simp only [Act.put, List.setIfInBounds_toArray, List.set_cons_zero, List.set_cons_succ])
                  refine wpAnyH_ready (rs := [15]) (by kernel_rfl) (by simp) (AllReadyH.cons (o := { dst := some 68, op := Op.call { callee := Callee.builtin Builtin.append, args := #[Operand.tmp 65, Operand.tmp 67], argTypes := #[24, 24] }, type := 24, pos := "law.go:233", after := #[{ on := 12, ground := Ground.data }, { on := 14, ground := Ground.data }, { on := 8, ground := Ground.chain }], guard := none }) rfl (fun K hK => ?_) (AllReadyH.nil))
                  · skip
                    refine stepG_keep (F := fun b => w5.heap.size ≤ b) elP rfl (.tmp 65) (.tmp 67) rfl (.slice d2 k e2) M2 k HLN.out.2.2 (-9, 0) (X0.heap.size) 1 (by first | rfl | simp [Act.eval]) (by first | rfl | simp [Act.eval]) R2 T2.row (paL_one _) (by have := HLN.out; omega) ?_
                    intro ao2 cp2 X58 o2 k2
                    have hHeld := hHeld.trans (k2.weak HGI.out.2.2)
                    replace R0 := R0.kp k2 (HAP02.out)
                    replace R1 := R1.kp k2 (HAP12.out)
                    replace R2 := o2
                    refine hK.out _ _ hHeld (fun _ => ?_)
                    clear hK K o2 k2 T2
                    (try simp only [Act.put, List.setIfInBounds_toArray, List.set_cons_zero, List.set_cons_succ])
                    refine wpAnyH_take (i := 16) (oi := { dst := some 69, op := Op.call { callee := Callee.builtin Builtin.len, args := #[Operand.tmp 68], argTypes := #[24] }, type := 3, pos := "law.go:233", after := #[{ on := 15, ground := Ground.data }], guard := none }) (v := ?_) rfl (by kernel_rfl) (by kernel_rfl) (by kernel_rfl) (fun _ _ _ h => h) (Or.inl ⟨by rfl, ?_⟩) hHeld ?_
                    rotate_left
                    · intro w hSw; (try dsimp only at hSw); obtain ⟨y0, y1, y2⟩ := HBXC.out _ hSw; go_simp; try with_reducible rfl
                    (try simp only [Act.put, List.setIfInBounds_toArray, List.set_cons_zero, List.set_cons_succ])
                    refine wpAnyH_take (i := 17) (oi := { dst := some 70, op := Op.binOp BinOp.add 3 (Operand.tmp 63) (Operand.tmp 69) 3, type := 3, pos := "law.go:233", after := #[{ on := 10, ground := Ground.data }, { on := 16, ground := Ground.data }], guard := none }) (v := ?_) rfl (by kernel_rfl) (by kernel_rfl) (by kernel_rfl) (fun _ _ _ h => h) (Or.inl ⟨by rfl, ?_⟩) hHeld ?_
                    rotate_left
                    · intro w hSw; (try dsimp only at hSw); obtain ⟨y0, y1, y2⟩ := HBXC.out _ hSw; go_simp; try with_reducible rfl
                    (try simp only [Act.put, List.setIfInBounds_toArray, List.set_cons_zero, List.set_cons_succ])
                    refine wpAnyH_take (i := 18) (oi := { dst := some 13, op := Op.assign (Operand.tmp 70), type := 3, pos := "law.go:233", after := #[{ on := 17, ground := Ground.data }, { on := 15, ground := Ground.chain }, { on := 0, ground := Ground.phase }, { on := 1, ground := Ground.phase }, { on := 2, ground := Ground.phase }, { on := 3, ground := Ground.phase }, { on := 4, ground := Ground.phase }, { on := 5, ground := Ground.phase }, { on := 6, ground := Ground.phase }, { on := 7, ground := Ground.phase }, { on := 8, ground := Ground.phase }, { on := 9, ground := Ground.phase }, { on := 10, ground := Ground.phase }, { on := 11, ground := Ground.phase }, { on := 12, ground := Ground.phase }, { on := 13, ground := Ground.phase }, { on := 14, ground := Ground.phase }, { on := 15, ground := Ground.phase }, { on := 16, ground := Ground.phase }, { on := 17, ground := Ground.phase }], guard := none }) (v := ?_) rfl (by kernel_rfl) (by kernel_rfl) (by kernel_rfl) (fun _ _ _ h => h) (Or.inl ⟨by rfl, ?_⟩) hHeld ?_
                    rotate_left
                    · intro w hSw; (try dsimp only at hSw); obtain ⟨y0, y1, y2⟩ := HBXC.out _ hSw; go_simp; try with_reducible rfl
                    (try simp only [Act.put, List.setIfInBounds_toArray, List.set_cons_zero, List.set_cons_succ])
                    refine wpAnyH_done (by kernel_rfl) ?_ _
                    refine NoPanic.normal ?_
                    go_wp2
                    go_meet
                    case rel => exact ⟨_, rfl, by omega, OwnF.row elT R0, OwnF.row elT R1, hHeld⟩
            · skip
              have T1 := srcN (F := G) elT X54 ⟨#[47, 51]⟩ #[.string ⟨#[47, 51]⟩] rfl (fun h => by have h1 := (HGR.out _ h).2; have h2 := hHeld.size; have h3 := HSZ9.out; omega)
              have hb : Below X54.heap.size X54 (X54.alloc (.cells #[.string ⟨#[47, 51]⟩] 9)) := (Below.refl _ _).alloc (Nat.le_refl _) _
              have hHeld := hHeld.trans (Kp.of_below hb)
              replace R0 := R0.on hb
              replace R1 := R1.on hb
              replace R2 := R2.on hb
              replace T2 := T2.kp (Kp.of_below hb)
              replace T0 := T0.kp (Kp.of_below hb)
              go_simp
              refine hK.out _ _ hHeld (fun _ => ?_)
              clear hK K hb
              (try simp only [Act.put, List.setIfInBounds_toArray, List.set_cons_zero, List.set_cons_succ])
              generalize X54.alloc (.cells #[.string ⟨#[47, 51]⟩] 9) = X59 at hHeld R0 R1 R2 T1 T2 T0 ⊢
              refine wpAnyH_ready (rs := [3]) (by kernel_rfl) (by simp) (AllReadyH.cons (o := { dst := some 56, op := Op.call { callee := Callee.builtin Builtin.append, args := #[Operand.tmp 54, Operand.tmp 55], argTypes := #[23, 23] }, type := 23, pos := "law.go:233", after := #[{ on := 1, ground := Ground.data }, { on := 2, ground := Ground.data }], guard := none }) rfl (fun K hK => ?_) (AllReadyH.nil))
              · skip
                refine stepG_keep (F := fun b => w5.heap.size ≤ b) elT rfl (.tmp 54) (.tmp 55) rfl (.slice d0 m0 e0) M0 m0 HLN.out.1 ⟨#[47, 51]⟩ (X53.heap.size) 1 (by first | rfl | simp [Act.eval]) (by first | rfl | simp [Act.eval]) R0 T0.row (txL_one _) (by have := HLN.out; omega) ?_
                intro ao0 cp0 X60 o0 k0
                have hHeld := hHeld.trans (k0.weak HGI.out.1)
                replace R1 := R1.kp k0 (HAP10.out)
                replace R2 := R2.kp k0 (HAP20.out)
                replace R0 := o0
                replace T2 := T2.kp (k0.weak HGI.out.1)
                replace T1 := T1.kp (k0.weak HGI.out.1)
                refine hK.out _ _ hHeld (fun _ => ?_)
                clear hK K o0 k0 T0
                (try simp only [Act.put, List.setIfInBounds_toArray, List.set_cons_zero, List.set_cons_succ])
                refine wpAnyH_take (i := 4) (oi := { dst := some 57, op := Op.call { callee := Callee.builtin Builtin.len, args := #[Operand.tmp 56], argTypes := #[23] }, type := 3, pos := "law.go:233", after := #[{ on := 3, ground := Ground.data }], guard := none }) (v := ?_) rfl (by kernel_rfl) (by kernel_rfl) (by kernel_rfl) (fun _ _ _ h => h) (Or.inl ⟨by rfl, ?_⟩) hHeld ?_
                rotate_left
                · intro w hSw; (try dsimp only at hSw); obtain ⟨y0, y1, y2⟩ := HBXC.out _ hSw; go_simp; try with_reducible rfl
                (try simp only [Act.put, List.setIfInBounds_toArray, List.set_cons_zero, List.set_cons_succ])
                refine wpAnyH_ready (rs := [8]) (by kernel_rfl) (by simp) (AllReadyH.cons (o := { dst := some 61, op := Op.call { callee := Callee.builtin Builtin.append, args := #[Operand.tmp 59, Operand.tmp 60], argTypes := #[23, 23] }, type := 23, pos := "law.go:233", after := #[{ on := 6, ground := Ground.data }, { on := 7, ground := Ground.data }, { on := 3, ground := Ground.chain }], guard := none }) rfl (fun K hK => ?_) (AllReadyH.nil))
                · skip
                  refine stepG_keep (F := fun b => w5.heap.size ≤ b) elT rfl (.tmp 59) (.tmp 60) rfl (.slice d1 m1 e1) M1 m1 HLN.out.2.1 ⟨#[47, 51]⟩ (X54.heap.size) 1 (by first | rfl | simp [Act.eval]) (by first | rfl | simp [Act.eval]) R1 T1.row (txL_one _) (by have := HLN.out; omega) ?_
                  intro ao1 cp1 X61 o1 k1
                  have hHeld := hHeld.trans (k1.weak HGI.out.2.1)
                  replace R0 := R0.kp k1 (HAP01.out)
                  replace R2 := R2.kp k1 (HAP21.out)
                  replace R1 := o1
                  replace T2 := T2.kp (k1.weak HGI.out.2.1)
                  refine hK.out _ _ hHeld (fun _ => ?_)
                  clear hK K o1 k1 T1
                  (try simp only [Act.put, List.setIfInBounds_toArray, List.set_cons_zero, List.set_cons_succ])
                  refine wpAnyH_take (i := 9) (oi := { dst := some 62, op := Op.call { callee := Callee.builtin Builtin.len, args := #[Operand.tmp 61], argTypes := #[23] }, type := 3, pos := "law.go:233", after := #[{ on := 8, ground := Ground.data }], guard := none }) (v := ?_) rfl (by kernel_rfl) (by kernel_rfl) (by kernel_rfl) (fun _ _ _ h => h) (Or.inl ⟨by rfl, ?_⟩) hHeld ?_
                  rotate_left
                  · intro w hSw; (try dsimp only at hSw); obtain ⟨y0, y1, y2⟩ := HBXC.out _ hSw; go_simp; try with_reducible rfl
                  (try simp only [Act.put, List.setIfInBounds_toArray, List.set_cons_zero, List.set_cons_succ])
                  refine wpAnyH_take (i := 10) (oi := { dst := some 63, op := Op.binOp BinOp.add 3 (Operand.tmp 57) (Operand.tmp 62) 3, type := 3, pos := "law.go:233", after := #[{ on := 4, ground := Ground.data }, { on := 9, ground := Ground.data }], guard := none }) (v := ?_) rfl (by kernel_rfl) (by kernel_rfl) (by kernel_rfl) (fun _ _ _ h => h) (Or.inl ⟨by rfl, ?_⟩) hHeld ?_
                  rotate_left
                  · intro w hSw; (try dsimp only at hSw); obtain ⟨y0, y1, y2⟩ := HBXC.out _ hSw; go_simp; try with_reducible rfl
                  (try simp only [Act.put, List.setIfInBounds_toArray, List.set_cons_zero, List.set_cons_succ])
                  refine wpAnyH_ready (rs := [15]) (by kernel_rfl) (by simp) (AllReadyH.cons (o := { dst := some 68, op := Op.call { callee := Callee.builtin Builtin.append, args := #[Operand.tmp 65, Operand.tmp 67], argTypes := #[24, 24] }, type := 24, pos := "law.go:233", after := #[{ on := 12, ground := Ground.data }, { on := 14, ground := Ground.data }, { on := 8, ground := Ground.chain }], guard := none }) rfl (fun K hK => ?_) (AllReadyH.nil))
                  · skip
                    refine stepG_keep (F := fun b => w5.heap.size ≤ b) elP rfl (.tmp 65) (.tmp 67) rfl (.slice d2 k e2) M2 k HLN.out.2.2 (-9, 0) (X0.heap.size) 1 (by first | rfl | simp [Act.eval]) (by first | rfl | simp [Act.eval]) R2 T2.row (paL_one _) (by have := HLN.out; omega) ?_
                    intro ao2 cp2 X62 o2 k2
                    have hHeld := hHeld.trans (k2.weak HGI.out.2.2)
                    replace R0 := R0.kp k2 (HAP02.out)
                    replace R1 := R1.kp k2 (HAP12.out)
                    replace R2 := o2
                    refine hK.out _ _ hHeld (fun _ => ?_)
                    clear hK K o2 k2 T2
                    (try simp only [Act.put, List.setIfInBounds_toArray, List.set_cons_zero, List.set_cons_succ])
                    refine wpAnyH_take (i := 16) (oi := { dst := some 69, op := Op.call { callee := Callee.builtin Builtin.len, args := #[Operand.tmp 68], argTypes := #[24] }, type := 3, pos := "law.go:233", after := #[{ on := 15, ground := Ground.data }], guard := none }) (v := ?_) rfl (by kernel_rfl) (by kernel_rfl) (by kernel_rfl) (fun _ _ _ h => h) (Or.inl ⟨by rfl, ?_⟩) hHeld ?_
                    rotate_left
                    · intro w hSw; (try dsimp only at hSw); obtain ⟨y0, y1, y2⟩ := HBXC.out _ hSw; go_simp; try with_reducible rfl
                    (try simp only [Act.put, List.setIfInBounds_toArray, List.set_cons_zero, List.set_cons_succ])
                    refine wpAnyH_take (i := 17) (oi := { dst := some 70, op := Op.binOp BinOp.add 3 (Operand.tmp 63) (Operand.tmp 69) 3, type := 3, pos := "law.go:233", after := #[{ on := 10, ground := Ground.data }, { on := 16, ground := Ground.data }], guard := none }) (v := ?_) rfl (by kernel_rfl) (by kernel_rfl) (by kernel_rfl) (fun _ _ _ h => h) (Or.inl ⟨by rfl, ?_⟩) hHeld ?_
                    rotate_left
                    · intro w hSw; (try dsimp only at hSw); obtain ⟨y0, y1, y2⟩ := HBXC.out _ hSw; go_simp; try with_reducible rfl
                    (try simp only [Act.put, List.setIfInBounds_toArray, List.set_cons_zero, List.set_cons_succ])
                    refine wpAnyH_take (i := 18) (oi := { dst := some 13, op := Op.assign (Operand.tmp 70), type := 3, pos := "law.go:233", after := #[{ on := 17, ground := Ground.data }, { on := 15, ground := Ground.chain }, { on := 0, ground := Ground.phase }, { on := 1, ground := Ground.phase }, { on := 2, ground := Ground.phase }, { on := 3, ground := Ground.phase }, { on := 4, ground := Ground.phase }, { on := 5, ground := Ground.phase }, { on := 6, ground := Ground.phase }, { on := 7, ground := Ground.phase }, { on := 8, ground := Ground.phase }, { on := 9, ground := Ground.phase }, { on := 10, ground := Ground.phase }, { on := 11, ground := Ground.phase }, { on := 12, ground := Ground.phase }, { on := 13, ground := Ground.phase }, { on := 14, ground := Ground.phase }, { on := 15, ground := Ground.phase }, { on := 16, ground := Ground.phase }, { on := 17, ground := Ground.phase }], guard := none }) (v := ?_) rfl (by kernel_rfl) (by kernel_rfl) (by kernel_rfl) (fun _ _ _ h => h) (Or.inl ⟨by rfl, ?_⟩) hHeld ?_
                    rotate_left
                    · intro w hSw; (try dsimp only at hSw); obtain ⟨y0, y1, y2⟩ := HBXC.out _ hSw; go_simp; try with_reducible rfl
                    (try simp only [Act.put, List.setIfInBounds_toArray, List.set_cons_zero, List.set_cons_succ])
                    refine wpAnyH_done (by kernel_rfl) ?_ _
                    refine NoPanic.normal ?_
                    go_wp2
                    go_meet
                    case rel => exact ⟨_, rfl, by omega, OwnF.row elT R0, OwnF.row elT R1, hHeld⟩
          · skip
            have T1 := srcN (F := G) elT X53 ⟨#[47, 51]⟩ #[.string ⟨#[47, 51]⟩] rfl (fun h => by have h1 := (HGR.out _ h).2; have h2 := hHeld.size; have h3 := HSZ9.out; omega)
            have hb : Below X53.heap.size X53 (X53.alloc (.cells #[.string ⟨#[47, 51]⟩] 9)) := (Below.refl _ _).alloc (Nat.le_refl _) _
            have hHeld := hHeld.trans (Kp.of_below hb)
            replace R0 := R0.on hb
            replace R1 := R1.on hb
            replace R2 := R2.on hb
            replace T2 := T2.kp (Kp.of_below hb)
            go_simp
            refine hK.out _ _ hHeld (fun _ => ?_)
            clear hK K hb
            (try simp only [Act.put, List.setIfInBounds_toArray, List.set_cons_zero, List.set_cons_succ])
            generalize X53.alloc (.cells #[.string ⟨#[47, 51]⟩] 9) = X63 at hHeld R0 R1 R2 T1 T2 ⊢
            refine wpAnyH_ready (rs := [2]) (by kernel_rfl) (by simp) (AllReadyH.cons (o := { dst := some 55, op := Op.buildSlice 23 1 #[(0, Operand.const (Value.string { data := #[47, 51] }))], type := 23, pos := "law.go:233", after := #[], guard := none }) rfl (fun K hK => ?_) (AllReadyH.nil))
            · skip
              have T0 := srcN (F := G) elT X63 ⟨#[47, 51]⟩ #[.string ⟨#[47, 51]⟩] rfl (fun h => by have h1 := (HGR.out _ h).2; have h2 := hHeld.size; have h3 := HSZ9.out; omega)
              have hb : Below X63.heap.size X63 (X63.alloc (.cells #[.string ⟨#[47, 51]⟩] 9)) := (Below.refl _ _).alloc (Nat.le_refl _) _
              have hHeld := hHeld.trans (Kp.of_below hb)
              replace R0 := R0.on hb
              replace R1 := R1.on hb
              replace R2 := R2.on hb
              replace T2 := T2.kp (Kp.of_below hb)
              replace T1 := T1.kp (Kp.of_below hb)
              go_simp
              refine hK.out _ _ hHeld (fun _ => ?_)
              clear hK K hb
              (try simp only [Act.put, List.setIfInBounds_toArray, List.set_cons_zero, List.set_cons_succ])
              generalize X63.alloc (.cells #[.string ⟨#[47, 51]⟩] 9) = X64 at hHeld R0 R1 R2 T0 T2 T1 ⊢
              refine wpAnyH_ready (rs := [3]) (by kernel_rfl) (by simp) (AllReadyH.cons (o := { dst := some 56, op := Op.call { callee := Callee.builtin Builtin.append, args := #[Operand.tmp 54, Operand.tmp 55], argTypes := #[23, 23] }, type := 23, pos := "law.go:233", after := #[{ on := 1, ground := Ground.data }, { on := 2, ground := Ground.data }], guard := none }) rfl (fun K hK => ?_) (AllReadyH.nil))
              · skip
                refine stepG_keep (F := fun b => w5.heap.size ≤ b) elT rfl (.tmp 54) (.tmp 55) rfl (.slice d0 m0 e0) M0 m0 HLN.out.1 ⟨#[47, 51]⟩ (X63.heap.size) 1 (by first | rfl | simp [Act.eval]) (by first | rfl | simp [Act.eval]) R0 T0.row (txL_one _) (by have := HLN.out; omega) ?_
                intro ao0 cp0 X65 o0 k0
                have hHeld := hHeld.trans (k0.weak HGI.out.1)
                replace R1 := R1.kp k0 (HAP10.out)
                replace R2 := R2.kp k0 (HAP20.out)
                replace R0 := o0
                replace T2 := T2.kp (k0.weak HGI.out.1)
                replace T1 := T1.kp (k0.weak HGI.out.1)
                refine hK.out _ _ hHeld (fun _ => ?_)
                clear hK K o0 k0 T0
                (try simp only [Act.put, List.setIfInBounds_toArray, List.set_cons_zero, List.set_cons_succ])
                refine wpAnyH_take (i := 4) (oi := { dst := some 57, op := Op.call { callee := Callee.builtin Builtin.len, args := #[Operand.tmp 56], argTypes := #[23] }, type := 3, pos := "law.go:233", after := #[{ on := 3, ground := Ground.data }], guard := none }) (v := ?_) rfl (by kernel_rfl) (by kernel_rfl) (by kernel_rfl) (fun _ _ _ h => h) (Or.inl ⟨by rfl, ?_⟩) hHeld ?_
                rotate_left
                · intro w hSw; (try dsimp only at hSw); obtain ⟨y0, y1, y2⟩ := HBXC.out _ hSw; go_simp; try with_reducible rfl
                (try simp only [Act.put, List.setIfInBounds_toArray, List.set_cons_zero, List.set_cons_succ])
                refine wpAnyH_ready (rs := [8]) (by kernel_rfl) (by simp) (AllReadyH.cons (o := { dst := some 61, op := Op.call { callee := Callee.builtin Builtin.append, args := #[Operand.tmp 59, Operand.tmp 60], argTypes := #[23, 23] }, type := 23, pos := "law.go:233", after := #[{ on := 6, ground := Ground.data }, { on := 7, ground := Ground.data }, { on := 3, ground := Ground.chain }], guard := none }) rfl (fun K hK => ?_) (AllReadyH.nil))
                · skip
                  refine stepG_keep (F := fun b => w5.heap.size ≤ b) elT rfl (.tmp 59) (.tmp 60) rfl (.slice d1 m1 e1) M1 m1 HLN.out.2.1 ⟨#[47, 51]⟩ (X53.heap.size) 1 (by first | rfl | simp [Act.eval]) (by first | rfl | simp [Act.eval]) R1 T1.row (txL_one _) (by have := HLN.out; omega) ?_
                  intro ao1 cp1 X66 o1 k1
                  have hHeld := hHeld.trans (k1.weak HGI.out.2.1)
                  replace R0 := R0.kp k1 (HAP01.out)
                  replace R2 := R2.kp k1 (HAP21.out)
                  replace R1 := o1
                  replace T2 := T2.kp (k1.weak HGI.out.2.1)
                  refine hK.out _ _ hHeld (fun _ => ?_)
                  clear hK K o1 k1 T1
                  (try simp only [Act.put, List.setIfInBounds_toArray, List.set_cons_zero, List.set_cons_succ])
                  refine wpAnyH_take (i := 9) (oi := { dst := some 62, op := Op.call { callee := Callee.builtin Builtin.len, args := #[Operand.tmp 61], argTypes := #[23] }, type := 3, pos := "law.go:233", after := #[{ on := 8, ground := Ground.data }], guard := none }) (v := ?_) rfl (by kernel_rfl) (by kernel_rfl) (by kernel_rfl) (fun _ _ _ h => h) (Or.inl ⟨by rfl, ?_⟩) hHeld ?_
                  rotate_left
                  · intro w hSw; (try dsimp only at hSw); obtain ⟨y0, y1, y2⟩ := HBXC.out _ hSw; go_simp; try with_reducible rfl
                  (try simp only [Act.put, List.setIfInBounds_toArray, List.set_cons_zero, List.set_cons_succ])
                  refine wpAnyH_take (i := 10) (oi := { dst := some 63, op := Op.binOp BinOp.add 3 (Operand.tmp 57) (Operand.tmp 62) 3, type := 3, pos := "law.go:233", after := #[{ on := 4, ground := Ground.data }, { on := 9, ground := Ground.data }], guard := none }) (v := ?_) rfl (by kernel_rfl) (by kernel_rfl) (by kernel_rfl) (fun _ _ _ h => h) (Or.inl ⟨by rfl, ?_⟩) hHeld ?_
                  rotate_left
                  · intro w hSw; (try dsimp only at hSw); obtain ⟨y0, y1, y2⟩ := HBXC.out _ hSw; go_simp; try with_reducible rfl
                  (try simp only [Act.put, List.setIfInBounds_toArray, List.set_cons_zero, List.set_cons_succ])
                  refine wpAnyH_ready (rs := [15]) (by kernel_rfl) (by simp) (AllReadyH.cons (o := { dst := some 68, op := Op.call { callee := Callee.builtin Builtin.append, args := #[Operand.tmp 65, Operand.tmp 67], argTypes := #[24, 24] }, type := 24, pos := "law.go:233", after := #[{ on := 12, ground := Ground.data }, { on := 14, ground := Ground.data }, { on := 8, ground := Ground.chain }], guard := none }) rfl (fun K hK => ?_) (AllReadyH.nil))
                  · skip
                    refine stepG_keep (F := fun b => w5.heap.size ≤ b) elP rfl (.tmp 65) (.tmp 67) rfl (.slice d2 k e2) M2 k HLN.out.2.2 (-9, 0) (X0.heap.size) 1 (by first | rfl | simp [Act.eval]) (by first | rfl | simp [Act.eval]) R2 T2.row (paL_one _) (by have := HLN.out; omega) ?_
                    intro ao2 cp2 X67 o2 k2
                    have hHeld := hHeld.trans (k2.weak HGI.out.2.2)
                    replace R0 := R0.kp k2 (HAP02.out)
                    replace R1 := R1.kp k2 (HAP12.out)
                    replace R2 := o2
                    refine hK.out _ _ hHeld (fun _ => ?_)
                    clear hK K o2 k2 T2
                    (try simp only [Act.put, List.setIfInBounds_toArray, List.set_cons_zero, List.set_cons_succ])
                    refine wpAnyH_take (i := 16) (oi := { dst := some 69, op := Op.call { callee := Callee.builtin Builtin.len, args := #[Operand.tmp 68], argTypes := #[24] }, type := 3, pos := "law.go:233", after := #[{ on := 15, ground := Ground.data }], guard := none }) (v := ?_) rfl (by kernel_rfl) (by kernel_rfl) (by kernel_rfl) (fun _ _ _ h => h) (Or.inl ⟨by rfl, ?_⟩) hHeld ?_
                    rotate_left
                    · intro w hSw; (try dsimp only at hSw); obtain ⟨y0, y1, y2⟩ := HBXC.out _ hSw; go_simp; try with_reducible rfl
                    (try simp only [Act.put, List.setIfInBounds_toArray, List.set_cons_zero, List.set_cons_succ])
                    refine wpAnyH_take (i := 17) (oi := { dst := some 70, op := Op.binOp BinOp.add 3 (Operand.tmp 63) (Operand.tmp 69) 3, type := 3, pos := "law.go:233", after := #[{ on := 10, ground := Ground.data }, { on := 16, ground := Ground.data }], guard := none }) (v := ?_) rfl (by kernel_rfl) (by kernel_rfl) (by kernel_rfl) (fun _ _ _ h => h) (Or.inl ⟨by rfl, ?_⟩) hHeld ?_
                    rotate_left
                    · intro w hSw; (try dsimp only at hSw); obtain ⟨y0, y1, y2⟩ := HBXC.out _ hSw; go_simp; try with_reducible rfl
                    (try simp only [Act.put, List.setIfInBounds_toArray, List.set_cons_zero, List.set_cons_succ])
                    refine wpAnyH_take (i := 18) (oi := { dst := some 13, op := Op.assign (Operand.tmp 70), type := 3, pos := "law.go:233", after := #[{ on := 17, ground := Ground.data }, { on := 15, ground := Ground.chain }, { on := 0, ground := Ground.phase }, { on := 1, ground := Ground.phase }, { on := 2, ground := Ground.phase }, { on := 3, ground := Ground.phase }, { on := 4, ground := Ground.phase }, { on := 5, ground := Ground.phase }, { on := 6, ground := Ground.phase }, { on := 7, ground := Ground.phase }, { on := 8, ground := Ground.phase }, { on := 9, ground := Ground.phase }, { on := 10, ground := Ground.phase }, { on := 11, ground := Ground.phase }, { on := 12, ground := Ground.phase }, { on := 13, ground := Ground.phase }, { on := 14, ground := Ground.phase }, { on := 15, ground := Ground.phase }, { on := 16, ground := Ground.phase }, { on := 17, ground := Ground.phase }], guard := none }) (v := ?_) rfl (by kernel_rfl) (by kernel_rfl) (by kernel_rfl) (fun _ _ _ h => h) (Or.inl ⟨by rfl, ?_⟩) hHeld ?_
                    rotate_left
                    · intro w hSw; (try dsimp only at hSw); obtain ⟨y0, y1, y2⟩ := HBXC.out _ hSw; go_simp; try with_reducible rfl
                    (try simp only [Act.put, List.setIfInBounds_toArray, List.set_cons_zero, List.set_cons_succ])
                    refine wpAnyH_done (by kernel_rfl) ?_ _
                    refine NoPanic.normal ?_
                    go_wp2
                    go_meet
                    case rel => exact ⟨_, rfl, by omega, OwnF.row elT R0, OwnF.row elT R1, hHeld⟩
      case rest =>
        obtain ⟨z, rfl, hz3, hr0, hr1, hkc⟩ := hcut
        have HR0 := hidK hr0
        have HR1 := hidK hr1
        have HKC := hidK hkc
        obtain ⟨hA, hxb, hyb, hyo⟩ := HALL.out _ hkc
        obtain ⟨kA, kB, kC, kD, kE, kF, kG, kH⟩ := HLOW.out _ hA
        have HUPC : Hid (∀ W, Below wc.heap.size wc W → Kp G w9 W) := fun W hb => HKC.out.trans (Kp.of_below hb)
        have HSL := hidK (sameLibrary_c _ _ _ _ _ _ _ _ _ _ L wc (fun b => wc.heap.size ≤ b) (kA.lib (fun b hb => hb)) kC HBK.out.o)
        have HRO : Hid (∀ W, Below wc.heap.size wc W → Calls Try.prog 27 #[.agg #[.slice a5 l5 c5, .slice a6 l6 c6, .slice a7 l7 c7, .slice a8 l8 c8, .slice a9 l9 c9]] W fun e w' => e = .returned (.bool true) ∧ Below wc.heap.size wc w') := fun W hb => (roomy_c _ _ _ _ _ L _ W (HLOW.out _ (HALL.out _ (HUPC.out W hb)).1).1).mono (by
          rintro e w' ⟨q1, q2⟩
          exact ⟨q1, bel3K hb q2⟩)
        have HSS : Hid (∀ W, Below wc.heap.size wc W → Calls Try.prog 16 #[.agg #[.slice a0 l0 c0, .slice a1 l1 c1, .slice a2 l2 c2], .agg #[vd, vw, vp]] W fun e w' => e = .returned (.bool true) ∧ Below wc.heap.size wc w') := fun W hb => by
          obtain ⟨_, k2, _, k4, _⟩ := HLOW.out _ (HALL.out _ (HUPC.out W hb)).1
          exact (sameState_c _ _ _ _ _ _ s W k2.rows.1 k2.rows.2.1 k2.rows.2.2 k4.1 k4.2.1 k4.2.2 (by have := HBK.out.d; omega) (by have := HBK.out.w; omega) (by have := HBK.out.p; omega)).mono (by
            rintro e w' ⟨q1, q2⟩
            exact ⟨q1, bel3K hb q2⟩)
        have HSP : Hid (∀ W, Below wc.heap.size wc W → Calls Try.prog 28 #[.agg #[.slice a0 l0 c0, .slice a1 l1 c1, .slice a2 l2 c2]] W fun e w' => e = .returned (.bool true) ∧ Below wc.heap.size wc w') := fun W hb => (spare_c _ _ _ s _ W (HLOW.out _ (HALL.out _ (HUPC.out W hb)).1).2.1).mono (by
          rintro e w' ⟨q1, q2⟩
          exact ⟨q1, bel3K hb q2⟩)
        have HCE : Hid (∀ W, Below wc.heap.size wc W → W.heap[w2.heap.size]? = some (.cells #[.slice a5 l5 c5, .slice a6 l6 c6, .slice a7 l7 c7, .slice a8 l8 c8, .slice a9 l9 c9] 37 (0, 0)) ∧ W.heap[w4.heap.size]? = some (.cells #[.slice a0 l0 c0, .slice a1 l1 c1, .slice a2 l2 c2] 26 (0, 0)) ∧ W.heap[w.heap.size + 1]? = some (.cells #[vd, vw, vp] 26 (0, 0))) := fun W hb => by
          obtain ⟨_, _, _, _, _, k6, k7, k8⟩ := HLOW.out _ (HALL.out _ (HUPC.out W hb)).1
          exact ⟨k7, k8, k6⟩
        obtain ⟨x0, x1, x2, x3, x4⟩ := lib_cells kE
        obtain ⟨y0', y1', y2', y3', y4'⟩ := lib_cells kG
        clear y0 y1 y2 hr0 hr1 hkc hA hxb hyb hyo kA kB kC kD kE kF kG kH
        go_upto_region 16 with (first
          | (go_at_call 26; refine HSL.out.mono ?_; rintro e x6 ⟨rfl, q1⟩; obtain ⟨g1, g2, g3⟩ := HCE.out _ q1; obtain ⟨i0, i1, i2, i3, i4⟩ := lib_cells g1; have HB6' := hidK q1; clear q1 g1 g2 g3)
          | (go_at_call 27; refine (HRO.out _ HB6'.out).mono ?_; rintro e x7 ⟨rfl, q1⟩; obtain ⟨g1, g2, g3⟩ := HCE.out _ q1; obtain ⟨j0, j1, j2⟩ := lk_cells g2; obtain ⟨j3, j4, j5⟩ := lk_cells g3; have HB7' := hidK q1; clear q1 g1 g2 g3)
          | (go_at_call 16; refine (HSS.out _ HB7'.out).mono ?_; rintro e x8 ⟨rfl, q1⟩; obtain ⟨g1, g2, g3⟩ := HCE.out _ q1; obtain ⟨u0, u1, u2⟩ := lk_cells g2; have HB8' := hidK q1; clear q1 g1 g2 g3)
          | (go_at_call 28; refine (HSP.out _ HB8'.out).mono ?_; rintro e x9 ⟨rfl, q1⟩; have HB9' := hidK q1; clear q1))
        clear x0 x1 x2 x3 x4 y0' y1' y2' y3' y4' i0 i1 i2 i3 i4 j0 j1 j2 j3 j4 j5 u0 u1 u2 HSL HRO HSS HSP
        obtain ⟨g1, g2, g3⟩ := HCE.out _ HB9'.out
        obtain ⟨i0, i1, i2, i3, i4⟩ := lib_cells g1
        obtain ⟨j0, j1, j2⟩ := lk_cells g2
        have HS9 := hidK (HSE.out _ (HALL.out _ (HUPC.out _ HB9'.out)).1)
        clear g1 g2 g3
        go_upto_region 17 with (go_at_call 23; refine HS9.out.mono ?_; rintro e xa ⟨b0, p0, r0, b1, p1, r1, b2, p2, r2, rfl, q1, q2⟩; have HOa := hidK q1; have HBa' := hidK q2; clear q1 q2)
        clear i0 i1 i2 i3 i4 j0 j1 j2
        obtain ⟨xb, hxb⟩ : ∃ x, x = xa.alloc (.cells #[.slice b0 p0 r0, .slice b1 p1 r1, .slice b2 p2 r2] 26) := ⟨_, rfl⟩
        have hbb : Below xa.heap.size xa xb := by rw [hxb]; exact (Below.refl _ _).alloc (Nat.le_refl _) _
        have hgb : xb.heap[xa.heap.size]? = some (.cells #[.slice b0 p0 r0, .slice b1 p1 r1, .slice b2 p2 r2] 26 (0, 0)) := by rw [hxb]; exact heap_alloc_new _ _
        rw [← hxb]
        have HBb : Hid (Below wc.heap.size wc xb) := by
          have h1 := HB9'.out.trans (HBa'.out.mono HB9'.out.size)
          exact h1.trans (hbb.mono h1.size)
        have hOb := HOa.out.on hbb
        obtain ⟨_, hxg, hyg, hyo⟩ := HALL.out _ (HUPC.out _ HBb.out)
        obtain ⟨i0, i1, i2⟩ := lk_cells hgb
        obtain ⟨j0, j1, j2⟩ := lk_cells hyg
        have hsz := HSZ.out
        have HSF := hidK (sameState_c _ _ _ _ _ _ (srchN L num s) xb (OwnF.row elT hOb.d) (OwnF.row elT hOb.wt) (OwnF.row elP hOb.p) (OwnF.row elT hyo.d) (OwnF.row elT hyo.wt) (OwnF.row elP hyo.p) (by omega) (by omega) (by omega))
        clear hxb hbb hgb hOb hxg hyg hyo hsz HOa HBa'
        go_upto_region 18 with (go_at_call 16; refine HSF.out.mono ?_; rintro e xc ⟨rfl, q1⟩; have HBc := hidK (bel3K HBb.out q1); clear q1)
        clear i0 i1 i2 j0 j1 j2 HSF
        obtain ⟨y0, y1, y2⟩ := lk_cells (HALL.out _ (HUPC.out _ HBc.out)).2.1
        have HF0 := hidK (full_c (.slice d0 m0 e0) M0 ⟨#[47, 49]⟩ xc (HR0.out.on HBc.out) HM0.out.2 (by have := HM0.out.1; have := HMM.out.1; omega))
        have HF1 := hidK (full_c (.slice d1 m1 e1) M1 ⟨#[47, 50]⟩ xc (HR1.out.on HBc.out) HM1.out.2 (by have := HM1.out.1; have := HMM.out.2.1; omega))
        go_wp2_with (first
          | (go_at_call_of 29 (Value.slice d0 m0 e0); refine HF0.out.mono ?_; rintro e xd ⟨rfl, q1⟩; subst xd)
          | (go_at_call 29; refine HF1.out.mono ?_; rintro e xd ⟨rfl, q1⟩; subst xd))
        go_ret
        have hf := (HALL.out _ (HUPC.out _ HBc.out)).1
        have h1 := HW5.out.trans (hf.mono HW5.out.size)
        exact ⟨rfl, HB1.out.trans (h1.mono HB1.out.size)⟩
end Go.Proofs.Ytebgannhecmnmaa
