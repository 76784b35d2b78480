import Derived.Test.YtofmiaaglbcebaaGreatDoorM10
import Derived.Test.YtofmiaaglbcebaaGreatDoorPUz
import Derived.Test.YtofmiaaglbcebaaGreatDoorM11
import Derived.Test.YtofmiaaglbcebaaGreatDoorM9
import Derived.Test.YtofmiaaglbcebaaGreatDoorQ2
import Derived.Deep.RegionWith
import Derived.Deep.CutRange

-- A script on a new volume of each.
namespace Go.Proofs.YtofmiaaglbcebaaGreatDoor
open Go.RowKit
set_option linter.unusedVariables false
set_option maxRecDepth 100000
variable {PS : (Nat → Prop) → Nat → St → World → Prop}
theorem costs_take {l : List Opv} {k : Nat} {o : Opv} (h : l[k]? = some o) : costs (l.take (k + 1)) = costs (l.take k) + o.b.size + 8 := by
  unfold costs
  rw [List.take_add_one, h]
  simp; omega
theorem costs_le (l : List Opv) (k : Nat) : costs (l.take k) ≤ costs l := by
  have : costs l = costs (l.take k) + costs (l.drop k) := by
    unfold costs; rw [← List.sum_append_nat, ← List.map_append, List.take_append_drop]
  omega
theorem nP_le (b : ByteArray) : nP b ≤ b.size := by unfold nP; omega
/-- Two new volumes are alike. -/
theorem bk_new (C : PC PS) (c q r : Nat) (hc : c ≤ 1073741824) (w w1 w2 : World) (hE : ErrT w) (h1 : PV PS (fun k => w.heap.size ≤ k ∧ k < w1.heap.size) q (Vs.new c) w1) (hb1 : Below w.heap.size w w1) (h2 : RV (fun k => w1.heap.size ≤ k ∧ k < w2.heap.size) r (Vs.new c) w2) (hb2 : Below w1.heap.size w1 w2) : Bk PS w.heap.size q r 0 w2 ∧ Below w.heap.size w w2 := by
  have s1 := hb1.size
  have s2 := hb2.size
  have hlt : 0 < w.heap.size := World.block_lt_of_cell? _ _ hE
  have hb := hb1.trans (hb2.mono s1)
  exact ⟨⟨Vs.new c, w2.heap.size, ⟨_, _, h1.below C hb2, h2, fun k g1 g2 => by have := g1.2; have := g2.1; omega, fun k g => g.1, fun k g => by have := g.1; omega, (fun k g => g.elim), fun k g => g.2, hE.below hb hlt, hlt, by omega⟩, Vf.new c hc⟩, hb⟩
/-- What a step has done. -/
def Dn (PS : (Nat → Prop) → Nat → St → World → Prop) (B q r kk : Nat) (o : Opv) (W w3 : World) : Prop := Bk PS B q r (kk + o.b.size + 8) w3 ∧ Below B W w3
/-- The blocks from wr to W stand. -/
def Stands (wr W w1 : World) : Prop := ∀ k, wr.heap.size ≤ k → k < W.heap.size → w1.heap[k]? = W.heap[k]?
structure RoundOk (PS : (Nat → Prop) → Nat → St → World → Prop) (B q r kk : Nat) (o : Opv) (wr W : World) : Prop where
  acts : o.kind = 1 ∨ o.kind = 2 → Calls Tryz.prog 9 #[.pointer (some ⟨q, 0, none⟩), .pointer (some ⟨r, 0, none⟩), o.v] W fun e w' => e = .returned (.bool true) ∧ Dn PS B q r kk o W w'
  asks : 3 ≤ o.kind → o.kind ≤ 6 → Calls Tryz.prog 10 #[.pointer (some ⟨q, 0, none⟩), .pointer (some ⟨r, 0, none⟩), o.v] W fun e w' => e = .returned (.bool true) ∧ Dn PS B q r kk o W w'
  arm : Calls Tryz.prog 11 #[.pointer (some ⟨q, 0, none⟩), o.pv] W fun e w1 => e = .returned (.tuple #[]) ∧ Stands wr W w1 ∧ Calls Tryz.prog 12 #[.pointer (some ⟨r, 0, none⟩), o.pv] w1 fun e w2 => e = .returned (.tuple #[]) ∧ Dn PS B q r kk o W w2
  rst : Calls Tryz.prog 13 #[.pointer (some ⟨q, 0, none⟩), .int .i64 o.n, o.cv] W fun e w1 => e = .returned (.tuple #[]) ∧ Stands wr W w1 ∧ Calls Tryz.prog 14 #[.pointer (some ⟨r, 0, none⟩), .int .i64 o.n, o.cv] w1 fun e w2 => e = .returned (.tuple #[]) ∧ Dn PS B q r kk o W w2
  put : Calls Tryz.prog 15 #[.pointer (some ⟨q, 0, none⟩), o.v] W fun e w1 => e = .returned (.tuple #[]) ∧ Stands wr W w1 ∧ Calls Tryz.prog 16 #[.pointer (some ⟨r, 0, none⟩), o.v] w1 fun e w2 => e = .returned (.tuple #[]) ∧ Dn PS B q r kk o W w2
  no : Dn PS B q r kk o W W
theorem round_ok (C : PC PS) (B q r kk : Nat) (o : Opv) (wr W : World) (h : Bk PS B q r kk wr) (hb : Below wr.heap.size wr W) (hk : kk + o.b.size + 8 ≤ 1048576) (ho : OpvOk B o W) (hob : o.b.size ≤ 1048576) : RoundOk PS B q r kk o wr W := by
  have hlow := h.low
  have hW := h.below C hb
  have hnp := nP_le o.b
  obtain ⟨⟨po, pl, pc, hpv⟩, co, cl, cc, hcv⟩ := ho.slices
  obtain ⟨v, L, hs0, hv⟩ := h
  have hs := hs0.grow C hb
  have hst : ∀ w1, Beside B (fun k => False ∨ (wr.heap.size ≤ k ∧ k < W.heap.size)) W w1 → Stands wr W w1 := fun w1 hb1 k g1 g2 => hb1.set k (.inr ⟨g1, g2⟩)
  have hsm := ho.small
  refine ⟨fun hc => ?_, fun h3 h6 => ?_, ?_, ?_, ?_, ⟨hW.mono (by omega), Below.refl _ _⟩⟩
  · obtain ⟨kind, n, a, b, m0, m1, m2, m3, pv, cv, plan, cuts⟩ := o
    simp only at hpv hcv hc hnp hob hk hsm
    subst hpv; subst hcv
    rcases hc with rfl | rfl
    · refine (acts1 C B q r kk n a b m0 m1 m2 m3 po pl pc co cl cc W hW (by omega)).mono ?_
      rintro e w' ⟨rfl, h1, h2⟩
      exact ⟨rfl, h1.mono (by simp only; omega), h2⟩
    · refine (acts2 C B q r kk n a b m0 m1 m2 m3 po pl pc co cl cc W hW (by omega) (by omega) (by omega)).mono ?_
      rintro e w' ⟨rfl, h1, h2⟩
      exact ⟨rfl, h1.mono (by simp only; omega), h2⟩
  · obtain ⟨kind, n, a, b, m0, m1, m2, m3, pv, cv, plan, cuts⟩ := o
    simp only at hpv hcv h3 h6 hnp hob hk hsm
    subst hpv; subst hcv
    have hc : kind = 3 ∨ kind = 4 ∨ kind = 5 ∨ kind = 6 := by omega
    rcases hc with rfl | rfl | rfl | rfl
    · refine (asks3 C B q r kk n a b m0 m1 m2 m3 po pl pc co cl cc W hW (by omega)).mono ?_
      rintro e w' ⟨rfl, h1, h2⟩
      exact ⟨rfl, h1.mono (by simp only; omega), h2⟩
    · refine (asks4 C B q r kk n a b m0 m1 m2 m3 po pl pc co cl cc W hW (by omega)).mono ?_
      rintro e w' ⟨rfl, h1, h2⟩
      exact ⟨rfl, h1.mono (by simp only; omega), h2⟩
    · refine (asks5 C B q r kk n a b m0 m1 m2 m3 po pl pc co cl cc W hW (by omega)).mono ?_
      rintro e w' ⟨rfl, h1, h2⟩
      exact ⟨rfl, h1.mono (by simp only; omega), h2⟩
    · refine (asks6 C B q r kk n a b m0 m1 m2 m3 po pl pc co cl cc W hW (by omega)).mono ?_
      rintro e w' ⟨rfl, h1, h2⟩
      exact ⟨rfl, h1.mono (by simp only; omega), h2⟩
  · refine (bs_arm C B q r v v _ L o.plan o.pv W hs ho.prow (fun hne k hk => .inl (ho.plow hne k hk)) (by have := ho.pfew; omega)).mono ?_
    rintro e w1 ⟨rfl, h1, h2⟩
    refine ⟨rfl, hst w1 h2, ?_⟩
    refine (bs_rarm C B q r (v.arm o.plan) v _ _ o.plan o.pv w1 h1 (ho.prow.below h2.below ho.plow) (by have := ho.pfew; omega)).mono ?_
    rintro e w2 ⟨rfl, h3, h4, _⟩
    exact ⟨rfl, (h3.bk (hv.arm o.plan)).mono (by omega), h2.below.trans h4.below⟩
  · refine (bs_rst C B q r v v _ L o.n o.cv o.cuts W hs hv.wf (by have := hv.round; omega) ho.row (fun hne k hk => .inl (ho.low hne k hk)) (by have := ho.few; omega)).mono ?_
    rintro e w1 ⟨rfl, h1, h2⟩
    refine ⟨rfl, hst w1 h2, ?_⟩
    refine (bs_rrst C B q r (v.restart o.n o.cuts) v _ _ o.n o.cv o.cuts w1 h1 hv.wf (by have := hv.round; omega) (ho.row.below h2.below ho.low) (fun hne k hk => .inl (ho.low hne k hk)) (by have := ho.few; omega)).mono ?_
    rintro e w2 ⟨rfl, h3, h4, _⟩
    exact ⟨rfl, (h3.bk (hv.restart o.n o.cuts)).mono (by omega), h2.below.trans h4.below⟩
  · obtain ⟨kind, n, a, b, m0, m1, m2, m3, pv, cv, plan, cuts⟩ := o
    simp only at hpv hcv hnp hob hk hsm
    subst hpv; subst hcv
    refine (put_c C B q r kk kind n a b m0 m1 m2 m3 po pl pc co cl cc v v _ L W hs hv (by omega) (by omega)).mono ?_
    rintro e w1 ⟨rfl, ⟨L1, h1⟩, h2⟩
    refine ⟨rfl, hst w1 h2, ?_⟩
    refine (putDoc_c C B q r kk kind n a b m0 m1 m2 m3 po pl pc co cl cc _ v _ L1 w1 h1 hv (by omega) (by omega)).mono ?_
    rintro e w2 ⟨rfl, ⟨L2, h3⟩, h4⟩
    exact ⟨rfl, (h3.bk (hv.putO (by omega) n a b m0 m1 m2 m3)).mono (by simp only; omega), h2.below.trans h4.below⟩
set_option maxHeartbeats 8000000 in
theorem plays_c (C : PC PS) (c : Int) (sv : Value) (l : List Opv) (lo hi : Int) (w : World) (hr : RowG opL w sv l) (hl : l.length ≤ 1048576) (hcost : costs l ≤ 1048576) (hok : ∀ o ∈ l, OpvOk w.heap.size o w ∧ o.b.size ≤ 1048576) (hE : ErrT w) :
    Calls Tryz.prog 6 #[.int .i64 c, sv, .int .i64 lo, .int .i64 hi] w fun e w' => e = .returned (.bool true) ∧ Below w.heap.size w w' := by
  obtain ⟨ao, cp, hsv, _⟩ := hr.form
  by_cases hc : c < 0 ∨ 1073741824 < c
  · have HN : Hid (∀ w, Calls Tryz.prog 7 #[.int .i64 c] w fun e w' => e = .returned (.pointer none) ∧ Below w.heap.size w w') := fun w => fNew_no C c w hc
    have HR : Hid (∀ w, Calls Tryz.prog 8 #[.int .i64 c] w fun e w' => e = .returned (.pointer none) ∧ w' = w) := fun w => rNew_no c w hc
    subst hsv
    clear hc hok hr hE hcost
    go_enter Tryz.func6, Tryz.ntmps6
    go_wp2_with (first
      | (go_at_call 7; refine (HN.out _).mono ?_; rintro e w1 ⟨rfl, hb1⟩)
      | (go_at_call 8; refine (HR.out _).mono ?_; rintro e w2 ⟨rfl, hw2⟩; subst w2))
    go_returns
    exact ⟨rfl, hb1⟩
  · obtain ⟨cn, rfl⟩ := Int.eq_ofNat_of_zero_le (show 0 ≤ c by omega)
    have hcn : cn ≤ 1073741824 := by omega
    have HN : Hid (Calls Tryz.prog 7 #[.int .i64 (cn : Int)] w fun e w' => ∃ q, e = .returned (.pointer (some ⟨q, 0, none⟩)) ∧ PV PS (fun k => w.heap.size ≤ k ∧ k < w'.heap.size) q (Vs.new cn) w' ∧ Below w.heap.size w w') := fNew_c C cn w hcn
    have HR : Hid (∀ w, Calls Tryz.prog 8 #[.int .i64 (cn : Int)] w fun e w' => ∃ r, e = .returned (.pointer (some ⟨r, 0, none⟩)) ∧ RV (fun k => w.heap.size ≤ k ∧ k < w'.heap.size) r (Vs.new cn) w' ∧ Below w.heap.size w w') := fun w => rNew_c cn w hcn
    have HNEW : Hid (∀ q r w1 w2, PV PS (fun k => w.heap.size ≤ k ∧ k < w1.heap.size) q (Vs.new cn) w1 → Below w.heap.size w w1 → RV (fun k => w1.heap.size ≤ k ∧ k < w2.heap.size) r (Vs.new cn) w2 → Below w1.heap.size w1 w2 → Bk PS w.heap.size q r 0 w2 ∧ Below w.heap.size w w2) := fun q r w1 w2 g1 g2 g3 g4 => bk_new C cn q r hcn w w1 w2 hE g1 g2 g3 g4
    have HOK : Hid (∀ o ∈ l, OpvOk w.heap.size o w ∧ o.b.size ≤ 1048576) := hok
    have HV : Hid (RowG opL w sv l) := hr
    have HCO : Hid (costs l ≤ 1048576) := hcost
    have HST : Hid (∀ q r kk o wr W, Bk PS w.heap.size q r kk wr → Below wr.heap.size wr W → kk + o.b.size + 8 ≤ 1048576 → OpvOk w.heap.size o W → o.b.size ≤ 1048576 → RoundOk PS w.heap.size q r kk o wr W) := fun q r kk o wr W g1 g2 g3 g4 g5 => round_ok C w.heap.size q r kk o wr W g1 g2 g3 g4 g5
    obtain ⟨n, hn⟩ : ∃ n, n = l.length := ⟨_, rfl⟩
    have HNN : Hid (n = l.length) := hn
    rw [← hn] at hl hsv
    subst hsv
    clear hc hok hr hn hcn hcost hE
    go_enter Tryz.func6, Tryz.ntmps6
    go_upto_region 7 with (first
      | (go_at_call 7; refine HN.out.mono ?_; rintro e w1 ⟨q, rfl, hp1, hb1⟩)
      | (go_at_call 8; refine (HR.out _).mono ?_; rintro e w2 ⟨r, rfl, hr2, hb2⟩))
    have HP0 := hidK (HNEW.out q r w1 w2 hp1 hb1 hr2 hb2)
    clear hp1 hb1 hr2 hb2 HN HR HNEW
    go_wp2_with fail
    go_loopw [11] (fun i wr => ∃ k : Nat, i = .int .i64 k ∧ k ≤ n ∧ Bk PS w.heap.size q r (costs (l.take k)) wr ∧ Below w.heap.size w wr) (fun i _ => n - (intOf i).toNat)
    case atStart => exact ⟨0, rfl, Nat.zero_le _, HP0.out.1, HP0.out.2⟩
    case round =>
      obtain ⟨k, rfl, hkn, hpl, hbw⟩ := hrel
      have hbs := hbw.size
      by_cases hk : k < n
      · have hkl : k < l.length := by rw [← HNN.out]; exact hk
        obtain ⟨o, hok⟩ : ∃ o, l[k]? = some o := ⟨_, List.getElem?_eq_getElem hkl⟩
        obtain ⟨hoo, hob⟩ := HOK.out o (List.mem_of_getElem? hok)
        obtain ⟨b, off, cap, hvv, _, _, hat⟩ := HV.out.at opL_len hok
        obtain ⟨rfl, rfl⟩ : ao = some ⟨b, off, none⟩ ∧ cp = cap := by cases hvv; exact ⟨rfl, rfl⟩
        clear hvv
        have hct := costs_take hok
        have hcl := costs_le l (k + 1)
        have hco := HCO.out
        obtain ⟨kk, hkk⟩ : ∃ kk, kk = costs (l.take k) := ⟨_, rfl⟩
        rw [← hkk] at hpl hct
        obtain ⟨W, hW⟩ : ∃ W, W = wr.alloc (.cells (opL o).toArray 34) := ⟨_, rfl⟩
        have hbW : Below wr.heap.size wr W := by rw [hW]; exact (Below.refl _ wr).alloc (Nat.le_refl _) _
        have hat2 : ∀ m u, (opL o)[m]? = some u → wr.cell? ⟨b, off + k * 10 + m, none⟩ = some u := fun m u hu => (hbw.cell (p := ⟨b, off + k * 10 + m, none⟩) (World.block_lt_of_cell? _ _ (hat m u hu))).trans (hat m u hu)
        have HRO := hidK (HST.out q r kk o wr W hpl hbW (by omega) (hoo.below (hbw.trans (hbW.mono hbs)) (Nat.le_refl _)) hob)
        obtain ⟨D, hD⟩ : ∃ D : World → Prop, D = Dn PS w.heap.size q r kk o W := ⟨_, rfl⟩
        have HEND : Hid (∀ w3, D w3 → (Bk PS w.heap.size q r (costs (l.take (k + 1))) w3 ∧ Below w.heap.size w w3)) := fun w3 hw => by
          rw [hD] at hw
          exact ⟨by rw [hct]; exact hw.1, (hbw.trans (hbW.mono hbs)).trans hw.2⟩
        have HX0 : Hid (W.heap[wr.heap.size]? = some (.cells (opL o).toArray 34 (0, 0)) ∧ wr.heap.size < W.heap.size) := ⟨by rw [hW]; exact heap_alloc_new _ _, by rw [hW]; simp⟩
        obtain ⟨⟨po, pl, pc, hpv⟩, co, cl, cc, hcv⟩ := hoo.slices
        clear hpl hbw hbW hat hct hcl hco hkk hok hoo hob
        obtain ⟨kind, nn, a, bb, m0, m1, m2, m3, pv, cv, plan, cuts⟩ := o
        simp only at hpv hcv
        subst hpv; subst hcv
        have e0 : wr.cell? ⟨b, off + k * 10, none⟩ = some (.int .i64 kind) := hat2 0 _ rfl
        have e1 : wr.cell? ⟨b, off + k * 10 + 1, none⟩ = some (.int .i64 nn) := hat2 1 _ rfl
        have e2 : wr.cell? ⟨b, off + k * 10 + 2, none⟩ = some (.string a) := hat2 2 _ rfl
        have e3 : wr.cell? ⟨b, off + k * 10 + 3, none⟩ = some (.string bb) := hat2 3 _ rfl
        have e4 : wr.cell? ⟨b, off + k * 10 + 4, none⟩ = some (.int .i64 m0) := hat2 4 _ rfl
        have e5 : wr.cell? ⟨b, off + k * 10 + 5, none⟩ = some (.int .i64 m1) := hat2 5 _ rfl
        have e6 : wr.cell? ⟨b, off + k * 10 + 6, none⟩ = some (.int .i64 m2) := hat2 6 _ rfl
        have e7 : wr.cell? ⟨b, off + k * 10 + 7, none⟩ = some (.int .i64 m3) := hat2 7 _ rfl
        have e8 : wr.cell? ⟨b, off + k * 10 + 8, none⟩ = some (.slice po pl pc) := hat2 8 _ rfl
        have e9 : wr.cell? ⟨b, off + k * 10 + 9, none⟩ = some (.slice co cl cc) := hat2 9 _ rfl
        have b1 : decide ((k : Int) < (n : Int)) = true := by simp; omega
        have i1 : (k : Int) < (n : Int) := by omega
        have i2 : (0 : Int) ≤ (k : Int) := by omega
        clear hat2
        have hW' : W = wr.alloc (.cells #[.int .i64 kind, .int .i64 nn, .string a, .string bb, .int .i64 m0, .int .i64 m1, .int .i64 m2, .int .i64 m3, .slice po pl pc, .slice co cl cc] 34) := hW
        have HBX : Hid (∀ w1, Stands wr W w1 → w1.cell? ⟨wr.heap.size, 0, none⟩ = some (.int .i64 kind) ∧ w1.cell? ⟨wr.heap.size, 1, none⟩ = some (.int .i64 nn) ∧ w1.cell? ⟨wr.heap.size, 2, none⟩ = some (.string a) ∧ w1.cell? ⟨wr.heap.size, 3, none⟩ = some (.string bb) ∧ w1.cell? ⟨wr.heap.size, 4, none⟩ = some (.int .i64 m0) ∧ w1.cell? ⟨wr.heap.size, 5, none⟩ = some (.int .i64 m1) ∧ w1.cell? ⟨wr.heap.size, 6, none⟩ = some (.int .i64 m2) ∧ w1.cell? ⟨wr.heap.size, 7, none⟩ = some (.int .i64 m3) ∧ w1.cell? ⟨wr.heap.size, 8, none⟩ = some (.slice po pl pc) ∧ w1.cell? ⟨wr.heap.size, 9, none⟩ = some (.slice co cl cc)) := fun w1 hs => by
          have hh := (hs wr.heap.size (Nat.le_refl _) HX0.out.2).trans HX0.out.1
          refine ⟨?_, ?_, ?_, ?_, ?_, ?_, ?_, ?_, ?_, ?_⟩ <;> (rw [Lib.cell_of_heap hh]; rfl)
        go_upto_region 12 with fail
        rw [← hW']
        clear e0 e1 e2 e3 e4 e5 e6 e7 e8 e9 hW' i1 i2 b1
        rcases (show kind = 1 ∨ kind = 2 ∨ (3 ≤ kind ∧ kind ≤ 6) ∨ kind = 7 ∨ kind = 8 ∨ kind = 9 ∨ kind < 1 ∨ 9 < kind by omega) with rfl | rfl | ⟨h3, h6⟩ | rfl | rfl | rfl | hlo | hhi
        ·
          have HA : Hid (Calls Tryz.prog 9 #[.pointer (some ⟨q, 0, none⟩), .pointer (some ⟨r, 0, none⟩), .agg #[.int .i64 1, .int .i64 nn, .string a, .string bb, .int .i64 m0, .int .i64 m1, .int .i64 m2, .int .i64 m3, .slice po pl pc, .slice co cl cc]] W fun e w' => e = .returned (.bool true) ∧ D w') := by rw [hD]; exact HRO.out.acts (.inl rfl)
          obtain ⟨c0, c1, c2, c3, c4, c5, c6, c7, c8, c9⟩ := HBX.out W (fun _ _ _ => rfl)
          clear hD HRO hW
          go_wp2_with (go_at_call 9; refine HA.out.mono ?_; rintro e w3 ⟨rfl, hd3⟩)
          exact ⟨⟨k + 1, rfl, by omega, (HEND.out w3 hd3).1, (HEND.out w3 hd3).2⟩, by simp [intOf]; omega⟩
        ·
          have HA : Hid (Calls Tryz.prog 9 #[.pointer (some ⟨q, 0, none⟩), .pointer (some ⟨r, 0, none⟩), .agg #[.int .i64 2, .int .i64 nn, .string a, .string bb, .int .i64 m0, .int .i64 m1, .int .i64 m2, .int .i64 m3, .slice po pl pc, .slice co cl cc]] W fun e w' => e = .returned (.bool true) ∧ D w') := by rw [hD]; exact HRO.out.acts (.inr rfl)
          obtain ⟨c0, c1, c2, c3, c4, c5, c6, c7, c8, c9⟩ := HBX.out W (fun _ _ _ => rfl)
          clear hD HRO hW
          go_wp2_with (go_at_call 9; refine HA.out.mono ?_; rintro e w3 ⟨rfl, hd3⟩)
          exact ⟨⟨k + 1, rfl, by omega, (HEND.out w3 hd3).1, (HEND.out w3 hd3).2⟩, by simp [intOf]; omega⟩
        ·
          have HA : Hid (Calls Tryz.prog 10 #[.pointer (some ⟨q, 0, none⟩), .pointer (some ⟨r, 0, none⟩), .agg #[.int .i64 kind, .int .i64 nn, .string a, .string bb, .int .i64 m0, .int .i64 m1, .int .i64 m2, .int .i64 m3, .slice po pl pc, .slice co cl cc]] W fun e w' => e = .returned (.bool true) ∧ D w') := by rw [hD]; exact HRO.out.asks h3 h6
          have n1 : (kind == 1) = false := by simp; omega
          have n2 : (kind == 2) = false := by simp; omega
          have n1' : ¬ kind = 1 := by omega
          have n2' : ¬ kind = 2 := by omega
          obtain ⟨c0, c1, c2, c3, c4, c5, c6, c7, c8, c9⟩ := HBX.out W (fun _ _ _ => rfl)
          clear hD HRO hW
          go_wp2_with (go_at_call 10; refine HA.out.mono ?_; rintro e w3 ⟨rfl, hd3⟩)
          exact ⟨⟨k + 1, rfl, by omega, (HEND.out w3 hd3).1, (HEND.out w3 hd3).2⟩, by simp [intOf]; omega⟩
        ·
          have HA : Hid (Calls Tryz.prog 11 #[.pointer (some ⟨q, 0, none⟩), .slice po pl pc] W fun e w1 => e = .returned (.tuple #[]) ∧ Stands wr W w1 ∧ Hid (Calls Tryz.prog 12 #[.pointer (some ⟨r, 0, none⟩), .slice po pl pc] w1 fun e w2 => e = .returned (.tuple #[]) ∧ D w2)) := by
            rw [hD]
            refine HRO.out.arm.mono ?_
            rintro e w1 ⟨rfl, h1, h2⟩
            exact ⟨rfl, h1, h2⟩
          obtain ⟨c0, c1, c2, c3, c4, c5, c6, c7, c8, c9⟩ := HBX.out W (fun _ _ _ => rfl)
          clear hD HRO hW
          go_wp2_with (first
            | (go_at_call 11; refine HA.out.mono ?_; rintro e w2 ⟨rfl, hs2, hc2⟩; clear c0 c1 c2 c3 c4 c5 c6 c7 c8 c9; obtain ⟨c0, c1, c2, c3, c4, c5, c6, c7, c8, c9⟩ := HBX.out w2 hs2)
            | (go_at_call 12; refine hc2.out.mono ?_; rintro e w3 ⟨rfl, hd3⟩))
          exact ⟨⟨k + 1, rfl, by omega, (HEND.out w3 hd3).1, (HEND.out w3 hd3).2⟩, by simp [intOf]; omega⟩
        ·
          have HA : Hid (Calls Tryz.prog 13 #[.pointer (some ⟨q, 0, none⟩), .int .i64 nn, .slice co cl cc] W fun e w1 => e = .returned (.tuple #[]) ∧ Stands wr W w1 ∧ Hid (Calls Tryz.prog 14 #[.pointer (some ⟨r, 0, none⟩), .int .i64 nn, .slice co cl cc] w1 fun e w2 => e = .returned (.tuple #[]) ∧ D w2)) := by
            rw [hD]
            refine HRO.out.rst.mono ?_
            rintro e w1 ⟨rfl, h1, h2⟩
            exact ⟨rfl, h1, h2⟩
          obtain ⟨c0, c1, c2, c3, c4, c5, c6, c7, c8, c9⟩ := HBX.out W (fun _ _ _ => rfl)
          clear hD HRO hW
          go_wp2_with (first
            | (go_at_call 13; refine HA.out.mono ?_; rintro e w2 ⟨rfl, hs2, hc2⟩; clear c0 c1 c2 c3 c4 c5 c6 c7 c8 c9; obtain ⟨c0, c1, c2, c3, c4, c5, c6, c7, c8, c9⟩ := HBX.out w2 hs2)
            | (go_at_call 14; refine hc2.out.mono ?_; rintro e w3 ⟨rfl, hd3⟩))
          exact ⟨⟨k + 1, rfl, by omega, (HEND.out w3 hd3).1, (HEND.out w3 hd3).2⟩, by simp [intOf]; omega⟩
        ·
          have HA : Hid (Calls Tryz.prog 15 #[.pointer (some ⟨q, 0, none⟩), .agg #[.int .i64 9, .int .i64 nn, .string a, .string bb, .int .i64 m0, .int .i64 m1, .int .i64 m2, .int .i64 m3, .slice po pl pc, .slice co cl cc]] W fun e w1 => e = .returned (.tuple #[]) ∧ Stands wr W w1 ∧ Hid (Calls Tryz.prog 16 #[.pointer (some ⟨r, 0, none⟩), .agg #[.int .i64 9, .int .i64 nn, .string a, .string bb, .int .i64 m0, .int .i64 m1, .int .i64 m2, .int .i64 m3, .slice po pl pc, .slice co cl cc]] w1 fun e w2 => e = .returned (.tuple #[]) ∧ D w2)) := by
            rw [hD]
            refine HRO.out.put.mono ?_
            rintro e w1 ⟨rfl, h1, h2⟩
            exact ⟨rfl, h1, h2⟩
          obtain ⟨c0, c1, c2, c3, c4, c5, c6, c7, c8, c9⟩ := HBX.out W (fun _ _ _ => rfl)
          clear hD HRO hW
          go_wp2_with (first
            | (go_at_call 15; refine HA.out.mono ?_; rintro e w2 ⟨rfl, hs2, hc2⟩; clear c0 c1 c2 c3 c4 c5 c6 c7 c8 c9; obtain ⟨c0, c1, c2, c3, c4, c5, c6, c7, c8, c9⟩ := HBX.out w2 hs2)
            | (go_at_call 16; refine hc2.out.mono ?_; rintro e w3 ⟨rfl, hd3⟩))
          exact ⟨⟨k + 1, rfl, by omega, (HEND.out w3 hd3).1, (HEND.out w3 hd3).2⟩, by simp [intOf]; omega⟩
        · have hd3 : D W := by rw [hD]; exact HRO.out.no
          have n1 : (kind == 1) = false := by simp; omega
          have n1' : ¬ kind = 1 := by omega
          have n2 : (kind == 2) = false := by simp; omega
          have n2' : ¬ kind = 2 := by omega
          have n7 : (kind == 7) = false := by simp; omega
          have n7' : ¬ kind = 7 := by omega
          have n8 : (kind == 8) = false := by simp; omega
          have n8' : ¬ kind = 8 := by omega
          have n9 : (kind == 9) = false := by simp; omega
          have n9' : ¬ kind = 9 := by omega
          have h3 : ¬ 3 ≤ kind := by omega
          obtain ⟨c0, c1, c2, c3, c4, c5, c6, c7, c8, c9⟩ := HBX.out W (fun _ _ _ => rfl)
          clear hD HRO hW
          go_wp2_with fail
          exact ⟨⟨k + 1, rfl, by omega, (HEND.out W hd3).1, (HEND.out W hd3).2⟩, by simp [intOf]; omega⟩
        · have hd3 : D W := by rw [hD]; exact HRO.out.no
          have n1 : (kind == 1) = false := by simp; omega
          have n1' : ¬ kind = 1 := by omega
          have n2 : (kind == 2) = false := by simp; omega
          have n2' : ¬ kind = 2 := by omega
          have n7 : (kind == 7) = false := by simp; omega
          have n7' : ¬ kind = 7 := by omega
          have n8 : (kind == 8) = false := by simp; omega
          have n8' : ¬ kind = 8 := by omega
          have n9 : (kind == 9) = false := by simp; omega
          have n9' : ¬ kind = 9 := by omega
          have h3 : 3 ≤ kind := by omega
          have h6 : ¬ kind ≤ 6 := by omega
          obtain ⟨c0, c1, c2, c3, c4, c5, c6, c7, c8, c9⟩ := HBX.out W (fun _ _ _ => rfl)
          clear hD HRO hW
          go_wp2_with fail
          exact ⟨⟨k + 1, rfl, by omega, (HEND.out W hd3).1, (HEND.out W hd3).2⟩, by simp [intOf]; omega⟩
      · obtain rfl : k = n := by omega
        have b1 : decide ((k : Int) < (k : Int)) = false := by simp
        clear hpl
        go_wp2
        go_returns
        exact ⟨rfl, hbw⟩
end Go.Proofs.YtofmiaaglbcebaaGreatDoor
