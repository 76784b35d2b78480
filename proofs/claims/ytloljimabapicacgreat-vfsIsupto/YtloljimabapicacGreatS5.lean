
-- Create, on both volumes.
import Derived.Test.YtloljimabapicacGreatS6
import Derived.Deep.RegionWith
import Derived.Deep.DrawnRows
import Derived.Deep.CutRange
import Derived.Maps.AppendAt
namespace Go.Proofs.YtloljimabapicacGreat
open Go.RowKit
set_option linter.unusedVariables false
variable {PS : (Nat → Prop) → Nat → St → World → Prop}
attribute [local go_sem ↓] Go.wp_at_zero Go.wp_at_succ
theorem infoPM : (Tryz.prog.info? 119).map (fun i => (i.zero, i.size, i.bytes)) = some (some (.pointer none), 1, 8) := by kernel_rfl
theorem infoPD : (Tryz.prog.info? 122).map (fun i => (i.zero, i.size, i.bytes)) = some (some (.pointer none), 1, 8) := by kernel_rfl
theorem wp_world {P : Program} {c : Code} {Q : Exit → Act → World → Prop} {a : Act} {w : World} (h : ∀ W, W = w → Code.wp P c Q a W) : Code.wp P c Q a w := h w rfl
set_option maxRecDepth 8000 in
set_option maxHeartbeats 16000000 in
theorem changes4 (C : PC PS) (B pb k : Nat) (n : Int) (a b : ByteArray) (m0 m1 m2 m3 : Int) (po : Option Addr) (pl pc : Nat) (co : Option Addr) (cl cc : Nat) (w : World) (h : Bx PS B pb k w) (hB : B ≤ w.heap.size) (hk : k < 2097151) :
    Calls Tryz.prog 28 #[.pointer (some ⟨pb, 0, none⟩), .agg #[.int .i64 4, .int .i64 n, .string a, .string b, .int .i64 m0, .int .i64 m1, .int .i64 m2, .int .i64 m3, .slice po pl pc, .slice co cl cc]] w fun e w' => e = .returned (.int .i64 0) ∧ Bx PS B pb (k + 1) w' ∧ Below B w w' := by
  obtain ⟨im, him, hm0, hm1, hm2⟩ := info_parts infoPM
  obtain ⟨id, hid, hd0, hd1, hd2⟩ := info_parts infoPD
  obtain ⟨q, r, mv, dv, Gp, Gr, v, hs, hd, T, hh, hv, hl⟩ := h
  obtain ⟨X, hX⟩ : ∃ X, X = Obj.cells #[.int .i64 4, .int .i64 n, .string a, .string b, .int .i64 m0, .int .i64 m1, .int .i64 m2, .int .i64 m3, .slice po pl pc, .slice co cl cc] 33 := ⟨_, rfl⟩
  have hbA : Below w.heap.size w (w.alloc X) := (Below.refl _ w).alloc (Nat.le_refl _) _
  have hsA : (w.alloc X).heap.size = w.heap.size + 1 := by simp
  have TA := T.below C hbA hB
  have hcn : v.cnt ≤ 4194304 := by have := hv.cnt; omega
  have HT : Hid (∀ (e : Nat) ev W, ErrIs W (w.heap.size + 1) ⟨#[99, 114, 101, 97, 116, 101]⟩ a e ev → Calls Tryz.prog 8 #[ev, .string ⟨#[99, 114, 101, 97, 116, 101]⟩, .string a, .int .i64 e] W fun r w' => r = .returned (.bool true) ∧ Alike W w') := fun e ev W he => told_c _ _ _ _ _ _ he
  obtain ⟨E, hE⟩ : ∃ z, z = (v.create a m0 m1 m2 m3).1.2 := ⟨_, rfl⟩
  obtain ⟨D, hD⟩ : ∃ z, z = (v.create a m0 m1 m2 m3).1.1 := ⟨_, rfl⟩
  obtain ⟨V, hV⟩ : ∃ z, z = (v.create a m0 m1 m2 m3).2 := ⟨_, rfl⟩
  have HVf : Hid (Vf V (k + 1)) := by rw [hV]; exact hv.create hk a m0 m1 m2 m3
  have HHH : Hid (hs.map (·.2) = hd.map (·.2) ∧ hs.length ≤ k) := ⟨hh, hl⟩
  have HLO : Hid (∀ k, (Gp k ∨ Gr k) → k < w.heap.size) := fun k h => by
    rcases h with h | h
    · exact T.pp.low k h
    · exact T.rr.low k h
  have HS : Hid (∀ (W : World), W.heap[w.heap.size]? = some (.cells #[.int .i64 4, .int .i64 n, .string a, .string b, .int .i64 m0, .int .i64 m1, .int .i64 m2, .int .i64 m3, .slice po pl pc, .slice co cl cc] 33 (0, 0)) → W.cell? ⟨w.heap.size, 0, none⟩ = some (.int .i64 4) ∧ W.cell? ⟨w.heap.size, 2, none⟩ = some (.string a) ∧ W.cell? ⟨w.heap.size, 4, none⟩ = some (.int .i64 m0) ∧ W.cell? ⟨w.heap.size, 5, none⟩ = some (.int .i64 m1) ∧ W.cell? ⟨w.heap.size, 6, none⟩ = some (.int .i64 m2) ∧ W.cell? ⟨w.heap.size, 7, none⟩ = some (.int .i64 m3)) := fun W hs => by
    refine ⟨?_, ?_, ?_, ?_, ?_, ?_⟩ <;> (rw [Lib.cell_of_heap hs]; rfl)
  have p0 := TA.cells.1
  by_cases hE0 : E = 0
  · subst hE0
    obtain ⟨x, hx0⟩ : ∃ x : Hd, x = ⟨a, D, v.round, false⟩ := ⟨_, rfl⟩
    have HP : Hid (∀ W, Alike (w.alloc X) W → Calls Tryz.prog 42 #[.pointer (some ⟨q, 0, none⟩), .string a, .agg #[.int .i64 m0, .int .i64 m1, .int .i64 m2, .int .i64 m3]] W fun e w' => ∃ b1 G1, e = .returned (.tuple #[.pointer (some ⟨b1, 0, none⟩), .nilIface]) ∧ PB PS B pb q r mv dv G1 Gr V v hs hd w' ∧ Below B w w' ∧ w.heap.size + 1 ≤ w'.heap.size ∧ w'.heap[w.heap.size]? = some X ∧ FileAt w' b1 q x ∧ ¬ G1 b1 ∧ w.heap.size + 1 ≤ b1 ∧ b1 < w'.heap.size) := fun W hA => by
      have TW := TA.below C hA.below (by omega)
      have hsW : W.heap.size = w.heap.size + 1 := by rw [hA.heap]; exact hsA
      have hbW := hbA.trans (hA.below.mono (by omega))
      refine (fCreate_c C Gp q v a m0 m1 m2 m3 W TW.pp hv.wf hcn).mono ?_
      rintro e w' ⟨hv', ev, rfl, he, hkp, hd'⟩
      rw [← hE, ← hD, ← hV] at hd'
      rw [← hE] at he
      rcases hd' with ⟨h0, _⟩ | ⟨_, b1, G1, rfl, hf, hpv, hsub, _, hg, hlb⟩
      · exact absurd rfl h0
      · obtain ⟨t, hb⟩ := TW.pstep (by omega) hkp hpv hsub
        have hs' := hkp.size
        have hev : ev = .nilIface := by
          rcases he with ⟨_, h⟩ | ⟨h, _⟩
          · exact h
          · exact absurd rfl h
        subst hev
        rw [← hx0] at hf
        refine ⟨b1, G1, rfl, t, (hbW.mono hB).trans hb, by omega, ?_, hf, hg, by omega, (Array.getElem?_eq_some_iff.1 hf).1⟩
        rw [hkp.block w.heap.size (by omega) (T.out (Nat.le_refl _)).1, hA.heap, heap_alloc_new]
    have HR : Hid (∀ G' b1 wx, PB PS B pb q r mv dv G' Gr V v hs hd wx → B ≤ wx.heap.size → w.heap.size + 1 ≤ wx.heap.size → wx.heap[w.heap.size]? = some X → FileAt wx b1 q x → ¬ G' b1 → w.heap.size + 1 ≤ b1 → b1 < wx.heap.size → ∀ W, Alike wx W → Calls Tryz.prog 43 #[.pointer (some ⟨r, 0, none⟩), .string a, .agg #[.int .i64 m0, .int .i64 m1, .int .i64 m2, .int .i64 m3]] W fun e w' => ∃ b2 G2, e = .returned (.tuple #[.pointer (some ⟨b2, 0, none⟩), .int .i64 0]) ∧ PB PS B pb q r mv dv G' G2 V V hs hd w' ∧ Below B wx w' ∧ w'.heap[w.heap.size]? = some X ∧ w.heap.size + 1 ≤ w'.heap.size ∧ FileAt w' b1 q x ∧ (B ≤ b1 ∧ ¬ G' b1 ∧ ¬ G2 b1) ∧ b1 ∉ hs.map (·.1) ∧ RFileAt w' b2 r x ∧ (B ≤ b2 ∧ ¬ G' b2 ∧ ¬ G2 b2) ∧ b2 ∉ hd.map (·.1)) := fun G' b1 wx t0 hBx hlx hx hf1 hg1 hlb1 hb1l W hA => by
      have t := t0.below C hA.below hBx
      have hsW : W.heap.size = wx.heap.size := by rw [hA.heap]
      refine (rCreate_c Gr r v a m0 m1 m2 m3 W t.rr hv.wf hcn).mono ?_
      rintro e w' ⟨hv', rfl, hkp, hd'⟩
      rw [← hE, ← hD, ← hV] at hd'
      rcases hd' with ⟨h0, _⟩ | ⟨_, b2, G2, rfl, hf, hpv, hsub, _, hg, hlb⟩
      · exact absurd rfl h0
      · obtain ⟨t', hb⟩ := t.rstep C (by omega) hkp hpv hsub
        have hs' := hkp.size
        rw [← hx0] at hf
        have n1 : ¬ G2 b1 := fun h' => by
          rcases hsub b1 h' with h' | h'
          · have := T.rr.low _ h'; omega
          · omega
        refine ⟨b2, G2, by rw [← hE]; rfl, t', (hA.below.mono hBx).trans hb, (hkp.block _ (by omega) (T.out (Nat.le_refl _)).2).trans (by rw [hA.heap]; exact hx), by omega, ?_, ⟨by omega, hg1, n1⟩, ?_, hf, ⟨by omega, fun h' => by have := t.pp.low _ h'; omega, hg⟩, ?_⟩
        · exact (hkp.block b1 (by omega) (fun h' => by have := T.rr.low _ h'; omega)).trans (by rw [hA.heap]; exact hf1)
        · intro hm
          obtain ⟨⟨a', y⟩, hi, rfl⟩ := List.mem_map.1 hm
          obtain ⟨i, hi⟩ := List.getElem?_of_mem hi
          have := (Array.getElem?_eq_some_iff.1 (T.mf i _ y hi).1).1
          simp only at hlb1; omega
        · intro hm
          obtain ⟨⟨a', y⟩, hi, rfl⟩ := List.mem_map.1 hm
          obtain ⟨i, hi⟩ := List.getElem?_of_mem hi
          have := (Array.getElem?_eq_some_iff.1 (T.df i _ y hi).1).1
          simp only at hlb; omega
    have HA1 : Hid (∀ mv dv hs hd G1 G2 b1 (W w2 : World) v' o, PB PS B pb q r mv dv G1 G2 V V hs hd W → B ≤ W.heap.size → FileAt W b1 q x → (B ≤ b1 ∧ ¬ G1 b1 ∧ ¬ G2 b1) → b1 ∉ hs.map (·.1) → w2.ownsRow B 119 1 v' (hs.length + 1) (ptrs hs ++ [.pointer (some ⟨b1, 0, none⟩)]) → (W.alloc o).grownBy w2 mv.ownBlock → (v'.ownBlock = mv.ownBlock ∨ v'.ownBlock = some (W.alloc o).heap.size) → PB PS B pb q r v' dv G1 G2 V V (hs ++ [(b1, x)]) hd (w2.setCell ⟨pb, 2, none⟩ v') ∧ Below B W (w2.setCell ⟨pb, 2, none⟩ v')) := fun mv dv hs hd G1 G2 b1 W w2 v' o t hBW hf hb hn hown hg hwh => by
      have hba : Below W.heap.size W (W.alloc o) := (Below.refl _ W).alloc (Nat.le_refl _) _
      have hsz : (W.alloc o).heap.size = W.heap.size + 1 := by simp
      obtain ⟨g1, g2⟩ := (t.below C hba hBW).addM C (by omega) (hf.below hba) hb hn hown hg (by
        rcases hwh with h | h
        · exact .inl h
        · exact .inr ⟨_, h, Nat.le_refl _⟩)
      exact ⟨g1, (hba.mono hBW).trans g2⟩
    have HA2 : Hid (∀ mv dv hs hd G1 G2 b2 (W w2 : World) v' o, PB PS B pb q r mv dv G1 G2 V V hs hd W → B ≤ W.heap.size → RFileAt W b2 r x → (B ≤ b2 ∧ ¬ G1 b2 ∧ ¬ G2 b2) → b2 ∉ hd.map (·.1) → w2.ownsRow B 122 1 v' (hd.length + 1) (ptrs hd ++ [.pointer (some ⟨b2, 0, none⟩)]) → (W.alloc o).grownBy w2 dv.ownBlock → (v'.ownBlock = dv.ownBlock ∨ v'.ownBlock = some (W.alloc o).heap.size) → PB PS B pb q r mv v' G1 G2 V V hs (hd ++ [(b2, x)]) (w2.setCell ⟨pb, 3, none⟩ v') ∧ Below B W (w2.setCell ⟨pb, 3, none⟩ v')) := fun mv dv hs hd G1 G2 b2 W w2 v' o t hBW hf hb hn hown hg hwh => by
      have hba : Below W.heap.size W (W.alloc o) := (Below.refl _ W).alloc (Nat.le_refl _) _
      have hsz : (W.alloc o).heap.size = W.heap.size + 1 := by simp
      obtain ⟨g1, g2⟩ := (t.below C hba hBW).addD C (by omega) (hf.below hba) hb hn hown hg (by
        rcases hwh with h | h
        · exact .inl h
        · exact .inr ⟨_, h, Nat.le_refl _⟩)
      exact ⟨g1, (hba.mono hBW).trans g2⟩
    have HEnd : Hid (∀ mv dv G' G'' b1 b2 W W', PB PS B pb q r mv dv G' G'' V V (hs ++ [(b1, x)]) (hd ++ [(b2, x)]) W → B ≤ W.heap.size → Below W.heap.size W W' → Bx PS B pb (k + 1) W') := fun mv dv G' G'' b1 b2 W W' t hBx hA => ⟨q, r, mv, dv, G', G'', V, _, _, t.below C hA hBx, by rw [List.map_append, List.map_append, hh]; rfl, HVf.out, by simp; omega⟩
    have HTB : Hid (∀ mv dv hs hd G1 G2 W W', PB PS B pb q r mv dv G1 G2 V V hs hd W → B ≤ W.heap.size → Alike W W' → PB PS B pb q r mv dv G1 G2 V V hs hd W') := fun mv dv hs hd G1 G2 W W' t hBx hA => t.below C hA.below hBx
    have HTV : Hid (∀ G1 G2 W W', PB PS B pb q r mv dv G1 G2 V v hs hd W → B ≤ W.heap.size → Alike W W' → PB PS B pb q r mv dv G1 G2 V v hs hd W') := fun G1 G2 W W' t hBx hA => t.below C hA.below hBx
    have HLn : Hid (hs.length ≤ 2097151 ∧ hd.length ≤ 2097151) := ⟨by omega, by have := congrArg List.length hh; simp at this; omega⟩
    clear hh hv hl hcn T TA hbA hsA hE hD hV hx0
    subst hX
    obtain ⟨W0, hW0⟩ : ∃ W0, W0 = w.alloc (.cells #[.int .i64 4, .int .i64 n, .string a, .string b, .int .i64 m0, .int .i64 m1, .int .i64 m2, .int .i64 m3, .slice po pl pc, .slice co cl cc] 33) := ⟨_, rfl⟩
    have s0 : W0.heap[w.heap.size]? = some (.cells #[.int .i64 4, .int .i64 n, .string a, .string b, .int .i64 m0, .int .i64 m1, .int .i64 m2, .int .i64 m3, .slice po pl pc, .slice co cl cc] 33 (0, 0)) := by rw [hW0]; exact heap_alloc_new _ _
    have HW0 : Hid (W0 = w.alloc (.cells #[.int .i64 4, .int .i64 n, .string a, .string b, .int .i64 m0, .int .i64 m1, .int .i64 m2, .int .i64 m3, .slice po pl pc, .slice co cl cc] 33)) := hW0
    rw [← hW0] at HP p0
    obtain ⟨sk, sa, sm0, sm1, sm2, sm3⟩ := HS.out W0 s0
    clear hW0 s0
    go_enter Tryz.func28, Tryz.ntmps28
    go_upto_region 8 with fail
    rw [← HW0.out]
    go_cut [8, 9] from 28 to 39 (fun h8 h9 wx => ∃ b1 G1, h8 = .pointer (some ⟨b1, 0, none⟩) ∧ h9 = .nilIface ∧ PB PS B pb q r mv dv G1 Gr V v hs hd wx ∧ Below B w wx ∧ w.heap.size + 1 ≤ wx.heap.size ∧ wx.heap[w.heap.size]? = some (.cells #[.int .i64 4, .int .i64 n, .string a, .string b, .int .i64 m0, .int .i64 m1, .int .i64 m2, .int .i64 m3, .slice po pl pc, .slice co cl cc] 33 (0, 0)) ∧ FileAt wx b1 q x ∧ ¬ G1 b1 ∧ w.heap.size + 1 ≤ b1 ∧ b1 < wx.heap.size)
    case first =>
      go_region_with (go_at_call 42; refine (HP.out _ (Alike.mk ?_ ?_ ?_ ?_)).mono ?_; rfl; rfl; rfl; rfl; rintro e w1 ⟨b1, G1, rfl, t1, hb1, hl1, hx1, hf1, hg1, hlb1, hlt1⟩)
      all_goals
        go_wp2_with fail
        go_meet
        exact ⟨b1, G1, rfl, rfl, HTV.out _ _ _ _ t1 (by omega) ⟨rfl, rfl, rfl, rfl⟩, hb1.trans (Alike.below ⟨rfl, rfl, rfl, rfl⟩ |>.mono (by omega)), hl1, hx1, hf1, hg1, hlb1, hlt1⟩
    case rest =>
      obtain ⟨b1, G1, rfl, rfl, t1, hb1, hl1, hx1, hf1, hg1, hlb1, hlt1⟩ := hcut
      have p1 := t1.cells.2.1
      have hB1 : B ≤ wc.heap.size := by omega
      obtain ⟨s1k, s1a, s1m0, s1m1, s1m2, s1m3⟩ := HS.out wc hx1
      have HR1 := HR.out G1 b1 wc t1 hB1 hl1 hx1 hf1 hg1 hlb1 hlt1
      have HR2 : Hid _ := HR1
      have HE1 : Hid (Below B w wc ∧ B ≤ wc.heap.size) := ⟨hb1, hB1⟩
      clear t1 hx1 hl1 hb1 hB1 HR1 p0 sk sa sm0 sm1 sm2 sm3 hf1 hg1 hlb1 hlt1
      go_upto_region 9 with fail
      go_cut [10, 11] from 40 to 51 (fun h10 h11 wx => ∃ b2 G2, h10 = .pointer (some ⟨b2, 0, none⟩) ∧ h11 = .int .i64 0 ∧ PB PS B pb q r mv dv G1 G2 V V hs hd wx ∧ Below B w wx ∧ wx.heap[w.heap.size]? = some (.cells #[.int .i64 4, .int .i64 n, .string a, .string b, .int .i64 m0, .int .i64 m1, .int .i64 m2, .int .i64 m3, .slice po pl pc, .slice co cl cc] 33 (0, 0)) ∧ w.heap.size + 1 ≤ wx.heap.size ∧ FileAt wx b1 q x ∧ (B ≤ b1 ∧ ¬ G1 b1 ∧ ¬ G2 b1) ∧ b1 ∉ hs.map (·.1) ∧ RFileAt wx b2 r x ∧ (B ≤ b2 ∧ ¬ G1 b2 ∧ ¬ G2 b2) ∧ b2 ∉ hd.map (·.1))
      case first =>
        go_region_with (go_at_call 43; refine (HR2.out _ (Alike.mk ?_ ?_ ?_ ?_)).mono ?_; rfl; rfl; rfl; rfl; rintro e w2 ⟨b2, G2, rfl, t2, hb2, hx2, hl2, hf1, hg1, hn1, hf2, hg2, hn2⟩)
        all_goals
          go_wp2_with fail
          go_meet
          have hBw2 : B ≤ w2.heap.size := by omega
          exact ⟨b2, G2, rfl, rfl, HTB.out _ _ _ _ _ _ _ _ t2 hBw2 ⟨rfl, rfl, rfl, rfl⟩, (HE1.out.1.trans hb2).trans (Alike.below ⟨rfl, rfl, rfl, rfl⟩ |>.mono hBw2), hx2, hl2, hf1, hg1, hn1, hf2, hg2, hn2⟩
      case rest =>
        obtain ⟨b2, G2, rfl, rfl, t2, hb2, hx2, hl2, hf1, hg1, hn1, hf2, hg2, hn2⟩ := hcut
        have hBc : B ≤ wc.heap.size := by omega
        have HB2 : Hid (Below B w wc ∧ B ≤ wc.heap.size) := ⟨hb2, hBc⟩
        obtain ⟨s2k, s2a, -⟩ := HS.out wc hx2
        have HX2 : Hid (wc.heap[w.heap.size]? = some (.cells #[.int .i64 4, .int .i64 n, .string a, .string b, .int .i64 m0, .int .i64 m1, .int .i64 m2, .int .i64 m3, .slice po pl pc, .slice co cl cc] 33 (0, 0))) := hx2
        obtain ⟨aom, cm, hmv⟩ := own_shape t2.mrow
        obtain ⟨aod, cd, hdv⟩ := own_shape t2.drow
        obtain ⟨L, hL⟩ : ∃ L, L = hs.length := ⟨_, rfl⟩
        obtain ⟨L', hL'⟩ : ∃ L', L' = hd.length := ⟨_, rfl⟩
        have hLl : L ≤ 2097151 := by rw [hL]; exact HLn.out.1
        have hLl' : L' ≤ 2097151 := by rw [hL']; exact HLn.out.2
        rw [← hL] at hmv
        rw [← hL'] at hdv
        subst hmv; subst hdv
        have hpm : some pb ≠ (Value.slice aom L cm).ownBlock := fun e => by
          obtain ⟨cur, hc⟩ := own_typed t2.mrow e.symm
          exact typed_ne t2.blk hc (by decide) rfl
        have hpl := t2.lt
        have c2 := t2.cells.2.2.1
        have HT2 : Hid (PB PS B pb q r (.slice aom L cm) (.slice aod L' cd) G1 G2 V V hs hd wc ∧ FileAt wc b1 q x ∧ (B ≤ b1 ∧ ¬ G1 b1 ∧ ¬ G2 b1) ∧ b1 ∉ hs.map (·.1) ∧ RFileAt wc b2 r x ∧ (B ≤ b2 ∧ ¬ G1 b2 ∧ ¬ G2 b2) ∧ b2 ∉ hd.map (·.1)) := ⟨t2, hf1, hg1, hn1, hf2, hg2, hn2⟩
        have hrow := t2.mrow
        rw [← hL] at hrow
        have HL : Hid (L = hs.length ∧ L' = hd.length) := ⟨hL, hL'⟩
        have HPM : Hid (some pb ≠ (Value.slice aom L cm).ownBlock) := hpm
        clear t2 hb2 hx2 hl2 hf1 hg1 hn1 hf2 hg2 hn2 hL hL' hpm p1 s1k s1a s1m0 s1m1 s1m2 s1m3 hBc
        go_wp2_with (at_builtin; refine wpList_append_own_at _ rfl _ _ 40 rfl B 119 im (.pointer none) 1 8 Tryz.underlying40 him hm0 hm1 hm2 rfl (by decide) _ _ _ rfl (hrow.alloc _) ⟨wc.heap.size, 0, none⟩ 1 1 [.pointer (some ⟨b1, 0, none⟩)] rfl rfl (cell_one_new _ _ _) ?c2 ?c3 ?c4 ?c5 ?_)
        case c2 => first | rfl | (intro u hu; simp at hu; subst hu; rfl)
        case c3 => unfold maxLen; omega
        case c4 => omega
        case c5 => have := HB2.out.2; simp; omega
        intro v3 w3 hown3 hgrow3 _ hwh3
        have d2 : w3.heap[pb]? = some (.cells #[.pointer (some ⟨q, 0, none⟩), .pointer (some ⟨r, 0, none⟩), .slice aom L cm, .slice aod L' cd] 43 (0, 0)) := (hgrow3.block pb (by simp; omega) HPM.out).trans ((Lib.alloc_old _ _ pb hpl).trans HT2.out.1.blk)
        obtain ⟨ao3, c3', hv3⟩ := own_shape hown3
        subst hv3
        have e2 : w3.cell? ⟨pb, 2, none⟩ = some (.slice aom L cm) := by rw [Lib.cell_of_heap d2]; rfl
        have f2 := Lib.frozen_of_heap d2 2
        have T3 := HA1.out _ _ hs hd G1 G2 b1 wc w3 _ (.cells #[.pointer (some ⟨b1, 0, none⟩)] 119) HT2.out.1 HB2.out.2 HT2.out.2.1 HT2.out.2.2.1 HT2.out.2.2.2.1 (by rw [← HL.out.1]; exact hown3) ⟨hgrow3.os, hgrow3.tape, hgrow3.output, hgrow3.size, hgrow3.block⟩ (by rw [show (wc.alloc (.cells #[.pointer (some ⟨b1, 0, none⟩)] 119)).heap.size = wc.heap.size + 1 by simp]; exact hwh3)
        have HT3 : Hid _ := T3
        have HG3 : Hid (∀ k, k < (wc.alloc (.cells #[.pointer (some ⟨b1, 0, none⟩)] 119)).heap.size → some k ≠ (Value.slice aom L cm).ownBlock → w3.heap[k]? = (wc.alloc (.cells #[.pointer (some ⟨b1, 0, none⟩)] 119)).heap[k]?) := hgrow3.block
        clear T3 d2 hgrow3 hown3 hwh3 hrow c2 s2k s2a
        go_upto_region 14 with fail
        refine wp_world ?_
        intro W3 hW3
        rw [← hW3] at HT3
        have t3 := HT3.out.1
        have hB3 : B ≤ W3.heap.size := by have := HT3.out.2.size; have := HB2.out.2; omega
        have hpl3 := t3.lt
        have c3 := t3.cells.2.2.2.1
        have hk3 : ∀ k, k < wc.heap.size → k ≠ pb → some k ≠ (Value.slice aom L cm).ownBlock → W3.heap[k]? = wc.heap[k]? := fun k h1 h2 h3 => by
          rw [hW3, Below.heap_setCell _ _ _ _ h2]
          exact (HG3.out k (by simp; omega) h3).trans (Lib.alloc_old _ _ k h1)
        have g2 : RFileAt W3 b2 r x := (hk3 b2 (Array.getElem?_eq_some_iff.1 HT2.out.2.2.2.2.1).1 (fun e => typed_ne HT2.out.2.2.2.2.1 HT2.out.1.blk (by decide) e) (fun e => by
          obtain ⟨cur, hc⟩ := own_typed HT2.out.1.mrow e.symm
          exact typed_ne HT2.out.2.2.2.2.1 hc (by decide) rfl)).trans HT2.out.2.2.2.2.1
        have hx3 : W3.heap[w.heap.size]? = some (.cells #[.int .i64 4, .int .i64 n, .string a, .string b, .int .i64 m0, .int .i64 m1, .int .i64 m2, .int .i64 m3, .slice po pl pc, .slice co cl cc] 33 (0, 0)) := (hk3 w.heap.size (Array.getElem?_eq_some_iff.1 HX2.out).1 (fun e => typed_ne HX2.out HT2.out.1.blk (by decide) e) (fun e => by
          obtain ⟨cur, hc⟩ := own_typed HT2.out.1.mrow e.symm
          exact typed_ne HX2.out hc (by decide) rfl)).trans HX2.out
        have HX3 : Hid _ := hx3
        have hpd : some pb ≠ (Value.slice aod L' cd).ownBlock := fun e => by
          obtain ⟨cur, hc⟩ := own_typed t3.drow e.symm
          exact typed_ne t3.blk hc (by decide) rfl
        have HPD : Hid (some pb ≠ (Value.slice aod L' cd).ownBlock) := hpd
        have hrow := t3.drow
        rw [← HL.out.2] at hrow
        have HT4 : Hid (PB PS B pb q r (.slice ao3 (L + 1) c3') (.slice aod L' cd) G1 G2 V V (hs ++ [(b1, x)]) hd W3 ∧ RFileAt W3 b2 r x ∧ Below B wc W3 ∧ B ≤ W3.heap.size) := ⟨t3, g2, HT3.out.2, hB3⟩
        clear t3 g2 hpd hk3 hW3 HT3 e2 f2 hx3
        go_wp2_with (at_builtin; refine wpList_append_own_at _ rfl _ _ 41 rfl B 122 id (.pointer none) 1 8 Tryz.underlying41 hid hd0 hd1 hd2 rfl (by decide) _ _ _ rfl (hrow.alloc _) ⟨W3.heap.size, 0, none⟩ 1 1 [.pointer (some ⟨b2, 0, none⟩)] rfl rfl (cell_one_new _ _ _) ?c2 ?c3 ?c4 ?c5 ?_)
        case c2 => first | rfl | (intro u hu; simp at hu; subst hu; rfl)
        case c3 => unfold maxLen; omega
        case c4 => omega
        case c5 => have := HT4.out.2.2.2; simp; omega
        intro v4 w4 hown4 hgrow4 _ hwh4
        have d3 : w4.heap[pb]? = some (.cells #[.pointer (some ⟨q, 0, none⟩), .pointer (some ⟨r, 0, none⟩), .slice ao3 (L + 1) c3', .slice aod L' cd] 43 (0, 0)) := (hgrow4.block pb (by simp; omega) HPD.out).trans ((Lib.alloc_old _ _ pb hpl3).trans HT4.out.1.blk)
        obtain ⟨ao4, c4', hv4⟩ := own_shape hown4
        subst hv4
        have e3 : w4.cell? ⟨pb, 3, none⟩ = some (.slice aod L' cd) := by rw [Lib.cell_of_heap d3]; rfl
        have f3 := Lib.frozen_of_heap d3 3
        have T5 := HA2.out _ _ _ hd G1 G2 b2 W3 w4 _ (.cells #[.pointer (some ⟨b2, 0, none⟩)] 122) HT4.out.1 HT4.out.2.2.2 HT4.out.2.1 HT2.out.2.2.2.2.2.1 HT2.out.2.2.2.2.2.2 (by rw [← HL.out.2]; exact hown4) ⟨hgrow4.os, hgrow4.tape, hgrow4.output, hgrow4.size, hgrow4.block⟩ (by rw [show (W3.alloc (.cells #[.pointer (some ⟨b2, 0, none⟩)] 122)).heap.size = W3.heap.size + 1 by simp]; exact hwh4)
        have hxo : (w4.setCell ⟨pb, 3, none⟩ (.slice ao4 (L' + 1) c4')).heap[w.heap.size]? = some (.cells #[.int .i64 4, .int .i64 n, .string a, .string b, .int .i64 m0, .int .i64 m1, .int .i64 m2, .int .i64 m3, .slice po pl pc, .slice co cl cc] 33 (0, 0)) := by
          have hlx := (Array.getElem?_eq_some_iff.1 HX3.out).1
          rw [Below.heap_setCell _ _ _ _ (by show w.heap.size ≠ pb; exact typed_ne HX3.out HT4.out.1.blk (by decide))]
          refine (hgrow4.block w.heap.size (by simp; omega) (fun e => ?_)).trans ((Lib.alloc_old _ _ _ hlx).trans HX3.out)
          obtain ⟨cur, hc⟩ := own_typed HT4.out.1.drow e.symm
          exact typed_ne HX3.out hc (by decide) rfl
        have HT5 : Hid _ := T5
        have HXO : Hid _ := hxo
        clear T5 d3 hgrow4 hown4 hwh4 hrow c3 hxo
        go_upto_region 15 with fail
        refine wp_world ?_
        intro W5 hW5
        rw [← hW5] at HT5 HXO
        have hB5 : B ≤ W5.heap.size := by have := HT5.out.2.size; have := HT4.out.2.2.2; omega
        obtain ⟨s5k, s5a, -⟩ := HS.out W5 HXO.out
        clear hW5 e3 f3
        go_wp2_with (go_at_call 8; refine (HT.out 0 .nilIface _ (.inl ⟨rfl, rfl⟩)).mono ?_; rintro e w6 ⟨rfl, hA6⟩)
        go_returns
        have hb6 : Below W5.heap.size W5 w6 := hA6.below
        exact ⟨rfl, HEnd.out _ _ _ _ _ _ W5 _ HT5.out.1 hB5 hb6, ((HB2.out.1.trans HT4.out.2.2.1).trans HT5.out.2).trans (hb6.mono hB5)⟩
  · have HE0 : Hid (E ≠ 0) := hE0
    have HP : Hid (∀ W, Alike (w.alloc X) W → Calls Tryz.prog 42 #[.pointer (some ⟨q, 0, none⟩), .string a, .agg #[.int .i64 m0, .int .i64 m1, .int .i64 m2, .int .i64 m3]] W fun e w' => ∃ ev, e = .returned (.tuple #[.pointer none, ev]) ∧ PB PS B pb q r mv dv (ext Gp W w') Gr V v hs hd w' ∧ Below B w w' ∧ w.heap.size + 1 ≤ w'.heap.size ∧ ErrIs w' (w.heap.size + 1) ⟨#[99, 114, 101, 97, 116, 101]⟩ a E ev ∧ w'.heap[w.heap.size]? = some X) := fun W hA => by
      have TW := TA.below C hA.below (by omega)
      have hsW : W.heap.size = w.heap.size + 1 := by rw [hA.heap]; exact hsA
      have hbW := hbA.trans (hA.below.mono (by omega))
      refine (fCreate_c C Gp q v a m0 m1 m2 m3 W TW.pp hv.wf hcn).mono ?_
      rintro e w' ⟨hv', ev, rfl, he, hkp, hd'⟩
      rw [← hE, ← hD, ← hV] at hd'
      rw [← hE, hsW] at he
      rcases hd' with ⟨_, rfl, hpv⟩ | ⟨h0, _⟩
      · obtain ⟨t, hb⟩ := TW.pdid (by omega) ⟨hpv, hkp⟩
        have hs' := hkp.size
        refine ⟨ev, rfl, t, (hbW.mono hB).trans hb, by omega, he, ?_⟩
        rw [hkp.block w.heap.size (by omega) (T.out (Nat.le_refl _)).1, hA.heap, heap_alloc_new]
      · exact absurd h0 hE0
    have HR : Hid (∀ G' wx, PB PS B pb q r mv dv G' Gr V v hs hd wx → B ≤ wx.heap.size → w.heap.size + 1 ≤ wx.heap.size → wx.heap[w.heap.size]? = some X → ∀ W, Alike wx W → Calls Tryz.prog 43 #[.pointer (some ⟨r, 0, none⟩), .string a, .agg #[.int .i64 m0, .int .i64 m1, .int .i64 m2, .int .i64 m3]] W fun e w' => e = .returned (.tuple #[.pointer none, .int .i64 E]) ∧ PB PS B pb q r mv dv G' (ext Gr W w') V V hs hd w' ∧ Below B wx w' ∧ w'.heap[w.heap.size]? = some X ∧ (∀ ev, ErrIs wx (w.heap.size + 1) ⟨#[99, 114, 101, 97, 116, 101]⟩ a E ev → ErrIs w' (w.heap.size + 1) ⟨#[99, 114, 101, 97, 116, 101]⟩ a E ev) ∧ w.heap.size + 1 ≤ w'.heap.size) := fun G' wx t0 hBx hlx hx W hA => by
      have t := t0.below C hA.below hBx
      have hsW : W.heap.size = wx.heap.size := by rw [hA.heap]
      refine (rCreate_c Gr r v a m0 m1 m2 m3 W t.rr hv.wf hcn).mono ?_
      rintro e w' ⟨hv', rfl, hkp, hd'⟩
      rw [← hE, ← hD, ← hV] at hd'
      rcases hd' with ⟨_, rfl, hpv⟩ | ⟨h0, _⟩
      · obtain ⟨t', hb⟩ := t.rdid C (by omega) ⟨hpv, hkp⟩
        have hs' := hkp.size
        exact ⟨by rw [hE], t', (hA.below.mono hBx).trans hb, (hkp.block _ (by omega) (T.out (Nat.le_refl _)).2).trans (by rw [hA.heap]; exact hx), fun ev he => (he.below hA.below).kept hkp (fun k h => by have := T.rr.low k h; omega), by omega⟩
      · exact absurd h0 hE0
    have HEnd : Hid (∀ G' G'' W W', PB PS B pb q r mv dv G' G'' V V hs hd W → B ≤ W.heap.size → Below W.heap.size W W' → Bx PS B pb (k + 1) W') := fun G' G'' W W' t hBx hA => ⟨q, r, mv, dv, G', G'', V, hs, hd, t.below C hA hBx, hh, HVf.out, by omega⟩
    have HTV : Hid (∀ G1 G2 W W', PB PS B pb q r mv dv G1 G2 V v hs hd W → B ≤ W.heap.size → Alike W W' → PB PS B pb q r mv dv G1 G2 V v hs hd W') := fun G1 G2 W W' t hBx hA => t.below C hA.below hBx
    have HTB : Hid (∀ G1 G2 W W', PB PS B pb q r mv dv G1 G2 V V hs hd W → B ≤ W.heap.size → Alike W W' → PB PS B pb q r mv dv G1 G2 V V hs hd W') := fun G1 G2 W W' t hBx hA => t.below C hA.below hBx
    clear hh hv hl hcn T TA hbA hsA hE hD hV hE0 him hm0 hm1 hm2 hid hd0 hd1 hd2
    subst hX
    obtain ⟨W0, hW0⟩ : ∃ W0, W0 = w.alloc (.cells #[.int .i64 4, .int .i64 n, .string a, .string b, .int .i64 m0, .int .i64 m1, .int .i64 m2, .int .i64 m3, .slice po pl pc, .slice co cl cc] 33) := ⟨_, rfl⟩
    have s0 : W0.heap[w.heap.size]? = some (.cells #[.int .i64 4, .int .i64 n, .string a, .string b, .int .i64 m0, .int .i64 m1, .int .i64 m2, .int .i64 m3, .slice po pl pc, .slice co cl cc] 33 (0, 0)) := by rw [hW0]; exact heap_alloc_new _ _
    have HW0 : Hid (W0 = w.alloc (.cells #[.int .i64 4, .int .i64 n, .string a, .string b, .int .i64 m0, .int .i64 m1, .int .i64 m2, .int .i64 m3, .slice po pl pc, .slice co cl cc] 33)) := hW0
    rw [← hW0] at HP p0
    obtain ⟨sk, sa, sm0, sm1, sm2, sm3⟩ := HS.out W0 s0
    clear hW0 s0
    go_enter Tryz.func28, Tryz.ntmps28
    go_upto_region 8 with fail
    rw [← HW0.out]
    go_cut [8, 9] from 28 to 39 (fun h8 h9 wx => ∃ G1, h8 = .pointer none ∧ PB PS B pb q r mv dv G1 Gr V v hs hd wx ∧ Below B w wx ∧ w.heap.size + 1 ≤ wx.heap.size ∧ ErrIs wx (w.heap.size + 1) ⟨#[99, 114, 101, 97, 116, 101]⟩ a E h9 ∧ wx.heap[w.heap.size]? = some (.cells #[.int .i64 4, .int .i64 n, .string a, .string b, .int .i64 m0, .int .i64 m1, .int .i64 m2, .int .i64 m3, .slice po pl pc, .slice co cl cc] 33 (0, 0)))
    case first =>
      go_region_with (go_at_call 42; refine (HP.out _ (Alike.mk ?_ ?_ ?_ ?_)).mono ?_; rfl; rfl; rfl; rfl; rintro e w1 ⟨ev, rfl, t1, hb1, hl1, he1, hx1⟩)
      all_goals
        go_wp2_with fail
        go_meet
        exact ⟨_, rfl, HTV.out _ _ _ _ t1 (by omega) ⟨rfl, rfl, rfl, rfl⟩, hb1.trans (Alike.below ⟨rfl, rfl, rfl, rfl⟩ |>.mono (by omega)), hl1, he1, hx1⟩
    case rest =>
      obtain ⟨G1, rfl, t1, hb1, hl1, he1, hx1⟩ := hcut
      have p1 := t1.cells.2.1
      have hB1 : B ≤ wc.heap.size := by omega
      obtain ⟨s1k, s1a, s1m0, s1m1, s1m2, s1m3⟩ := HS.out wc hx1
      have HR1 := HR.out G1 wc t1 hB1 hl1 hx1
      have HR2 : Hid _ := HR1
      have HE1 : Hid (Below B w wc ∧ B ≤ wc.heap.size) := ⟨hb1, hB1⟩
      have HEV : Hid (ErrIs wc (w.heap.size + 1) ⟨#[99, 114, 101, 97, 116, 101]⟩ a E u9) := he1
      clear t1 hx1 hl1 he1 hb1 hB1 HR1 p0 sk sa sm0 sm1 sm2 sm3
      go_upto_region 9 with fail
      go_cut [10, 11] from 40 to 51 (fun h10 h11 wx => ∃ G2, h10 = .pointer none ∧ h11 = .int .i64 E ∧ PB PS B pb q r mv dv G1 G2 V V hs hd wx ∧ Below B w wx ∧ wx.heap[w.heap.size]? = some (.cells #[.int .i64 4, .int .i64 n, .string a, .string b, .int .i64 m0, .int .i64 m1, .int .i64 m2, .int .i64 m3, .slice po pl pc, .slice co cl cc] 33 (0, 0)) ∧ w.heap.size + 1 ≤ wx.heap.size ∧ ErrIs wx (w.heap.size + 1) ⟨#[99, 114, 101, 97, 116, 101]⟩ a E u9)
      case first =>
        go_region_with (go_at_call 43; refine (HR2.out _ (Alike.mk ?_ ?_ ?_ ?_)).mono ?_; rfl; rfl; rfl; rfl; rintro e w2 ⟨rfl, t2, hb2, hx2, he2, hl2⟩)
        all_goals
          go_wp2_with fail
          go_meet
          have hBw2 : B ≤ w2.heap.size := by omega
          exact ⟨_, rfl, rfl, HTB.out _ _ _ _ t2 hBw2 ⟨rfl, rfl, rfl, rfl⟩, (HE1.out.1.trans hb2).trans (Alike.below ⟨rfl, rfl, rfl, rfl⟩ |>.mono hBw2), hx2, hl2, he2 u9 HEV.out⟩
      case rest =>
        obtain ⟨G2, rfl, rfl, t2, hb2, hx2, hl2, he2⟩ := hcut
        have hBw2 : B ≤ wc.heap.size := by omega
        obtain ⟨s2k, s2a, -⟩ := HS.out wc hx2
        have HB2 : Hid (PB PS B pb q r mv dv G1 G2 V V hs hd wc ∧ Below B w wc ∧ B ≤ wc.heap.size) := ⟨t2, hb2, hBw2⟩
        clear hx2 hb2 hl2 p1 s1k s1a s1m0 s1m1 s1m2 s1m3 t2 hBw2
        go_wp2_with (go_at_call 8; refine (HT.out _ _ _ he2).mono ?_; rintro e w3 ⟨rfl, hA3⟩)
        go_returns
        exact ⟨rfl, HEnd.out _ _ wc _ HB2.out.1 HB2.out.2.2 hA3.below, HB2.out.2.1.trans (hA3.below.mono HB2.out.2.2)⟩
end Go.Proofs.YtloljimabapicacGreat
