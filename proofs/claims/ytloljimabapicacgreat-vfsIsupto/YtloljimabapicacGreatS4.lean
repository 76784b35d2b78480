
-- A call on both volumes that changes them.
import Derived.Test.YtloljimabapicacGreatS2
import Derived.Deep.RegionWith
import Derived.Deep.DrawnRows
namespace Go.Proofs.YtloljimabapicacGreat
open Go.RowKit
set_option linter.unusedVariables false
variable {PS : (Nat → Prop) → Nat → St → World → Prop}
attribute [local go_sem ↓] Go.wp_at_zero Go.wp_at_succ
set_option maxRecDepth 8000 in
set_option maxHeartbeats 8000000 in
theorem changes5 (C : PC PS) (B pb k : Nat) (n : Int) (a b : ByteArray) (m0 m1 m2 m3 : Int) (po : Option Addr) (pl pc : Nat) (co : Option Addr) (cl cc : Nat) (w : World) (h : Bx PS B pb k w) (hB : B ≤ w.heap.size) (hk : k < 2097151) :
    Calls Tryz.prog 28 #[.pointer (some ⟨pb, 0, none⟩), .agg #[.int .i64 5, .int .i64 n, .string a, .string b, .int .i64 m0, .int .i64 m1, .int .i64 m2, .int .i64 m3, .slice po pl pc, .slice co cl cc]] w fun e w' => e = .returned (.int .i64 0) ∧ Bx PS B pb (k + 1) w' ∧ Below B w w' := by
  obtain ⟨q, r, mv, dv, Gp, Gr, v, hs, hd, T, hh, hv, hl⟩ := h
  obtain ⟨X, hX⟩ : ∃ X, X = Obj.cells #[.int .i64 5, .int .i64 n, .string a, .string b, .int .i64 m0, .int .i64 m1, .int .i64 m2, .int .i64 m3, .slice po pl pc, .slice co cl cc] 33 := ⟨_, rfl⟩
  have hbA : Below w.heap.size w (w.alloc X) := (Below.refl _ w).alloc (Nat.le_refl _) _
  have hsA : (w.alloc X).heap.size = w.heap.size + 1 := by simp
  have TA := T.below C hbA hB
  have hcn : v.cnt ≤ 4194304 := by have := hv.cnt; omega
  have hgl : ∀ k, Gr k → k < w.heap.size + 1 := fun k h => by have := T.rr.low k h; omega
  have HT : Hid (∀ (e : Nat) ev W, ErrIs W (w.heap.size + 1) ⟨#[114, 101, 110, 97, 109, 101]⟩ a e ev → Calls Tryz.prog 8 #[ev, .string ⟨#[114, 101, 110, 97, 109, 101]⟩, .string a, .int .i64 e] W fun r w' => r = .returned (.bool true) ∧ Alike W w') := fun e ev W he => told_c _ _ _ _ _ _ he
  obtain ⟨E, hE⟩ : ∃ x, x = (v.rename a b).1 := ⟨_, rfl⟩
  obtain ⟨V, hV⟩ : ∃ x, x = (v.rename a b).2 := ⟨_, rfl⟩
  have HP : Hid (∀ W, Alike (w.alloc X) W → Calls Tryz.prog 16 #[.pointer (some ⟨q, 0, none⟩), .string a, .string b] W fun e w' => ∃ ev, e = .returned (ev) ∧ PB PS B pb q r mv dv (ext Gp W w') Gr V v hs hd w' ∧ Below B w w' ∧ w.heap.size + 1 ≤ w'.heap.size ∧ ErrIs w' (w.heap.size + 1) ⟨#[114, 101, 110, 97, 109, 101]⟩ a E ev ∧ w'.heap[w.heap.size]? = some X) := fun W hA => by
    have TW := TA.below C hA.below (by omega)
    have hsW : W.heap.size = w.heap.size + 1 := by rw [hA.heap]; exact hsA
    have hbW := hbA.trans (hA.below.mono (by omega))
    refine (fRename_c C Gp q v a b W TW.pp hv.wf hcn).mono ?_
    rintro e w' ⟨ev, rfl, he, hd'⟩
    obtain ⟨t, hb⟩ := TW.pdid (by omega) hd'
    have hs' := hd'.2.size
    rw [← hV] at t
    rw [← hE, hsW] at he
    refine ⟨ev, rfl, t, (hbW.mono hB).trans hb, by omega, he, ?_⟩
    rw [hd'.2.block w.heap.size (by omega) (T.out (Nat.le_refl _)).1, hA.heap, heap_alloc_new]
  have HR : Hid (∀ G' wx, PB PS B pb q r mv dv G' Gr V v hs hd wx → B ≤ wx.heap.size → w.heap.size + 1 ≤ wx.heap.size → wx.heap[w.heap.size]? = some X → ∀ W, Alike wx W → Calls Tryz.prog 17 #[.pointer (some ⟨r, 0, none⟩), .string a, .string b] W fun e w' => e = .returned (.int .i64 E) ∧ PB PS B pb q r mv dv G' (ext Gr W w') V V hs hd w' ∧ Below B wx w' ∧ w'.heap[w.heap.size]? = some X ∧ (∀ ev, ErrIs wx (w.heap.size + 1) ⟨#[114, 101, 110, 97, 109, 101]⟩ a E ev → ErrIs w' (w.heap.size + 1) ⟨#[114, 101, 110, 97, 109, 101]⟩ a E ev) ∧ w.heap.size + 1 ≤ w'.heap.size) := fun G' wx t0 hBx hlx hx W hA => by
    have t := t0.below C hA.below hBx
    have hsW : W.heap.size = wx.heap.size := by rw [hA.heap]
    refine (rRename_c Gr r v a b W t.rr hv.wf hcn).mono ?_
    rintro e w' ⟨rfl, hd'⟩
    obtain ⟨t', hb⟩ := t.rdid C (by omega) hd'
    have hs' := hd'.2.size
    rw [← hV] at t'
    refine ⟨by rw [hE], t', (hA.below.mono hBx).trans hb, (hd'.2.block _ (by omega) (fun h' => by have := T.rr.low _ h'; omega)).trans (by rw [hA.heap]; exact hx), fun ev he => (he.below hA.below).kept hd'.2 hgl, by omega⟩
  have HEnd : Hid (∀ G' G'' W W', PB PS B pb q r mv dv G' G'' V V hs hd W → B ≤ W.heap.size → Below W.heap.size W W' → Bx PS B pb (k + 1) W') := fun G' G'' W W' t hBx hA => ⟨q, r, mv, dv, G', G'', V, hs, hd, t.below C hA hBx, hh, by rw [hV]; exact hv.rename hk a b, by omega⟩
  have p0 := TA.cells.1
  clear hh hv hl hcn hgl hE hV T TA hbA hsA
  subst hX
  obtain ⟨W0, hW0⟩ : ∃ W0, W0 = w.alloc (.cells #[.int .i64 5, .int .i64 n, .string a, .string b, .int .i64 m0, .int .i64 m1, .int .i64 m2, .int .i64 m3, .slice po pl pc, .slice co cl cc] 33) := ⟨_, rfl⟩
  have s0 : W0.heap[w.heap.size]? = some (.cells #[.int .i64 5, .int .i64 n, .string a, .string b, .int .i64 m0, .int .i64 m1, .int .i64 m2, .int .i64 m3, .slice po pl pc, .slice co cl cc] 33 (0, 0)) := by rw [hW0]; exact heap_alloc_new _ _
  have HS : Hid (∀ (W : World), W.heap[w.heap.size]? = some (.cells #[.int .i64 5, .int .i64 n, .string a, .string b, .int .i64 m0, .int .i64 m1, .int .i64 m2, .int .i64 m3, .slice po pl pc, .slice co cl cc] 33 (0, 0)) → W.cell? ⟨w.heap.size, 0, none⟩ = some (.int .i64 5) ∧ W.cell? ⟨w.heap.size, 2, none⟩ = some (.string a) ∧ W.cell? ⟨w.heap.size, 3, none⟩ = some (.string b)) := fun W hs => by
    refine ⟨?_, ?_, ?_⟩ <;> (rw [Lib.cell_of_heap hs]; rfl)
  have HW0 : Hid (W0 = w.alloc (.cells #[.int .i64 5, .int .i64 n, .string a, .string b, .int .i64 m0, .int .i64 m1, .int .i64 m2, .int .i64 m3, .slice po pl pc, .slice co cl cc] 33)) := hW0
  rw [← hW0] at HP p0
  obtain ⟨sk, sa, sb⟩ := HS.out W0 s0
  clear hW0 s0
  go_enter Tryz.func28, Tryz.ntmps28
  go_wp2_with fail
  rw [← HW0.out]
  go_region_with (go_at_call 16; refine (HP.out _ (Alike.mk ?_ ?_ ?_ ?_)).mono ?_; rfl; rfl; rfl; rfl; rintro e w1 ⟨ev, rfl, t1, hb1, hl1, he1, hx1⟩)
  all_goals
    have p1 := t1.cells.2.1
    have hB1 : B ≤ w1.heap.size := by omega
    obtain ⟨s1k, s1a, s1b⟩ := HS.out w1 hx1
    have HR1 := HR.out _ w1 t1 hB1 hl1 hx1
    have HR2 : Hid _ := HR1
    have HE1 : Hid (ErrIs w1 (w.heap.size + 1) ⟨#[114, 101, 110, 97, 109, 101]⟩ a E ev ∧ Below B w w1 ∧ B ≤ w1.heap.size) := ⟨he1, hb1, hB1⟩
    clear t1 hx1 hl1 he1 hb1 hB1 HR1 p0 sk sa sb
    go_wp2_with fail
    go_region_with (go_at_call 17; refine (HR2.out _ (Alike.mk ?_ ?_ ?_ ?_)).mono ?_; rfl; rfl; rfl; rfl; rintro e w2 ⟨rfl, t2, hb2, hx2, he2, hl2⟩)
    all_goals
      obtain ⟨s2k, s2a, s2b⟩ := HS.out w2 hx2
      have he3 := he2 ev HE1.out.1
      have HB2 : Hid (Below B w w2 ∧ B ≤ w2.heap.size) := ⟨HE1.out.2.1.trans hb2, by have := hb2.size; have := HE1.out.2.2; omega⟩
      clear he2 hx2 hb2 hl2 p1 s1k s1a s1b
      go_wp2_with (go_at_call 8; refine (HT.out _ _ _ (he3.below (Alike.below (Alike.mk ?_ ?_ ?_ ?_)))).mono ?_; rfl; rfl; rfl; rfl; rintro e w3 ⟨rfl, hA3⟩)
      go_returns
      have hb3 : Below w2.heap.size w2 w3 := Alike.below ⟨hA3.heap, hA3.os, hA3.tape, hA3.output⟩
      exact ⟨rfl, HEnd.out _ _ w2 _ t2 HB2.out.2 hb3, HB2.out.1.trans (hb3.mono HB2.out.2)⟩
set_option maxRecDepth 8000 in
set_option maxHeartbeats 8000000 in
theorem changes6 (C : PC PS) (B pb k : Nat) (n : Int) (a b : ByteArray) (m0 m1 m2 m3 : Int) (po : Option Addr) (pl pc : Nat) (co : Option Addr) (cl cc : Nat) (w : World) (h : Bx PS B pb k w) (hB : B ≤ w.heap.size) (hk : k < 2097151) :
    Calls Tryz.prog 28 #[.pointer (some ⟨pb, 0, none⟩), .agg #[.int .i64 6, .int .i64 n, .string a, .string b, .int .i64 m0, .int .i64 m1, .int .i64 m2, .int .i64 m3, .slice po pl pc, .slice co cl cc]] w fun e w' => e = .returned (.int .i64 0) ∧ Bx PS B pb (k + 1) w' ∧ Below B w w' := by
  obtain ⟨q, r, mv, dv, Gp, Gr, v, hs, hd, T, hh, hv, hl⟩ := h
  obtain ⟨X, hX⟩ : ∃ X, X = Obj.cells #[.int .i64 6, .int .i64 n, .string a, .string b, .int .i64 m0, .int .i64 m1, .int .i64 m2, .int .i64 m3, .slice po pl pc, .slice co cl cc] 33 := ⟨_, rfl⟩
  have hbA : Below w.heap.size w (w.alloc X) := (Below.refl _ w).alloc (Nat.le_refl _) _
  have hsA : (w.alloc X).heap.size = w.heap.size + 1 := by simp
  have TA := T.below C hbA hB
  have hcn : v.cnt ≤ 4194304 := by have := hv.cnt; omega
  have hgl : ∀ k, Gr k → k < w.heap.size + 1 := fun k h => by have := T.rr.low k h; omega
  have HT : Hid (∀ (e : Nat) ev W, ErrIs W (w.heap.size + 1) ⟨#[114, 101, 109, 111, 118, 101]⟩ a e ev → Calls Tryz.prog 8 #[ev, .string ⟨#[114, 101, 109, 111, 118, 101]⟩, .string a, .int .i64 e] W fun r w' => r = .returned (.bool true) ∧ Alike W w') := fun e ev W he => told_c _ _ _ _ _ _ he
  obtain ⟨E, hE⟩ : ∃ x, x = (v.remove a).1 := ⟨_, rfl⟩
  obtain ⟨V, hV⟩ : ∃ x, x = (v.remove a).2 := ⟨_, rfl⟩
  have HP : Hid (∀ W, Alike (w.alloc X) W → Calls Tryz.prog 18 #[.pointer (some ⟨q, 0, none⟩), .string a] W fun e w' => ∃ ev, e = .returned (ev) ∧ PB PS B pb q r mv dv (ext Gp W w') Gr V v hs hd w' ∧ Below B w w' ∧ w.heap.size + 1 ≤ w'.heap.size ∧ ErrIs w' (w.heap.size + 1) ⟨#[114, 101, 109, 111, 118, 101]⟩ a E ev ∧ w'.heap[w.heap.size]? = some X) := fun W hA => by
    have TW := TA.below C hA.below (by omega)
    have hsW : W.heap.size = w.heap.size + 1 := by rw [hA.heap]; exact hsA
    have hbW := hbA.trans (hA.below.mono (by omega))
    refine (fRemove_c C Gp q v a W TW.pp hv.wf hcn).mono ?_
    rintro e w' ⟨ev, rfl, he, hd'⟩
    obtain ⟨t, hb⟩ := TW.pdid (by omega) hd'
    have hs' := hd'.2.size
    rw [← hV] at t
    rw [← hE, hsW] at he
    refine ⟨ev, rfl, t, (hbW.mono hB).trans hb, by omega, he, ?_⟩
    rw [hd'.2.block w.heap.size (by omega) (T.out (Nat.le_refl _)).1, hA.heap, heap_alloc_new]
  have HR : Hid (∀ G' wx, PB PS B pb q r mv dv G' Gr V v hs hd wx → B ≤ wx.heap.size → w.heap.size + 1 ≤ wx.heap.size → wx.heap[w.heap.size]? = some X → ∀ W, Alike wx W → Calls Tryz.prog 19 #[.pointer (some ⟨r, 0, none⟩), .string a] W fun e w' => e = .returned (.int .i64 E) ∧ PB PS B pb q r mv dv G' (ext Gr W w') V V hs hd w' ∧ Below B wx w' ∧ w'.heap[w.heap.size]? = some X ∧ (∀ ev, ErrIs wx (w.heap.size + 1) ⟨#[114, 101, 109, 111, 118, 101]⟩ a E ev → ErrIs w' (w.heap.size + 1) ⟨#[114, 101, 109, 111, 118, 101]⟩ a E ev) ∧ w.heap.size + 1 ≤ w'.heap.size) := fun G' wx t0 hBx hlx hx W hA => by
    have t := t0.below C hA.below hBx
    have hsW : W.heap.size = wx.heap.size := by rw [hA.heap]
    refine (rRemove_c Gr r v a W t.rr hv.wf hcn).mono ?_
    rintro e w' ⟨rfl, hd'⟩
    obtain ⟨t', hb⟩ := t.rdid C (by omega) hd'
    have hs' := hd'.2.size
    rw [← hV] at t'
    refine ⟨by rw [hE], t', (hA.below.mono hBx).trans hb, (hd'.2.block _ (by omega) (fun h' => by have := T.rr.low _ h'; omega)).trans (by rw [hA.heap]; exact hx), fun ev he => (he.below hA.below).kept hd'.2 hgl, by omega⟩
  have HEnd : Hid (∀ G' G'' W W', PB PS B pb q r mv dv G' G'' V V hs hd W → B ≤ W.heap.size → Below W.heap.size W W' → Bx PS B pb (k + 1) W') := fun G' G'' W W' t hBx hA => ⟨q, r, mv, dv, G', G'', V, hs, hd, t.below C hA hBx, hh, by rw [hV]; exact hv.remove hk a, by omega⟩
  have p0 := TA.cells.1
  clear hh hv hl hcn hgl hE hV T TA hbA hsA
  subst hX
  obtain ⟨W0, hW0⟩ : ∃ W0, W0 = w.alloc (.cells #[.int .i64 6, .int .i64 n, .string a, .string b, .int .i64 m0, .int .i64 m1, .int .i64 m2, .int .i64 m3, .slice po pl pc, .slice co cl cc] 33) := ⟨_, rfl⟩
  have s0 : W0.heap[w.heap.size]? = some (.cells #[.int .i64 6, .int .i64 n, .string a, .string b, .int .i64 m0, .int .i64 m1, .int .i64 m2, .int .i64 m3, .slice po pl pc, .slice co cl cc] 33 (0, 0)) := by rw [hW0]; exact heap_alloc_new _ _
  have HS : Hid (∀ (W : World), W.heap[w.heap.size]? = some (.cells #[.int .i64 6, .int .i64 n, .string a, .string b, .int .i64 m0, .int .i64 m1, .int .i64 m2, .int .i64 m3, .slice po pl pc, .slice co cl cc] 33 (0, 0)) → W.cell? ⟨w.heap.size, 0, none⟩ = some (.int .i64 6) ∧ W.cell? ⟨w.heap.size, 2, none⟩ = some (.string a) ∧ W.cell? ⟨w.heap.size, 3, none⟩ = some (.string b)) := fun W hs => by
    refine ⟨?_, ?_, ?_⟩ <;> (rw [Lib.cell_of_heap hs]; rfl)
  have HW0 : Hid (W0 = w.alloc (.cells #[.int .i64 6, .int .i64 n, .string a, .string b, .int .i64 m0, .int .i64 m1, .int .i64 m2, .int .i64 m3, .slice po pl pc, .slice co cl cc] 33)) := hW0
  rw [← hW0] at HP p0
  obtain ⟨sk, sa, sb⟩ := HS.out W0 s0
  clear hW0 s0
  go_enter Tryz.func28, Tryz.ntmps28
  go_wp2_with fail
  rw [← HW0.out]
  go_region_with (go_at_call 18; refine (HP.out _ (Alike.mk ?_ ?_ ?_ ?_)).mono ?_; rfl; rfl; rfl; rfl; rintro e w1 ⟨ev, rfl, t1, hb1, hl1, he1, hx1⟩)
  all_goals
    have p1 := t1.cells.2.1
    have hB1 : B ≤ w1.heap.size := by omega
    obtain ⟨s1k, s1a, s1b⟩ := HS.out w1 hx1
    have HR1 := HR.out _ w1 t1 hB1 hl1 hx1
    have HR2 : Hid _ := HR1
    have HE1 : Hid (ErrIs w1 (w.heap.size + 1) ⟨#[114, 101, 109, 111, 118, 101]⟩ a E ev ∧ Below B w w1 ∧ B ≤ w1.heap.size) := ⟨he1, hb1, hB1⟩
    clear t1 hx1 hl1 he1 hb1 hB1 HR1 p0 sk sa sb
    go_wp2_with fail
    go_region_with (go_at_call 19; refine (HR2.out _ (Alike.mk ?_ ?_ ?_ ?_)).mono ?_; rfl; rfl; rfl; rfl; rintro e w2 ⟨rfl, t2, hb2, hx2, he2, hl2⟩)
    all_goals
      obtain ⟨s2k, s2a, s2b⟩ := HS.out w2 hx2
      have he3 := he2 ev HE1.out.1
      have HB2 : Hid (Below B w w2 ∧ B ≤ w2.heap.size) := ⟨HE1.out.2.1.trans hb2, by have := hb2.size; have := HE1.out.2.2; omega⟩
      clear he2 hx2 hb2 hl2 p1 s1k s1a s1b
      go_wp2_with (go_at_call 8; refine (HT.out _ _ _ (he3.below (Alike.below (Alike.mk ?_ ?_ ?_ ?_)))).mono ?_; rfl; rfl; rfl; rfl; rintro e w3 ⟨rfl, hA3⟩)
      go_returns
      have hb3 : Below w2.heap.size w2 w3 := Alike.below ⟨hA3.heap, hA3.os, hA3.tape, hA3.output⟩
      exact ⟨rfl, HEnd.out _ _ w2 _ t2 HB2.out.2 hb3, HB2.out.1.trans (hb3.mono HB2.out.2)⟩
set_option maxRecDepth 8000 in
set_option maxHeartbeats 8000000 in
theorem changes7 (C : PC PS) (B pb k : Nat) (n : Int) (a b : ByteArray) (m0 m1 m2 m3 : Int) (po : Option Addr) (pl pc : Nat) (co : Option Addr) (cl cc : Nat) (w : World) (h : Bx PS B pb k w) (hB : B ≤ w.heap.size) (hk : k < 2097151) :
    Calls Tryz.prog 28 #[.pointer (some ⟨pb, 0, none⟩), .agg #[.int .i64 7, .int .i64 n, .string a, .string b, .int .i64 m0, .int .i64 m1, .int .i64 m2, .int .i64 m3, .slice po pl pc, .slice co cl cc]] w fun e w' => e = .returned (.int .i64 0) ∧ Bx PS B pb (k + 1) w' ∧ Below B w w' := by
  obtain ⟨q, r, mv, dv, Gp, Gr, v, hs, hd, T, hh, hv, hl⟩ := h
  obtain ⟨X, hX⟩ : ∃ X, X = Obj.cells #[.int .i64 7, .int .i64 n, .string a, .string b, .int .i64 m0, .int .i64 m1, .int .i64 m2, .int .i64 m3, .slice po pl pc, .slice co cl cc] 33 := ⟨_, rfl⟩
  have hbA : Below w.heap.size w (w.alloc X) := (Below.refl _ w).alloc (Nat.le_refl _) _
  have hsA : (w.alloc X).heap.size = w.heap.size + 1 := by simp
  have TA := T.below C hbA hB
  have hcn : v.cnt ≤ 4194304 := by have := hv.cnt; omega
  have hgl : ∀ k, Gr k → k < w.heap.size + 1 := fun k h => by have := T.rr.low k h; omega
  have HT : Hid (∀ (e : Nat) ev W, ErrIs W (w.heap.size + 1) ⟨#[115, 121, 110, 99, 100, 105, 114]⟩ ⟨#[]⟩ e ev → Calls Tryz.prog 8 #[ev, .string ⟨#[115, 121, 110, 99, 100, 105, 114]⟩, .string ⟨#[]⟩, .int .i64 e] W fun r w' => r = .returned (.bool true) ∧ Alike W w') := fun e ev W he => told_c _ _ _ _ _ _ he
  obtain ⟨E, hE⟩ : ∃ x, x = v.syncDir.1 := ⟨_, rfl⟩
  obtain ⟨V, hV⟩ : ∃ x, x = v.syncDir.2 := ⟨_, rfl⟩
  have HP : Hid (∀ W, Alike (w.alloc X) W → Calls Tryz.prog 44 #[.pointer (some ⟨q, 0, none⟩)] W fun e w' => ∃ ev, e = .returned (ev) ∧ PB PS B pb q r mv dv (ext Gp W w') Gr V v hs hd w' ∧ Below B w w' ∧ w.heap.size + 1 ≤ w'.heap.size ∧ ErrIs w' (w.heap.size + 1) ⟨#[115, 121, 110, 99, 100, 105, 114]⟩ ⟨#[]⟩ E ev ∧ w'.heap[w.heap.size]? = some X) := fun W hA => by
    have TW := TA.below C hA.below (by omega)
    have hsW : W.heap.size = w.heap.size + 1 := by rw [hA.heap]; exact hsA
    have hbW := hbA.trans (hA.below.mono (by omega))
    refine (fSyncDir_c C Gp q v W TW.pp hv.wf hcn).mono ?_
    rintro e w' ⟨ev, rfl, he, hd'⟩
    obtain ⟨t, hb⟩ := TW.pdid (by omega) hd'
    have hs' := hd'.2.size
    rw [← hV] at t
    rw [← hE, hsW] at he
    refine ⟨ev, rfl, t, (hbW.mono hB).trans hb, by omega, he, ?_⟩
    rw [hd'.2.block w.heap.size (by omega) (T.out (Nat.le_refl _)).1, hA.heap, heap_alloc_new]
  have HR : Hid (∀ G' wx, PB PS B pb q r mv dv G' Gr V v hs hd wx → B ≤ wx.heap.size → w.heap.size + 1 ≤ wx.heap.size → wx.heap[w.heap.size]? = some X → ∀ W, Alike wx W → Calls Tryz.prog 45 #[.pointer (some ⟨r, 0, none⟩)] W fun e w' => e = .returned (.int .i64 E) ∧ PB PS B pb q r mv dv G' (ext Gr W w') V V hs hd w' ∧ Below B wx w' ∧ w'.heap[w.heap.size]? = some X ∧ (∀ ev, ErrIs wx (w.heap.size + 1) ⟨#[115, 121, 110, 99, 100, 105, 114]⟩ ⟨#[]⟩ E ev → ErrIs w' (w.heap.size + 1) ⟨#[115, 121, 110, 99, 100, 105, 114]⟩ ⟨#[]⟩ E ev) ∧ w.heap.size + 1 ≤ w'.heap.size) := fun G' wx t0 hBx hlx hx W hA => by
    have t := t0.below C hA.below hBx
    have hsW : W.heap.size = wx.heap.size := by rw [hA.heap]
    refine (rSyncDir_c Gr r v W t.rr hv.wf hcn).mono ?_
    rintro e w' ⟨rfl, hd'⟩
    obtain ⟨t', hb⟩ := t.rdid C (by omega) hd'
    have hs' := hd'.2.size
    rw [← hV] at t'
    refine ⟨by rw [hE], t', (hA.below.mono hBx).trans hb, (hd'.2.block _ (by omega) (fun h' => by have := T.rr.low _ h'; omega)).trans (by rw [hA.heap]; exact hx), fun ev he => (he.below hA.below).kept hd'.2 hgl, by omega⟩
  have HEnd : Hid (∀ G' G'' W W', PB PS B pb q r mv dv G' G'' V V hs hd W → B ≤ W.heap.size → Below W.heap.size W W' → Bx PS B pb (k + 1) W') := fun G' G'' W W' t hBx hA => ⟨q, r, mv, dv, G', G'', V, hs, hd, t.below C hA hBx, hh, by rw [hV]; exact hv.syncDir, by omega⟩
  have p0 := TA.cells.1
  clear hh hv hl hcn hgl hE hV T TA hbA hsA
  subst hX
  obtain ⟨W0, hW0⟩ : ∃ W0, W0 = w.alloc (.cells #[.int .i64 7, .int .i64 n, .string a, .string b, .int .i64 m0, .int .i64 m1, .int .i64 m2, .int .i64 m3, .slice po pl pc, .slice co cl cc] 33) := ⟨_, rfl⟩
  have s0 : W0.heap[w.heap.size]? = some (.cells #[.int .i64 7, .int .i64 n, .string a, .string b, .int .i64 m0, .int .i64 m1, .int .i64 m2, .int .i64 m3, .slice po pl pc, .slice co cl cc] 33 (0, 0)) := by rw [hW0]; exact heap_alloc_new _ _
  have HS : Hid (∀ (W : World), W.heap[w.heap.size]? = some (.cells #[.int .i64 7, .int .i64 n, .string a, .string b, .int .i64 m0, .int .i64 m1, .int .i64 m2, .int .i64 m3, .slice po pl pc, .slice co cl cc] 33 (0, 0)) → W.cell? ⟨w.heap.size, 0, none⟩ = some (.int .i64 7) ∧ W.cell? ⟨w.heap.size, 2, none⟩ = some (.string a) ∧ W.cell? ⟨w.heap.size, 3, none⟩ = some (.string b)) := fun W hs => by
    refine ⟨?_, ?_, ?_⟩ <;> (rw [Lib.cell_of_heap hs]; rfl)
  have HW0 : Hid (W0 = w.alloc (.cells #[.int .i64 7, .int .i64 n, .string a, .string b, .int .i64 m0, .int .i64 m1, .int .i64 m2, .int .i64 m3, .slice po pl pc, .slice co cl cc] 33)) := hW0
  obtain ⟨sk, sa, sb⟩ := HS.out W0 s0
  clear hW0 s0
  go_enter Tryz.func28, Tryz.ntmps28
  go_wp2_with (first
    | (go_at_call 44; refine (HP.out _ (Alike.mk ?_ ?_ ?_ ?_)).mono ?_; rfl; rfl; rfl; rfl; rintro e w1 ⟨ev, rfl, t1, hb1, hl1, he1, hx1⟩; have p1 := t1.cells.2.1; have hB1 : B ≤ w1.heap.size := (by omega); obtain ⟨s1k, s1a, s1b⟩ := HS.out w1 hx1; have t1' := t1; clear t1)
    | (go_at_call 45; refine (HR.out _ w1 t1' hB1 hl1 hx1 _ (Alike.mk ?_ ?_ ?_ ?_)).mono ?_; rfl; rfl; rfl; rfl; rintro e w2 ⟨rfl, t2, hb2, hx2, he2, hl2⟩; obtain ⟨s2k, s2a, s2b⟩ := HS.out w2 hx2; have he2' := he2 ev he1; clear he2 he1)
    | (go_at_call 8; refine (HT.out _ _ _ he2').mono ?_; rintro e w3 ⟨rfl, hA3⟩))
  go_returns
  exact ⟨rfl, HEnd.out _ _ w2 _ t2 (by omega) hA3.below, (hb1.trans hb2).trans (hA3.below.mono (by omega))⟩
end Go.Proofs.YtloljimabapicacGreat
