
-- The other calls, on both volumes.
import Derived.Test.YtloljimabapicacGreatS8
import Derived.Test.YtloljimabapicacGreatQ2
import Derived.Deep.RegionWith
import Derived.Deep.DrawnRows
namespace Go.Proofs.YtloljimabapicacGreat
open Go.RowKit
set_option linter.unusedVariables false
variable {PS : (Nat → Prop) → Nat → St → World → Prop}
attribute [local go_sem ↓] Go.wp_at_zero Go.wp_at_succ
set_option maxRecDepth 8000 in
set_option maxHeartbeats 8000000 in
theorem rest12 (C : PC PS) (B pb k : Nat) (n : Int) (a b : ByteArray) (m0 m1 m2 m3 : Int) (po : Option Addr) (pl pc : Nat) (co : Option Addr) (cl cc : Nat) (w : World) (h : Bx PS B pb k w) (hB : B ≤ w.heap.size) (hk : k < 2097151) :
    Calls Tryz.prog 30 #[.pointer (some ⟨pb, 0, none⟩), .agg #[.int .i64 12, .int .i64 n, .string a, .string b, .int .i64 m0, .int .i64 m1, .int .i64 m2, .int .i64 m3, .slice po pl pc, .slice co cl cc]] w fun e w' => e = .returned (.bool true) ∧ Bx PS B pb (k + 1) w' ∧ Below B w w' := by
  obtain ⟨q, r, mv, dv, Gp, Gr, v, hs, hd, T, hh, hv, hl⟩ := h
  obtain ⟨X, hX⟩ : ∃ X, X = Obj.cells #[.int .i64 12, .int .i64 n, .string a, .string b, .int .i64 m0, .int .i64 m1, .int .i64 m2, .int .i64 m3, .slice po pl pc, .slice co cl cc] 33 := ⟨_, rfl⟩
  have hbA : Below w.heap.size w (w.alloc X) := (Below.refl _ w).alloc (Nat.le_refl _) _
  have hsA : (w.alloc X).heap.size = w.heap.size + 1 := by simp
  have TA := T.below C hbA hB
  have HP : Hid (∀ W, Alike (w.alloc X) W → Calls Tryz.prog 54 #[.pointer (some ⟨q, 0, none⟩)] W fun e w' => e = .returned (.int .i64 v.cnt) ∧ w' = W) := fun W hA => fCalls_c Gp q v W (TA.pp.below C hA.below)
  have HR : Hid (∀ W, Alike (w.alloc X) W → Calls Tryz.prog 55 #[.pointer (some ⟨r, 0, none⟩)] W fun e w' => e = .returned (.int .i64 v.cnt) ∧ w' = W) := fun W hA => rCalls_c Gr r v W (TA.rr.below hA.below)
  have HE : Hid (∀ W, Alike (w.alloc X) W → Bx PS B pb (k + 1) W ∧ Below B w W) := fun W hA => ⟨⟨q, r, mv, dv, Gp, Gr, v, hs, hd, TA.below C hA.below (by omega), hh, hv.mono (Nat.le_succ k), by omega⟩, (hbA.mono hB).trans (hA.below.mono (by omega))⟩
  have p0 := TA.cells.1
  have p1 := TA.cells.2.1
  clear T TA hh hv hl hbA hsA
  subst hX
  have b1 : ((v.cnt : Int) == v.cnt) = true := by simp
  go_enter Tryz.func30, Tryz.ntmps30
  go_wp2_with fail
  go_region_with (first
    | (go_at_call 54; refine (HP.out _ (Alike.mk ?_ ?_ ?_ ?_)).mono ?_; rfl; rfl; rfl; rfl; rintro e w0 ⟨rfl, hw0⟩; subst w0)
    | (go_at_call 55; refine (HR.out _ (Alike.mk ?_ ?_ ?_ ?_)).mono ?_; rfl; rfl; rfl; rfl; rintro e w0 ⟨rfl, hw0⟩; subst w0))
  all_goals
    go_wp2
    go_returns
    exact ⟨rfl, HE.out _ ⟨rfl, rfl, rfl, rfl⟩⟩
set_option maxRecDepth 8000 in
set_option maxHeartbeats 8000000 in
theorem rest13 (C : PC PS) (B pb k : Nat) (n : Int) (a b : ByteArray) (m0 m1 m2 m3 : Int) (po : Option Addr) (pl pc : Nat) (co : Option Addr) (cl cc : Nat) (w : World) (h : Bx PS B pb k w) (hB : B ≤ w.heap.size) (hk : k < 2097151) :
    Calls Tryz.prog 30 #[.pointer (some ⟨pb, 0, none⟩), .agg #[.int .i64 13, .int .i64 n, .string a, .string b, .int .i64 m0, .int .i64 m1, .int .i64 m2, .int .i64 m3, .slice po pl pc, .slice co cl cc]] w fun e w' => e = .returned (.bool true) ∧ Bx PS B pb (k + 1) w' ∧ Below B w w' := by
  obtain ⟨q, r, mv, dv, Gp, Gr, v, hs, hd, T, hh, hv, hl⟩ := h
  obtain ⟨X, hX⟩ : ∃ X, X = Obj.cells #[.int .i64 13, .int .i64 n, .string a, .string b, .int .i64 m0, .int .i64 m1, .int .i64 m2, .int .i64 m3, .slice po pl pc, .slice co cl cc] 33 := ⟨_, rfl⟩
  have hbA : Below w.heap.size w (w.alloc X) := (Below.refl _ w).alloc (Nat.le_refl _) _
  have hsA : (w.alloc X).heap.size = w.heap.size + 1 := by simp
  have TA := T.below C hbA hB
  have HP : Hid (∀ W, Alike (w.alloc X) W → Calls Tryz.prog 56 #[.pointer (some ⟨q, 0, none⟩)] W fun e w' => e = .returned (.bool v.off) ∧ w' = W) := fun W hA => fDown_c Gp q v W (TA.pp.below C hA.below)
  have HR : Hid (∀ W, Alike (w.alloc X) W → Calls Tryz.prog 57 #[.pointer (some ⟨r, 0, none⟩)] W fun e w' => e = .returned (.bool v.off) ∧ w' = W) := fun W hA => rDown_c Gr r v W (TA.rr.below hA.below)
  have HE : Hid (∀ W, Alike (w.alloc X) W → Bx PS B pb (k + 1) W ∧ Below B w W) := fun W hA => ⟨⟨q, r, mv, dv, Gp, Gr, v, hs, hd, TA.below C hA.below (by omega), hh, hv.mono (Nat.le_succ k), by omega⟩, (hbA.mono hB).trans (hA.below.mono (by omega))⟩
  have p0 := TA.cells.1
  have p1 := TA.cells.2.1
  clear T TA hh hv hl hbA hsA
  subst hX
  have b1 : (v.off == v.off) = true := by simp
  go_enter Tryz.func30, Tryz.ntmps30
  go_wp2_with fail
  go_region_with (first
    | (go_at_call 56; refine (HP.out _ (Alike.mk ?_ ?_ ?_ ?_)).mono ?_; rfl; rfl; rfl; rfl; rintro e w0 ⟨rfl, hw0⟩; subst w0)
    | (go_at_call 57; refine (HR.out _ (Alike.mk ?_ ?_ ?_ ?_)).mono ?_; rfl; rfl; rfl; rfl; rintro e w0 ⟨rfl, hw0⟩; subst w0))
  all_goals
    go_wp2
    go_returns
    exact ⟨rfl, HE.out _ ⟨rfl, rfl, rfl, rfl⟩⟩
set_option maxRecDepth 8000 in
set_option maxHeartbeats 8000000 in
theorem rest14 (C : PC PS) (B pb k : Nat) (n : Int) (a b : ByteArray) (m0 m1 m2 m3 : Int) (po : Option Addr) (pl pc : Nat) (co : Option Addr) (cl cc : Nat) (w : World) (h : Bx PS B pb k w) (hB : B ≤ w.heap.size) (hk : k < 2097151) (plan : List Flt) (hsl : RowP w (.slice po pl pc) plan) (hlow : plan ≠ [] → ∀ k, (Value.slice po pl pc).ownBlock = some k → k < B) (hfew : plan.length ≤ 2097152) :
    Calls Tryz.prog 30 #[.pointer (some ⟨pb, 0, none⟩), .agg #[.int .i64 14, .int .i64 n, .string a, .string b, .int .i64 m0, .int .i64 m1, .int .i64 m2, .int .i64 m3, .slice po pl pc, .slice co cl cc]] w fun e w' => e = .returned (.bool true) ∧ Bx PS B pb (k + 1) w' ∧ Below B w w' := by
  obtain ⟨q, r, mv, dv, Gp, Gr, v, hs, hd, T, hh, hv, hl⟩ := h
  obtain ⟨X, hX⟩ : ∃ X, X = Obj.cells #[.int .i64 14, .int .i64 n, .string a, .string b, .int .i64 m0, .int .i64 m1, .int .i64 m2, .int .i64 m3, .slice po pl pc, .slice co cl cc] 33 := ⟨_, rfl⟩
  have hbA : Below w.heap.size w (w.alloc X) := (Below.refl _ w).alloc (Nat.le_refl _) _
  have hsA : (w.alloc X).heap.size = w.heap.size + 1 := by simp
  have TA := T.below C hbA hB
  obtain ⟨V, hV⟩ : ∃ x, x = v.arm plan := ⟨_, rfl⟩
  have HP : Hid (∀ W, Alike (w.alloc X) W → Calls Tryz.prog 58 #[.pointer (some ⟨q, 0, none⟩), .slice po pl pc] W fun e w' => e = .returned (.bool true) ∧ PB PS B pb q r mv dv (ext Gp W w') Gr V v hs hd w' ∧ Below B w w' ∧ w.heap.size + 1 ≤ w'.heap.size ∧ w'.heap[w.heap.size]? = some X) := fun W hA => by
    have TW := TA.below C hA.below (by omega)
    have hsW : W.heap.size = w.heap.size + 1 := by rw [hA.heap]; exact hsA
    have hbW := hbA.trans (hA.below.mono (by omega))
    refine (lawArm_c C Gp q v _ plan W TW.pp (hsl.below hbW (fun h k hk => Nat.lt_of_lt_of_le (hlow h k hk) hB)) (fun h k hk hg => by have := hlow h k hk; have := T.plo k hg; omega) hfew).mono ?_
    rintro e w' ⟨rfl, hd'⟩
    obtain ⟨t, hb⟩ := TW.pdid (by omega) hd'
    have hs' := hd'.2.size
    rw [← hV] at t
    refine ⟨rfl, t, (hbW.mono hB).trans hb, by omega, ?_⟩
    rw [hd'.2.block w.heap.size (by omega) (T.out (Nat.le_refl _)).1, hA.heap, heap_alloc_new]
  have HR : Hid (∀ G' wx, PB PS B pb q r mv dv G' Gr V v hs hd wx → B ≤ wx.heap.size → Below B w wx → ∀ W, Alike wx W → Calls Tryz.prog 59 #[.pointer (some ⟨r, 0, none⟩), .slice po pl pc] W fun e w' => e = .returned (.tuple #[]) ∧ PB PS B pb q r mv dv G' (ext Gr W w') V V hs hd w' ∧ Below B wx w') := fun G' wx t0 hBx hbx0 W hA => by
    have t := t0.below C hA.below hBx
    have hsW : W.heap.size = wx.heap.size := by rw [hA.heap]
    have hbx := hbx0.trans (hA.below.mono hBx)
    refine (rArm_c Gr r v plan _ W t.rr (hsl.below hbx hlow) (by omega)).mono ?_
    rintro e w' ⟨rfl, hd'⟩
    obtain ⟨t', hb⟩ := t.rdid C (by omega) hd'
    rw [← hV] at t'
    exact ⟨rfl, t', (hA.below.mono hBx).trans hb⟩
  have HEnd : Hid (∀ G' G'' W W', PB PS B pb q r mv dv G' G'' V V hs hd W → B ≤ W.heap.size → Below W.heap.size W W' → Bx PS B pb (k + 1) W') := fun G' G'' W W' t hBx hA => ⟨q, r, mv, dv, G', G'', V, hs, hd, t.below C hA hBx, hh, by rw [hV]; exact (hv.arm plan).mono (Nat.le_succ k), by omega⟩
  have p0 := TA.cells.1
  clear hh hv hl hV T TA hbA hsA hsl hlow
  subst hX
  obtain ⟨W0, hW0⟩ : ∃ W0, W0 = w.alloc (.cells #[.int .i64 14, .int .i64 n, .string a, .string b, .int .i64 m0, .int .i64 m1, .int .i64 m2, .int .i64 m3, .slice po pl pc, .slice co cl cc] 33) := ⟨_, rfl⟩
  have s0 : W0.heap[w.heap.size]? = some (.cells #[.int .i64 14, .int .i64 n, .string a, .string b, .int .i64 m0, .int .i64 m1, .int .i64 m2, .int .i64 m3, .slice po pl pc, .slice co cl cc] 33 (0, 0)) := by rw [hW0]; exact heap_alloc_new _ _
  have HS : Hid (∀ (W : World), W.heap[w.heap.size]? = some (.cells #[.int .i64 14, .int .i64 n, .string a, .string b, .int .i64 m0, .int .i64 m1, .int .i64 m2, .int .i64 m3, .slice po pl pc, .slice co cl cc] 33 (0, 0)) → W.cell? ⟨w.heap.size, 1, none⟩ = some (.int .i64 n) ∧ W.cell? ⟨w.heap.size, 8, none⟩ = some (.slice po pl pc) ∧ W.cell? ⟨w.heap.size, 9, none⟩ = some (.slice co cl cc)) := fun W hs => by
    refine ⟨?_, ?_, ?_⟩ <;> (rw [Lib.cell_of_heap hs]; rfl)
  have HW0 : Hid (W0 = w.alloc (.cells #[.int .i64 14, .int .i64 n, .string a, .string b, .int .i64 m0, .int .i64 m1, .int .i64 m2, .int .i64 m3, .slice po pl pc, .slice co cl cc] 33)) := hW0
  rw [← hW0] at HP p0
  obtain ⟨sk, sa, sb⟩ := HS.out W0 s0
  clear hW0 s0
  go_enter Tryz.func30, Tryz.ntmps30
  go_wp2_with fail
  rw [← HW0.out]
  go_region_with (go_at_call 58; refine (HP.out _ (Alike.mk ?_ ?_ ?_ ?_)).mono ?_; rfl; rfl; rfl; rfl; rintro e w1 ⟨rfl, t1, hb1, hl1, hx1⟩)
  all_goals
    have p1 := t1.cells.2.1
    have hB1 : B ≤ w1.heap.size := by omega
    obtain ⟨s1k, s1a, s1b⟩ := HS.out w1 hx1
    have HR1 := HR.out _ w1 t1 hB1 hb1
    have HR2 : Hid _ := HR1
    have HE1 : Hid (Below B w w1 ∧ B ≤ w1.heap.size) := ⟨hb1, hB1⟩
    clear t1 hx1 hl1 hb1 hB1 HR1 p0 sk sa sb
    go_wp2_with fail
    go_region_with (go_at_call 59; refine (HR2.out _ (Alike.mk ?_ ?_ ?_ ?_)).mono ?_; rfl; rfl; rfl; rfl; rintro e w2 ⟨rfl, t2, hb2⟩)
    all_goals
      have HB2 : Hid (Below B w w2 ∧ B ≤ w2.heap.size) := ⟨HE1.out.1.trans hb2, by have := hb2.size; have := HE1.out.2; omega⟩
      clear hb2 p1 s1k s1a s1b
      go_wp2
      go_returns
      exact ⟨rfl, HEnd.out _ _ w2 _ t2 HB2.out.2 (Alike.below ⟨rfl, rfl, rfl, rfl⟩), HB2.out.1.trans ((Alike.below ⟨rfl, rfl, rfl, rfl⟩).mono HB2.out.2)⟩
set_option maxRecDepth 8000 in
set_option maxHeartbeats 8000000 in
theorem rest15 (C : PC PS) (B pb k : Nat) (n : Int) (a b : ByteArray) (m0 m1 m2 m3 : Int) (po : Option Addr) (pl pc : Nat) (co : Option Addr) (cl cc : Nat) (w : World) (h : Bx PS B pb k w) (hB : B ≤ w.heap.size) (hk : k < 2097151) (cuts : List Int) (hsl : RowI w (.slice co cl cc) cuts) (hlow : cuts ≠ [] → ∀ k, (Value.slice co cl cc).ownBlock = some k → k < B) (hfew : cuts.length ≤ 2097152) :
    Calls Tryz.prog 30 #[.pointer (some ⟨pb, 0, none⟩), .agg #[.int .i64 15, .int .i64 n, .string a, .string b, .int .i64 m0, .int .i64 m1, .int .i64 m2, .int .i64 m3, .slice po pl pc, .slice co cl cc]] w fun e w' => e = .returned (.bool true) ∧ Bx PS B pb (k + 1) w' ∧ Below B w w' := by
  obtain ⟨q, r, mv, dv, Gp, Gr, v, hs, hd, T, hh, hv, hl⟩ := h
  obtain ⟨X, hX⟩ : ∃ X, X = Obj.cells #[.int .i64 15, .int .i64 n, .string a, .string b, .int .i64 m0, .int .i64 m1, .int .i64 m2, .int .i64 m3, .slice po pl pc, .slice co cl cc] 33 := ⟨_, rfl⟩
  have hbA : Below w.heap.size w (w.alloc X) := (Below.refl _ w).alloc (Nat.le_refl _) _
  have hsA : (w.alloc X).heap.size = w.heap.size + 1 := by simp
  have TA := T.below C hbA hB
  obtain ⟨V, hV⟩ : ∃ x, x = v.restart n cuts := ⟨_, rfl⟩
  have HP : Hid (∀ W, Alike (w.alloc X) W → Calls Tryz.prog 60 #[.pointer (some ⟨q, 0, none⟩), .int .i64 n, .slice co cl cc] W fun e w' => e = .returned (.bool true) ∧ PB PS B pb q r mv dv (ext Gp W w') Gr V v hs hd w' ∧ Below B w w' ∧ w.heap.size + 1 ≤ w'.heap.size ∧ w'.heap[w.heap.size]? = some X) := fun W hA => by
    have TW := TA.below C hA.below (by omega)
    have hsW : W.heap.size = w.heap.size + 1 := by rw [hA.heap]; exact hsA
    have hbW := hbA.trans (hA.below.mono (by omega))
    refine (lawRestart_c C Gp q v n _ cuts W TW.pp hv.wf (by have := hv.round; omega) (hsl.below hbW (fun h k hk => Nat.lt_of_lt_of_le (hlow h k hk) hB)) (fun h k hk hg => by have := hlow h k hk; have := T.plo k hg; omega) hfew).mono ?_
    rintro e w' ⟨rfl, hd'⟩
    obtain ⟨t, hb⟩ := TW.pdid (by omega) hd'
    have hs' := hd'.2.size
    rw [← hV] at t
    refine ⟨rfl, t, (hbW.mono hB).trans hb, by omega, ?_⟩
    rw [hd'.2.block w.heap.size (by omega) (T.out (Nat.le_refl _)).1, hA.heap, heap_alloc_new]
  have HR : Hid (∀ G' wx, PB PS B pb q r mv dv G' Gr V v hs hd wx → B ≤ wx.heap.size → Below B w wx → ∀ W, Alike wx W → Calls Tryz.prog 61 #[.pointer (some ⟨r, 0, none⟩), .int .i64 n, .slice co cl cc] W fun e w' => e = .returned (.tuple #[]) ∧ PB PS B pb q r mv dv G' (ext Gr W w') V V hs hd w' ∧ Below B wx w') := fun G' wx t0 hBx hbx0 W hA => by
    have t := t0.below C hA.below hBx
    have hsW : W.heap.size = wx.heap.size := by rw [hA.heap]
    have hbx := hbx0.trans (hA.below.mono hBx)
    refine (rRestart_c Gr r v n _ cuts W t.rr hv.wf (by have := hv.round; omega) (hsl.below hbx hlow) (fun h k hk hg => by have := hlow h k hk; have := T.rlo k hg; omega) (by omega)).mono ?_
    rintro e w' ⟨rfl, hd'⟩
    obtain ⟨t', hb⟩ := t.rdid C (by omega) hd'
    rw [← hV] at t'
    exact ⟨rfl, t', (hA.below.mono hBx).trans hb⟩
  have HEnd : Hid (∀ G' G'' W W', PB PS B pb q r mv dv G' G'' V V hs hd W → B ≤ W.heap.size → Below W.heap.size W W' → Bx PS B pb (k + 1) W') := fun G' G'' W W' t hBx hA => ⟨q, r, mv, dv, G', G'', V, hs, hd, t.below C hA hBx, hh, by rw [hV]; exact hv.restart n cuts, by omega⟩
  have p0 := TA.cells.1
  clear hh hv hl hV T TA hbA hsA hsl hlow
  subst hX
  obtain ⟨W0, hW0⟩ : ∃ W0, W0 = w.alloc (.cells #[.int .i64 15, .int .i64 n, .string a, .string b, .int .i64 m0, .int .i64 m1, .int .i64 m2, .int .i64 m3, .slice po pl pc, .slice co cl cc] 33) := ⟨_, rfl⟩
  have s0 : W0.heap[w.heap.size]? = some (.cells #[.int .i64 15, .int .i64 n, .string a, .string b, .int .i64 m0, .int .i64 m1, .int .i64 m2, .int .i64 m3, .slice po pl pc, .slice co cl cc] 33 (0, 0)) := by rw [hW0]; exact heap_alloc_new _ _
  have HS : Hid (∀ (W : World), W.heap[w.heap.size]? = some (.cells #[.int .i64 15, .int .i64 n, .string a, .string b, .int .i64 m0, .int .i64 m1, .int .i64 m2, .int .i64 m3, .slice po pl pc, .slice co cl cc] 33 (0, 0)) → W.cell? ⟨w.heap.size, 1, none⟩ = some (.int .i64 n) ∧ W.cell? ⟨w.heap.size, 8, none⟩ = some (.slice po pl pc) ∧ W.cell? ⟨w.heap.size, 9, none⟩ = some (.slice co cl cc)) := fun W hs => by
    refine ⟨?_, ?_, ?_⟩ <;> (rw [Lib.cell_of_heap hs]; rfl)
  have HW0 : Hid (W0 = w.alloc (.cells #[.int .i64 15, .int .i64 n, .string a, .string b, .int .i64 m0, .int .i64 m1, .int .i64 m2, .int .i64 m3, .slice po pl pc, .slice co cl cc] 33)) := hW0
  rw [← hW0] at HP p0
  obtain ⟨sk, sa, sb⟩ := HS.out W0 s0
  clear hW0 s0
  go_enter Tryz.func30, Tryz.ntmps30
  go_wp2_with fail
  rw [← HW0.out]
  go_region_with (go_at_call 60; refine (HP.out _ (Alike.mk ?_ ?_ ?_ ?_)).mono ?_; rfl; rfl; rfl; rfl; rintro e w1 ⟨rfl, t1, hb1, hl1, hx1⟩)
  all_goals
    have p1 := t1.cells.2.1
    have hB1 : B ≤ w1.heap.size := by omega
    obtain ⟨s1k, s1a, s1b⟩ := HS.out w1 hx1
    have HR1 := HR.out _ w1 t1 hB1 hb1
    have HR2 : Hid _ := HR1
    have HE1 : Hid (Below B w w1 ∧ B ≤ w1.heap.size) := ⟨hb1, hB1⟩
    clear t1 hx1 hl1 hb1 hB1 HR1 p0 sk sa sb
    go_wp2_with fail
    go_region_with (go_at_call 61; refine (HR2.out _ (Alike.mk ?_ ?_ ?_ ?_)).mono ?_; rfl; rfl; rfl; rfl; rintro e w2 ⟨rfl, t2, hb2⟩)
    all_goals
      have HB2 : Hid (Below B w w2 ∧ B ≤ w2.heap.size) := ⟨HE1.out.1.trans hb2, by have := hb2.size; have := HE1.out.2; omega⟩
      clear hb2 p1 s1k s1a s1b
      go_wp2
      go_returns
      exact ⟨rfl, HEnd.out _ _ w2 _ t2 HB2.out.2 (Alike.below ⟨rfl, rfl, rfl, rfl⟩), HB2.out.1.trans ((Alike.below ⟨rfl, rfl, rfl, rfl⟩).mono HB2.out.2)⟩
set_option maxHeartbeats 4000000 in
theorem rest0 (C : PC PS) (B pb k : Nat) (kind : Int) (n : Int) (a b : ByteArray) (m0 m1 m2 m3 : Int) (po : Option Addr) (pl pc : Nat) (co : Option Addr) (cl cc : Nat) (w : World) (h : Bx PS B pb k w) (hB : B ≤ w.heap.size) (h1 : kind ≠ 12) (h2 : kind ≠ 13) (h3 : kind ≠ 14) (h4 : kind ≠ 15) :
    Calls Tryz.prog 30 #[.pointer (some ⟨pb, 0, none⟩), .agg #[.int .i64 kind, .int .i64 n, .string a, .string b, .int .i64 m0, .int .i64 m1, .int .i64 m2, .int .i64 m3, .slice po pl pc, .slice co cl cc]] w fun e w' => e = .returned (.bool true) ∧ Bx PS B pb (k + 1) w' ∧ Below B w w' := by
  have HE : Hid (∀ X, Bx PS B pb (k + 1) (w.alloc X) ∧ Below B w (w.alloc X)) := fun X => ⟨(h.below C ((Below.refl _ w).alloc (Nat.le_refl _) X) hB).more, ((Below.refl _ w).alloc (Nat.le_refl _) X).mono hB⟩
  have b1 : (kind == (12 : Int)) = false := by simpa using h1
  have b2 : (kind == (13 : Int)) = false := by simpa using h2
  have b3 : (kind == (14 : Int)) = false := by simpa using h3
  have b4 : (kind == (15 : Int)) = false := by simpa using h4
  clear h h1 h2 h3 h4
  go_enter Tryz.func30, Tryz.ntmps30
  go_wp2
  go_returns
  exact ⟨rfl, HE.out _⟩
theorem rest_c (C : PC PS) (B pb k : Nat) (o : Opv) (w : World) (h : Bx PS B pb k w) (hB : B ≤ w.heap.size) (hk : k < 2097151) (ho : OpvOk B o w) :
    Calls Tryz.prog 30 #[.pointer (some ⟨pb, 0, none⟩), o.v] w fun e w' => e = .returned (.bool true) ∧ Bx PS B pb (k + 1) w' ∧ Below B w w' := by
  obtain ⟨⟨po, pl, pc, hp⟩, co, cl, cc, hc⟩ := ho.slices
  obtain ⟨kind, n, a, b, m0, m1, m2, m3, pv, cv, plan, cuts⟩ := o
  simp only at hp hc
  subst hp; subst hc
  show Calls _ _ #[_, .agg #[.int .i64 kind, .int .i64 n, .string a, .string b, .int .i64 m0, .int .i64 m1, .int .i64 m2, .int .i64 m3, .slice po pl pc, .slice co cl cc]] w _
  by_cases h1 : kind = 12
  · subst h1; exact rest12 C B pb k n a b m0 m1 m2 m3 po pl pc co cl cc w h hB hk
  by_cases h2 : kind = 13
  · subst h2; exact rest13 C B pb k n a b m0 m1 m2 m3 po pl pc co cl cc w h hB hk
  by_cases h3 : kind = 14
  · subst h3; exact rest14 C B pb k n a b m0 m1 m2 m3 po pl pc co cl cc w h hB hk plan ho.prow ho.plow ho.pfew
  by_cases h4 : kind = 15
  · subst h4; exact rest15 C B pb k n a b m0 m1 m2 m3 po pl pc co cl cc w h hB hk cuts ho.row ho.low ho.few
  exact rest0 C B pb k kind n a b m0 m1 m2 m3 po pl pc co cl cc w h hB h1 h2 h3 h4
end Go.Proofs.YtloljimabapicacGreat
