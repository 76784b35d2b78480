
-- A call of a handle, on both volumes.
import Derived.Test.YtloljimabapicacGreatS2
import Derived.Deep.RegionWith
import Derived.Deep.DrawnRows
namespace Go.Proofs.YtloljimabapicacGreat
open Go.RowKit
set_option linter.unusedVariables false
variable {PS : (Nat → Prop) → Nat → St → World → Prop}
attribute [local go_sem ↓] Go.wp_at_zero Go.wp_at_succ
theorem Alike.trans {a b c : World} (h : Alike a b) (k : Alike b c) : Alike a c := ⟨k.heap.trans h.heap, k.os.trans h.os, k.tape.trans h.tape, k.output.trans h.output⟩
theorem ptrs_at {l : List (Nat × Hd)} {i a : Nat} {x : Hd} (h : l[i]? = some (a, x)) : (ptrs l)[i]? = some (.pointer (some ⟨a, 0, none⟩)) := by unfold ptrs; rw [List.getElem?_map, h]; rfl
section
variable {B pb q r : Nat} {mv dv : Value} {Gp Gr : Nat → Prop} {vp vr : Vs} {hs hd : List (Nat × Hd)} {w w' : World}
theorem PB.mine {g L c i a : Nat} {x : Hd} (T : PB PS B pb q r (.slice (some ⟨g, 0, none⟩) L c) dv Gp Gr vp vr hs hd w) (h : hs[i]? = some (a, x)) : w.cell? ⟨g, i, none⟩ = some (.pointer (some ⟨a, 0, none⟩)) := by
  have := T.mrow.cells (g := g) rfl i _ (ptrs_at h)
  rw [add_lit0] at this; exact this
theorem PB.docs {g L c i a : Nat} {x : Hd} (T : PB PS B pb q r mv (.slice (some ⟨g, 0, none⟩) L c) Gp Gr vp vr hs hd w) (h : hd[i]? = some (a, x)) : w.cell? ⟨g, i, none⟩ = some (.pointer (some ⟨a, 0, none⟩)) := by
  have := T.drow.cells (g := g) rfl i _ (ptrs_at h)
  rw [add_lit0] at this; exact this
end
/-- A step's handle: none, or the one of that number on both. -/
theorem Bx.pick (C : PC PS) {B pb k : Nat} {w : World} (h : Bx PS B pb k w) (hB : B ≤ w.heap.size) (n : Int) :
    (∃ q r mv dv Gp Gr v hs hd, PB PS B pb q r mv dv Gp Gr v v hs hd w ∧ hs.map (·.2) = hd.map (·.2) ∧ Vf v k ∧ hs.length ≤ k ∧ (n < 0 ∨ (hs.length : Int) ≤ n)) ∨
    (∃ (i : Nat), n = (i : Int) ∧ ∃ q r gm cm gd cd Gp Gr v hs hd ha hb x, PB PS B pb q r (.slice (some ⟨gm, 0, none⟩) hs.length cm) (.slice (some ⟨gd, 0, none⟩) hd.length cd) Gp Gr v v hs hd w ∧ hs.map (·.2) = hd.map (·.2) ∧ Vf v k ∧ hs.length ≤ k ∧ hs[i]? = some (ha, x) ∧ hd[i]? = some (hb, x) ∧ i < hs.length) := by
  obtain ⟨q, r, mv, dv, Gp, Gr, v, hs, hd, T, hh, hv, hl⟩ := h
  by_cases hn : n < 0 ∨ (hs.length : Int) ≤ n
  · exact .inl ⟨q, r, mv, dv, Gp, Gr, v, hs, hd, T, hh, hv, hl, hn⟩
  · obtain ⟨i, rfl⟩ := Int.eq_ofNat_of_zero_le (show 0 ≤ n by omega)
    have hil : i < hs.length := by omega
    have hil2 : i < hd.length := by have := congrArg List.length hh; simp at this; omega
    obtain ⟨gm, cm, hm⟩ : ∃ g c, mv = .slice (some ⟨g, 0, none⟩) hs.length c := by
      rcases T.mrow.2 with ⟨_, h0⟩ | ⟨g, cap, cur, h, _⟩
      · omega
      · exact ⟨g, cap, h⟩
    obtain ⟨gd, cd, hd'⟩ : ∃ g c, dv = .slice (some ⟨g, 0, none⟩) hd.length c := by
      rcases T.drow.2 with ⟨_, h0⟩ | ⟨g, cap, cur, h, _⟩
      · omega
      · exact ⟨g, cap, h⟩
    subst hm; subst hd'
    obtain ⟨⟨ha, x⟩, hx⟩ : ∃ z, z = hs[i] := ⟨_, rfl⟩
    obtain ⟨⟨hb, y⟩, hy⟩ : ∃ z, z = hd[i] := ⟨_, rfl⟩
    have e1 : hs[i]? = some (ha, x) := by rw [List.getElem?_eq_getElem hil, ← hx]
    have e2 : hd[i]? = some (hb, y) := by rw [List.getElem?_eq_getElem hil2, ← hy]
    have exy : x = y := by
      have := congrArg (fun l => l[i]?) hh
      simp only [List.getElem?_map, e1, e2, Option.map_some, Option.some.injEq] at this
      exact this
    subst exy
    exact .inr ⟨i, rfl, q, r, gm, cm, gd, cd, Gp, Gr, v, hs, hd, ha, hb, x, T, hh, hv, hl, e1, e2, hil⟩
set_option maxHeartbeats 4000000 in
theorem handles_out (C : PC PS) (B pb k : Nat) (kind : Int) (n : Int) (a b : ByteArray) (m0 m1 m2 m3 : Int) (po : Option Addr) (pl pc : Nat) (co : Option Addr) (cl cc : Nat) (w : World) (h : Bx PS B pb k w) (hB : B ≤ w.heap.size) (hn : ∃ q r mv dv Gp Gr v hs hd, PB PS B pb q r mv dv Gp Gr v v hs hd w ∧ hs.map (·.2) = hd.map (·.2) ∧ Vf v k ∧ hs.length ≤ k ∧ (n < 0 ∨ (hs.length : Int) ≤ n)) :
    Calls Tryz.prog 29 #[.pointer (some ⟨pb, 0, none⟩), .agg #[.int .i64 kind, .int .i64 n, .string a, .string b, .int .i64 m0, .int .i64 m1, .int .i64 m2, .int .i64 m3, .slice po pl pc, .slice co cl cc]] w fun e w' => e = .returned (.bool true) ∧ Bx PS B pb (k + 1) w' ∧ Below B w w' := by
  obtain ⟨q, r, mv, dv, Gp, Gr, v, hs, hd, T, hh, hv, hl, hn⟩ := hn
  obtain ⟨X, hX⟩ : ∃ X, X = Obj.cells #[.int .i64 kind, .int .i64 n, .string a, .string b, .int .i64 m0, .int .i64 m1, .int .i64 m2, .int .i64 m3, .slice po pl pc, .slice co cl cc] 33 := ⟨_, rfl⟩
  have hbA : Below w.heap.size w (w.alloc X) := (Below.refl _ w).alloc (Nat.le_refl _) _
  have hsA : (w.alloc X).heap.size = w.heap.size + 1 := by simp
  have TA := T.below C hbA hB
  have HE : Hid (∀ m, Bx PS B pb (k + 1) ((w.alloc X).drewN m) ∧ Below B w ((w.alloc X).drewN m)) := fun m =>
    ⟨((h.below C hbA hB).below C (Alike.drewN _ m).below (by omega)).more, (hbA.mono hB).trans ((Alike.drewN _ m).below.mono (by omega))⟩
  obtain ⟨ao, cp, hm⟩ := own_shape TA.mrow
  have p2 := TA.cells.2.2.1
  rw [hm] at p2
  obtain ⟨L, hL⟩ : ∃ L, L = hs.length := ⟨_, rfl⟩
  rw [← hL] at hn p2
  clear T TA hh hv hl hbA hsA h hm hL
  subst hX
  by_cases h0 : n < 0
  · have b0 : decide (n < 0) = true := by simp [h0]
    clear hn
    go_enter Tryz.func29, Tryz.ntmps29
    go_wp2_with fail
    go_quiet (fail)
    go_wp2
    go_returns
    exact ⟨rfl, HE.out _⟩
  · have b0 : decide (n < 0) = false := by simp [h0]
    have b1 : decide ((L : Int) ≤ n) = true := by simp; omega
    clear hn
    go_enter Tryz.func29, Tryz.ntmps29
    go_wp2_with fail
    go_quiet (fail)
    go_wp2
    go_returns
    exact ⟨rfl, HE.out _⟩
set_option maxRecDepth 8000 in
set_option maxHeartbeats 8000000 in
theorem handles8 (C : PC PS) (B pb k : Nat) (n : Int) (a b : ByteArray) (m0 m1 m2 m3 : Int) (po : Option Addr) (pl pc : Nat) (co : Option Addr) (cl cc : Nat) (w : World) (h : Bx PS B pb k w) (hB : B ≤ w.heap.size) (hk : k < 2097151) (hal : a.size ≤ 2097152) :
    Calls Tryz.prog 29 #[.pointer (some ⟨pb, 0, none⟩), .agg #[.int .i64 8, .int .i64 n, .string a, .string b, .int .i64 m0, .int .i64 m1, .int .i64 m2, .int .i64 m3, .slice po pl pc, .slice co cl cc]] w fun e w' => e = .returned (.bool true) ∧ Bx PS B pb (k + 1) w' ∧ Below B w w' := by
  rcases Bx.pick C h hB n with hn | ⟨i, rfl, q, r, gm, cm, gd, cd, Gp, Gr, v, hs, hd, ha, hb', x, T, hh, hv, hl, hi, hj, hil⟩
  · exact handles_out C B pb k 8 n a b m0 m1 m2 m3 po pl pc co cl cc w h hB hn
  obtain ⟨X, hX⟩ : ∃ X, X = Obj.cells #[.int .i64 8, .int .i64 (i : Int), .string a, .string b, .int .i64 m0, .int .i64 m1, .int .i64 m2, .int .i64 m3, .slice po pl pc, .slice co cl cc] 33 := ⟨_, rfl⟩
  have hbA : Below w.heap.size w (w.alloc X) := (Below.refl _ w).alloc (Nat.le_refl _) _
  have hsA : (w.alloc X).heap.size = w.heap.size + 1 := by simp
  have TA := T.below C hbA hB
  obtain ⟨L, hL⟩ : ∃ L, L = hs.length := ⟨_, rfl⟩
  obtain ⟨L', hL'⟩ : ∃ L', L' = hd.length := ⟨_, rfl⟩
  have hcn : v.cnt ≤ 4194304 := by have := hv.cnt; omega
  have hgl : ∀ k, Gr k → k < w.heap.size + 1 := fun k h => by have := T.rr.low k h; omega
  have HT : Hid (∀ (e : Nat) ev W, ErrIs W (w.heap.size + 1) ⟨#[119, 114, 105, 116, 101]⟩ x.name e ev → Calls Tryz.prog 8 #[ev, .string ⟨#[119, 114, 105, 116, 101]⟩, .string x.name, .int .i64 e] W fun r w' => r = .returned (.bool true) ∧ Alike W w') := fun e ev W he => told_c _ _ _ _ _ _ he
  obtain ⟨S, hS⟩ : ∃ z, z = (v.write x a).1.1 := ⟨_, rfl⟩
  obtain ⟨E, hE⟩ : ∃ z, z = (v.write x a).1.2 := ⟨_, rfl⟩
  obtain ⟨V, hV⟩ : ∃ z, z = (v.write x a).2 := ⟨_, rfl⟩
  rw [← hL, ← hL'] at T TA
  have HP : Hid (∀ W, Alike (w.alloc X) W → Calls Tryz.prog 46 #[.pointer (some ⟨ha, 0, none⟩), .string a] W fun e w' => ∃ ev, e = .returned (.tuple #[.int .i64 (S : Nat), ev]) ∧ PB PS B pb q r (.slice (some ⟨gm, 0, none⟩) L cm) (.slice (some ⟨gd, 0, none⟩) L' cd) (ext Gp W w') Gr V v hs hd w' ∧ Below B w w' ∧ w.heap.size + 1 ≤ w'.heap.size ∧ ErrIs w' (w.heap.size + 1) ⟨#[119, 114, 105, 116, 101]⟩ x.name E ev ∧ w'.heap[w.heap.size]? = some X) := fun W hA => by
    have TW := TA.below C hA.below (by omega)
    have hsW : W.heap.size = w.heap.size + 1 := by rw [hA.heap]; exact hsA
    have hbW := hbA.trans (hA.below.mono (by omega))
    refine (hWrite_c C Gp q v ha x a W TW.pp (TW.mf i ha x hi).1 (TW.mf i ha x hi).2.2.1 hv.wf hcn (by omega)).mono ?_
    rintro e w' ⟨ev, rfl, he, hd'⟩
    obtain ⟨t, hb⟩ := TW.pdid (by omega) hd'
    have hs' := hd'.2.size
    rw [← hV] at t
    rw [← hE, hsW] at he
    refine ⟨ev, by rw [hS], t, (hbW.mono hB).trans hb, by omega, he, ?_⟩
    rw [hd'.2.block w.heap.size (by omega) (T.out (Nat.le_refl _)).1, hA.heap, heap_alloc_new]
  have HR : Hid (∀ G' wx, PB PS B pb q r (.slice (some ⟨gm, 0, none⟩) L cm) (.slice (some ⟨gd, 0, none⟩) L' cd) G' Gr V v hs hd wx → B ≤ wx.heap.size → w.heap.size + 1 ≤ wx.heap.size → wx.heap[w.heap.size]? = some X → Calls Tryz.prog 47 #[.pointer (some ⟨hb', 0, none⟩), .string a] wx fun e w' => e = .returned (.tuple #[.int .i64 (S : Nat), .int .i64 E]) ∧ PB PS B pb q r (.slice (some ⟨gm, 0, none⟩) L cm) (.slice (some ⟨gd, 0, none⟩) L' cd) G' (ext Gr wx w') V V hs hd w' ∧ Below B wx w' ∧ w'.heap[w.heap.size]? = some X ∧ (∀ ev, ErrIs wx (w.heap.size + 1) ⟨#[119, 114, 105, 116, 101]⟩ x.name E ev → ErrIs w' (w.heap.size + 1) ⟨#[119, 114, 105, 116, 101]⟩ x.name E ev) ∧ w.heap.size + 1 ≤ w'.heap.size ∧ w'.cell? ⟨hb', 2, none⟩ = some (.string x.name)) := fun G' wx t hBx hlx hx => by
    refine (rWrite_c Gr r v hb' x a wx t.rr (t.df i hb' x hj).1 (t.df i hb' x hj).2.2.2 hv.wf hcn (by omega)).mono ?_
    rintro e w' ⟨rfl, hd'⟩
    obtain ⟨t', hb⟩ := t.rdid C hBx hd'
    have hs' := hd'.2.size
    rw [← hV] at t'
    refine ⟨by rw [hS, hE], t', hb, (hd'.2.block _ (by omega) (fun h' => by have := T.rr.low _ h'; omega)).trans hx, fun ev he => he.kept hd'.2 hgl, by omega, (t'.df i hb' x hj).1.cells.2.2.1⟩
  have HEnd : Hid (∀ G' G'' W W', PB PS B pb q r (.slice (some ⟨gm, 0, none⟩) L cm) (.slice (some ⟨gd, 0, none⟩) L' cd) G' G'' V V hs hd W → B ≤ W.heap.size → Alike W W' → Bx PS B pb (k + 1) W') := fun G' G'' W W' t hBx hA => ⟨q, r, _, _, G', G'', V, hs, hd, t.below C hA.below hBx, hh, by rw [hV]; exact hv.write x a, by omega⟩
  have p2 := TA.cells.2.2.1
  have p3 := TA.cells.2.2.2.1
  have c1 : (w.alloc X).cell? ⟨gm, i, none⟩ = some (.pointer (some ⟨ha, 0, none⟩)) := TA.mine hi
  have c2 : (w.alloc X).cell? ⟨gd, i, none⟩ = some (.pointer (some ⟨hb', 0, none⟩)) := TA.docs hj
  have i0 : decide ((i : Int) < 0) = false := by simp
  have i1 : (i : Int) < (L : Int) := by rw [hL]; omega
  have i2 : (i : Int) < (L' : Int) := by rw [hL']; have := congrArg List.length hh; simp at this; omega
  have i3 : decide ((L : Int) ≤ (i : Int)) = false := by simp; omega
  have i4 : (0 : Int) ≤ (i : Int) := by omega
  clear hh hv hl hcn hgl hS hE hV T TA hbA hsA hi hj hL hL' hil h
  subst hX
  have b1 : ((S : Int) == S) = true := by simp
  go_enter Tryz.func29, Tryz.ntmps29
  go_wp2_with fail
  go_quiet (fail)
  go_wp2_with fail
  go_quiet (fail)
  go_wp2_with fail
  go_quiet (fail)
  go_wp2_with (first
    | (go_at_call 46; refine (HP.out _ ?_).mono ?_; exact Alike.drewN _ _; rintro e w1 ⟨ev, rfl, t1, hb1, hl1, he1, hx1⟩; have hB1 : B ≤ w1.heap.size := (by omega); have s12 : w1.cell? ⟨w.heap.size, 2, none⟩ = some (.string a) := (by rw [Lib.cell_of_heap hx1]; rfl); have t1' := t1; clear t1)
    | (go_at_call 47; refine (HR.out _ w1 t1' hB1 hl1 hx1).mono ?_; rintro e w2 ⟨rfl, t2, hb2, hx2, he2, hl2, z2⟩; have he2' := he2 ev he1; clear he2 he1)
    | (go_at_call 8; refine (HT.out _ _ _ he2').mono ?_; rintro e w3 ⟨rfl, hA3⟩))
  go_returns
  exact ⟨rfl, HEnd.out _ _ w2 _ t2 (by omega) hA3, (hb1.trans hb2).trans (hA3.below.mono (by omega))⟩
set_option maxRecDepth 8000 in
set_option maxHeartbeats 8000000 in
theorem handles9 (C : PC PS) (B pb k : Nat) (n : Int) (a b : ByteArray) (m0 m1 m2 m3 : Int) (po : Option Addr) (pl pc : Nat) (co : Option Addr) (cl cc : Nat) (w : World) (h : Bx PS B pb k w) (hB : B ≤ w.heap.size) (hk : k < 2097151) :
    Calls Tryz.prog 29 #[.pointer (some ⟨pb, 0, none⟩), .agg #[.int .i64 9, .int .i64 n, .string a, .string b, .int .i64 m0, .int .i64 m1, .int .i64 m2, .int .i64 m3, .slice po pl pc, .slice co cl cc]] w fun e w' => e = .returned (.bool true) ∧ Bx PS B pb (k + 1) w' ∧ Below B w w' := by
  rcases Bx.pick C h hB n with hn | ⟨i, rfl, q, r, gm, cm, gd, cd, Gp, Gr, v, hs, hd, ha, hb', x, T, hh, hv, hl, hi, hj, hil⟩
  · exact handles_out C B pb k 9 n a b m0 m1 m2 m3 po pl pc co cl cc w h hB hn
  obtain ⟨X, hX⟩ : ∃ X, X = Obj.cells #[.int .i64 9, .int .i64 (i : Int), .string a, .string b, .int .i64 m0, .int .i64 m1, .int .i64 m2, .int .i64 m3, .slice po pl pc, .slice co cl cc] 33 := ⟨_, rfl⟩
  have hbA : Below w.heap.size w (w.alloc X) := (Below.refl _ w).alloc (Nat.le_refl _) _
  have hsA : (w.alloc X).heap.size = w.heap.size + 1 := by simp
  have TA := T.below C hbA hB
  obtain ⟨L, hL⟩ : ∃ L, L = hs.length := ⟨_, rfl⟩
  obtain ⟨L', hL'⟩ : ∃ L', L' = hd.length := ⟨_, rfl⟩
  have hcn : v.cnt ≤ 4194304 := by have := hv.cnt; omega
  have hgl : ∀ k, Gr k → k < w.heap.size + 1 := fun k h => by have := T.rr.low k h; omega
  have HT : Hid (∀ (e : Nat) ev W, ErrIs W (w.heap.size + 1) ⟨#[115, 121, 110, 99]⟩ x.name e ev → Calls Tryz.prog 8 #[ev, .string ⟨#[115, 121, 110, 99]⟩, .string x.name, .int .i64 e] W fun r w' => r = .returned (.bool true) ∧ Alike W w') := fun e ev W he => told_c _ _ _ _ _ _ he
  obtain ⟨E, hE⟩ : ∃ z, z = (v.sync x).1 := ⟨_, rfl⟩
  obtain ⟨V, hV⟩ : ∃ z, z = (v.sync x).2 := ⟨_, rfl⟩
  rw [← hL, ← hL'] at T TA
  have HP : Hid (∀ W, Alike (w.alloc X) W → Calls Tryz.prog 48 #[.pointer (some ⟨ha, 0, none⟩)] W fun e w' => ∃ ev, e = .returned (ev) ∧ PB PS B pb q r (.slice (some ⟨gm, 0, none⟩) L cm) (.slice (some ⟨gd, 0, none⟩) L' cd) (ext Gp W w') Gr V v hs hd w' ∧ Below B w w' ∧ w.heap.size + 1 ≤ w'.heap.size ∧ ErrIs w' (w.heap.size + 1) ⟨#[115, 121, 110, 99]⟩ x.name E ev ∧ w'.heap[w.heap.size]? = some X) := fun W hA => by
    have TW := TA.below C hA.below (by omega)
    have hsW : W.heap.size = w.heap.size + 1 := by rw [hA.heap]; exact hsA
    have hbW := hbA.trans (hA.below.mono (by omega))
    refine (hSync_c C Gp q v ha x W TW.pp (TW.mf i ha x hi).1 (TW.mf i ha x hi).2.2.1 hv.wf hcn).mono ?_
    rintro e w' ⟨ev, rfl, he, hd'⟩
    obtain ⟨t, hb⟩ := TW.pdid (by omega) hd'
    have hs' := hd'.2.size
    rw [← hV] at t
    rw [← hE, hsW] at he
    refine ⟨ev, rfl, t, (hbW.mono hB).trans hb, by omega, he, ?_⟩
    rw [hd'.2.block w.heap.size (by omega) (T.out (Nat.le_refl _)).1, hA.heap, heap_alloc_new]
  have HR : Hid (∀ G' wx, PB PS B pb q r (.slice (some ⟨gm, 0, none⟩) L cm) (.slice (some ⟨gd, 0, none⟩) L' cd) G' Gr V v hs hd wx → B ≤ wx.heap.size → w.heap.size + 1 ≤ wx.heap.size → wx.heap[w.heap.size]? = some X → Calls Tryz.prog 49 #[.pointer (some ⟨hb', 0, none⟩)] wx fun e w' => e = .returned (.int .i64 E) ∧ PB PS B pb q r (.slice (some ⟨gm, 0, none⟩) L cm) (.slice (some ⟨gd, 0, none⟩) L' cd) G' (ext Gr wx w') V V hs hd w' ∧ Below B wx w' ∧ w'.heap[w.heap.size]? = some X ∧ (∀ ev, ErrIs wx (w.heap.size + 1) ⟨#[115, 121, 110, 99]⟩ x.name E ev → ErrIs w' (w.heap.size + 1) ⟨#[115, 121, 110, 99]⟩ x.name E ev) ∧ w.heap.size + 1 ≤ w'.heap.size ∧ w'.cell? ⟨hb', 2, none⟩ = some (.string x.name)) := fun G' wx t hBx hlx hx => by
    refine (rSync_c Gr r v hb' x wx t.rr (t.df i hb' x hj).1 (t.df i hb' x hj).2.2.2 hv.wf hcn).mono ?_
    rintro e w' ⟨rfl, hd'⟩
    obtain ⟨t', hb⟩ := t.rdid C hBx hd'
    have hs' := hd'.2.size
    rw [← hV] at t'
    refine ⟨by rw [hE], t', hb, (hd'.2.block _ (by omega) (fun h' => by have := T.rr.low _ h'; omega)).trans hx, fun ev he => he.kept hd'.2 hgl, by omega, (t'.df i hb' x hj).1.cells.2.2.1⟩
  have HEnd : Hid (∀ G' G'' W W', PB PS B pb q r (.slice (some ⟨gm, 0, none⟩) L cm) (.slice (some ⟨gd, 0, none⟩) L' cd) G' G'' V V hs hd W → B ≤ W.heap.size → Alike W W' → Bx PS B pb (k + 1) W') := fun G' G'' W W' t hBx hA => ⟨q, r, _, _, G', G'', V, hs, hd, t.below C hA.below hBx, hh, by rw [hV]; exact hv.sync x, by omega⟩
  have p2 := TA.cells.2.2.1
  have p3 := TA.cells.2.2.2.1
  have c1 : (w.alloc X).cell? ⟨gm, i, none⟩ = some (.pointer (some ⟨ha, 0, none⟩)) := TA.mine hi
  have c2 : (w.alloc X).cell? ⟨gd, i, none⟩ = some (.pointer (some ⟨hb', 0, none⟩)) := TA.docs hj
  have i0 : decide ((i : Int) < 0) = false := by simp
  have i1 : (i : Int) < (L : Int) := by rw [hL]; omega
  have i2 : (i : Int) < (L' : Int) := by rw [hL']; have := congrArg List.length hh; simp at this; omega
  have i3 : decide ((L : Int) ≤ (i : Int)) = false := by simp; omega
  have i4 : (0 : Int) ≤ (i : Int) := by omega
  clear hh hv hl hcn hgl hE hV T TA hbA hsA hi hj hL hL' hil h
  subst hX
  go_enter Tryz.func29, Tryz.ntmps29
  go_wp2_with fail
  go_quiet (fail)
  go_wp2_with fail
  go_quiet (fail)
  go_wp2_with fail
  go_quiet (fail)
  go_wp2_with (first
    | (go_at_call 48; refine (HP.out _ ?_).mono ?_; exact Alike.drewN _ _; rintro e w1 ⟨ev, rfl, t1, hb1, hl1, he1, hx1⟩; have hB1 : B ≤ w1.heap.size := (by omega); have t1' := t1; clear t1)
    | (go_at_call 49; refine (HR.out _ w1 t1' hB1 hl1 hx1).mono ?_; rintro e w2 ⟨rfl, t2, hb2, hx2, he2, hl2, z2⟩; have he2' := he2 ev he1; clear he2 he1)
    | (go_at_call 8; refine (HT.out _ _ _ he2').mono ?_; rintro e w3 ⟨rfl, hA3⟩))
  go_returns
  exact ⟨rfl, HEnd.out _ _ w2 _ t2 (by omega) hA3, (hb1.trans hb2).trans (hA3.below.mono (by omega))⟩
end Go.Proofs.YtloljimabapicacGreat
