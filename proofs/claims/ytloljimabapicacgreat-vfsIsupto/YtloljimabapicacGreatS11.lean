
-- Close and Name of a handle, on both volumes.
import Derived.Test.YtloljimabapicacGreatS6
import Derived.Deep.RegionWith
import Derived.Deep.DrawnRows
namespace Go.Proofs.YtloljimabapicacGreat
open Go.RowKit
set_option linter.unusedVariables false
variable {PS : (Nat → Prop) → Nat → St → World → Prop}
attribute [local go_sem ↓] Go.wp_at_zero Go.wp_at_succ
theorem map_set2 {hs hd : List (Nat × Hd)} (hh : hs.map (·.2) = hd.map (·.2)) (i a b : Nat) (y : Hd) : (hs.set i (a, y)).map (·.2) = (hd.set i (b, y)).map (·.2) := by
  rw [List.map_set, List.map_set, hh]
set_option maxRecDepth 8000 in
set_option maxHeartbeats 8000000 in
theorem handles10 (C : PC PS) (B pb k : Nat) (n : Int) (a b : ByteArray) (m0 m1 m2 m3 : Int) (po : Option Addr) (pl pc : Nat) (co : Option Addr) (cl cc : Nat) (w : World) (h : Bx PS B pb k w) (hB : B ≤ w.heap.size) (hk : k < 2097151) :
    Calls Tryz.prog 29 #[.pointer (some ⟨pb, 0, none⟩), .agg #[.int .i64 10, .int .i64 n, .string a, .string b, .int .i64 m0, .int .i64 m1, .int .i64 m2, .int .i64 m3, .slice po pl pc, .slice co cl cc]] w fun e w' => e = .returned (.bool true) ∧ Bx PS B pb (k + 1) w' ∧ Below B w w' := by
  rcases Bx.pick C h hB n with hn | ⟨i, rfl, q, r, gm, cm, gd, cd, Gp, Gr, v, hs, hd, ha, hb', x, T, hh, hv, hl, hi, hj, hil⟩
  · exact handles_out C B pb k 10 n a b m0 m1 m2 m3 po pl pc co cl cc w h hB hn
  obtain ⟨X, hX⟩ : ∃ X, X = Obj.cells #[.int .i64 10, .int .i64 (i : Int), .string a, .string b, .int .i64 m0, .int .i64 m1, .int .i64 m2, .int .i64 m3, .slice po pl pc, .slice co cl cc] 33 := ⟨_, rfl⟩
  have hbA : Below w.heap.size w (w.alloc X) := (Below.refl _ w).alloc (Nat.le_refl _) _
  have hsA : (w.alloc X).heap.size = w.heap.size + 1 := by simp
  have TA := T.below C hbA hB
  obtain ⟨L, hL⟩ : ∃ L, L = hs.length := ⟨_, rfl⟩
  obtain ⟨L', hL'⟩ : ∃ L', L' = hd.length := ⟨_, rfl⟩
  rw [← hL, ← hL'] at T TA
  have p2 := TA.cells.2.2.1
  have p3 := TA.cells.2.2.2.1
  have c1 : (w.alloc X).cell? ⟨gm, i, none⟩ = some (.pointer (some ⟨ha, 0, none⟩)) := TA.mine hi
  have c2 : (w.alloc X).cell? ⟨gd, i, none⟩ = some (.pointer (some ⟨hb', 0, none⟩)) := TA.docs hj
  have i0 : decide ((i : Int) < 0) = false := by simp
  have i1 : (i : Int) < (L : Int) := by rw [hL]; omega
  have i2 : (i : Int) < (L' : Int) := by rw [hL']; have := congrArg List.length hh; simp at this; omega
  have i3 : decide ((L : Int) ≤ (i : Int)) = false := by simp; omega
  have i4 : (0 : Int) ≤ (i : Int) := by omega
  have HT : Hid (∀ (e : Nat) ev W, ErrIs W (w.heap.size + 1) ⟨#[99, 108, 111, 115, 101]⟩ x.name e ev → Calls Tryz.prog 8 #[ev, .string ⟨#[99, 108, 111, 115, 101]⟩, .string x.name, .int .i64 e] W fun r w' => r = .returned (.bool true) ∧ Alike W w') := fun e ev W he => told_c _ _ _ _ _ _ he
  obtain ⟨E, hE⟩ : ∃ z, z = (v.close x).1 := ⟨_, rfl⟩
  obtain ⟨y, hy⟩ : ∃ z, z = (v.close x).2 := ⟨_, rfl⟩
  have hyn : y.name = x.name := by rw [hy]; unfold Vs.close; split <;> rfl
  have HP : Hid (∀ W, Alike (w.alloc X) W → Calls Tryz.prog 50 #[.pointer (some ⟨ha, 0, none⟩)] W fun e w' => ∃ ev, e = .returned ev ∧ PB PS B pb q r (.slice (some ⟨gm, 0, none⟩) L cm) (.slice (some ⟨gd, 0, none⟩) L' cd) Gp Gr v v (hs.set i (ha, y)) hd w' ∧ Below B w w' ∧ w.heap.size + 1 ≤ w'.heap.size ∧ ErrIs w' (w.heap.size + 1) ⟨#[99, 108, 111, 115, 101]⟩ x.name E ev) := fun W hA => by
    have TW := TA.below C hA.below (by omega)
    have hsW : W.heap.size = w.heap.size + 1 := by rw [hA.heap]; exact hsA
    have hbW := hbA.trans (hA.below.mono (by omega))
    refine (hClose_c Gp q v ha x W TW.pp (TW.mf i ha x hi).1).mono ?_
    rintro e w' ⟨ev, rfl, he, hf, hkp⟩
    rw [← hy] at hf
    rw [← hE, hsW] at he
    obtain ⟨t, hb⟩ := TW.setM C (by omega) hi hf hkp
    have hs' := hkp.size
    exact ⟨ev, rfl, t, (hbW.mono hB).trans hb, by omega, he⟩
  have HR : Hid (∀ wx, PB PS B pb q r (.slice (some ⟨gm, 0, none⟩) L cm) (.slice (some ⟨gd, 0, none⟩) L' cd) Gp Gr v v (hs.set i (ha, y)) hd wx → B ≤ wx.heap.size → w.heap.size + 1 ≤ wx.heap.size → Calls Tryz.prog 51 #[.pointer (some ⟨hb', 0, none⟩)] wx fun e w' => e = .returned (.int .i64 E) ∧ PB PS B pb q r (.slice (some ⟨gm, 0, none⟩) L cm) (.slice (some ⟨gd, 0, none⟩) L' cd) Gp Gr v v (hs.set i (ha, y)) (hd.set i (hb', y)) w' ∧ Below B wx w' ∧ (∀ ev, ErrIs wx (w.heap.size + 1) ⟨#[99, 108, 111, 115, 101]⟩ x.name E ev → ErrIs w' (w.heap.size + 1) ⟨#[99, 108, 111, 115, 101]⟩ x.name E ev) ∧ w.heap.size + 1 ≤ w'.heap.size ∧ w'.cell? ⟨hb', 2, none⟩ = some (.string x.name)) := fun wx t hBx hlx => by
    have hbl := (Array.getElem?_eq_some_iff.1 (T.df i hb' x hj).1).1
    refine (rClose_c Gr r v hb' x wx t.rr (t.df i hb' x hj).1).mono ?_
    rintro e w' ⟨rfl, hf, hkp⟩
    rw [← hy] at hf
    obtain ⟨t', hb⟩ := t.setD C (by omega) hj hf hkp
    have hs' := hkp.size
    exact ⟨by rw [hE], t', hb, fun ev he => he.kept hkp (fun k h => by omega), by omega, by rw [← hyn]; exact hf.cells.2.2.1⟩
  have HEnd : Hid (∀ W W', PB PS B pb q r (.slice (some ⟨gm, 0, none⟩) L cm) (.slice (some ⟨gd, 0, none⟩) L' cd) Gp Gr v v (hs.set i (ha, y)) (hd.set i (hb', y)) W → B ≤ W.heap.size → Alike W W' → Bx PS B pb (k + 1) W') := fun W W' t hBx hA => ⟨q, r, _, _, Gp, Gr, v, _, _, t.below C hA.below hBx, map_set2 hh i ha hb' y, hv.mono (Nat.le_succ k), by rw [List.length_set]; omega⟩
  clear hh hv hl hE hy hyn T TA hbA hsA hi hj hL hL' hil h
  subst hX
  go_enter Tryz.func29, Tryz.ntmps29
  go_wp2_with fail
  go_quiet (fail)
  go_wp2_with fail
  go_quiet (fail)
  go_wp2_with fail
  go_quiet (fail)
  go_wp2_with (first
    | (go_at_call 50; refine (HP.out _ ?_).mono ?_; exact Alike.drewN _ _; rintro e w1 ⟨ev, rfl, t1, hb1, hl1, he1⟩; have hB1 : B ≤ w1.heap.size := (by omega); have t1' := t1; clear t1)
    | (go_at_call 51; refine (HR.out w1 t1' hB1 hl1).mono ?_; rintro e w2 ⟨rfl, t2, hb2, he2, hl2, z2⟩; have he2' := he2 ev he1; clear he2 he1)
    | (go_at_call 8; refine (HT.out _ _ _ he2').mono ?_; rintro e w3 ⟨rfl, hA3⟩))
  go_returns
  exact ⟨rfl, HEnd.out w2 _ t2 (by omega) hA3, (hb1.trans hb2).trans (hA3.below.mono (by omega))⟩
set_option maxRecDepth 8000 in
set_option maxHeartbeats 8000000 in
theorem handles11 (C : PC PS) (B pb k : Nat) (n : Int) (a b : ByteArray) (m0 m1 m2 m3 : Int) (po : Option Addr) (pl pc : Nat) (co : Option Addr) (cl cc : Nat) (w : World) (h : Bx PS B pb k w) (hB : B ≤ w.heap.size) (hk : k < 2097151) :
    Calls Tryz.prog 29 #[.pointer (some ⟨pb, 0, none⟩), .agg #[.int .i64 11, .int .i64 n, .string a, .string b, .int .i64 m0, .int .i64 m1, .int .i64 m2, .int .i64 m3, .slice po pl pc, .slice co cl cc]] w fun e w' => e = .returned (.bool true) ∧ Bx PS B pb (k + 1) w' ∧ Below B w w' := by
  rcases Bx.pick C h hB n with hn | ⟨i, rfl, q, r, gm, cm, gd, cd, Gp, Gr, v, hs, hd, ha, hb', x, T, hh, hv, hl, hi, hj, hil⟩
  · exact handles_out C B pb k 11 n a b m0 m1 m2 m3 po pl pc co cl cc w h hB hn
  obtain ⟨X, hX⟩ : ∃ X, X = Obj.cells #[.int .i64 11, .int .i64 (i : Int), .string a, .string b, .int .i64 m0, .int .i64 m1, .int .i64 m2, .int .i64 m3, .slice po pl pc, .slice co cl cc] 33 := ⟨_, rfl⟩
  have hbA : Below w.heap.size w (w.alloc X) := (Below.refl _ w).alloc (Nat.le_refl _) _
  have hsA : (w.alloc X).heap.size = w.heap.size + 1 := by simp
  have TA := T.below C hbA hB
  obtain ⟨L, hL⟩ : ∃ L, L = hs.length := ⟨_, rfl⟩
  obtain ⟨L', hL'⟩ : ∃ L', L' = hd.length := ⟨_, rfl⟩
  rw [← hL, ← hL'] at T TA
  have p2 := TA.cells.2.2.1
  have p3 := TA.cells.2.2.2.1
  have c1 : (w.alloc X).cell? ⟨gm, i, none⟩ = some (.pointer (some ⟨ha, 0, none⟩)) := TA.mine hi
  have c2 : (w.alloc X).cell? ⟨gd, i, none⟩ = some (.pointer (some ⟨hb', 0, none⟩)) := TA.docs hj
  have i0 : decide ((i : Int) < 0) = false := by simp
  have i1 : (i : Int) < (L : Int) := by rw [hL]; omega
  have i2 : (i : Int) < (L' : Int) := by rw [hL']; have := congrArg List.length hh; simp at this; omega
  have i3 : decide ((L : Int) ≤ (i : Int)) = false := by simp; omega
  have i4 : (0 : Int) ≤ (i : Int) := by omega
  have HP : Hid (∀ W, Alike (w.alloc X) W → Calls Tryz.prog 52 #[.pointer (some ⟨ha, 0, none⟩)] W fun e w' => e = .returned (.string x.name) ∧ w' = W) := fun W hA => hName_c q ha x W ((TA.below C hA.below (by omega)).mf i ha x hi).1
  have HR : Hid (∀ W, Alike (w.alloc X) W → Calls Tryz.prog 53 #[.pointer (some ⟨hb', 0, none⟩)] W fun e w' => e = .returned (.string x.name) ∧ w' = W) := fun W hA => rName_c r hb' x W ((TA.below C hA.below (by omega)).df i hb' x hj).1
  have HEnd : Hid (∀ W, Alike (w.alloc X) W → Bx PS B pb (k + 1) W ∧ Below B w W) := fun W hA => ⟨⟨q, r, _, _, Gp, Gr, v, _, _, TA.below C hA.below (by omega), hh, hv.mono (Nat.le_succ k), by omega⟩, (hbA.mono hB).trans (hA.below.mono (by omega))⟩
  clear hh hv hl T TA hbA hsA hi hj hL hL' hil h
  subst hX
  have b1 : (x.name.toList == x.name.toList) = true := by simp
  go_enter Tryz.func29, Tryz.ntmps29
  go_wp2_with fail
  go_quiet (fail)
  go_wp2_with fail
  go_quiet (fail)
  go_wp2_with fail
  go_quiet (fail)
  go_wp2_with (first
    | (go_at_call 52; refine (HP.out _ ?_).mono ?_; exact Alike.drewN _ _; rintro e w0 ⟨rfl, hw0⟩; subst w0)
    | (go_at_call 53; refine (HR.out _ ?_).mono ?_; exact Alike.drewN _ _; rintro e w0 ⟨rfl, hw0⟩; subst w0))
  go_returns
  exact ⟨rfl, HEnd.out _ (Alike.drewN _ _)⟩
end Go.Proofs.YtloljimabapicacGreat
