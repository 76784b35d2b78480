
-- A call on both volumes: what they answer.
import Derived.Test.YtloljimabapicacGreatS2
import Derived.Deep.RegionWith
import Derived.Deep.DrawnRows
import Derived.Deep.CutRange
namespace Go.Proofs.YtloljimabapicacGreat
open Go.RowKit
set_option linter.unusedVariables false
variable {PS : (Nat → Prop) → Nat → St → World → Prop}
attribute [local go_sem ↓] Go.wp_at_zero Go.wp_at_succ
theorem list_len {v : Vs} (hw : Wf v.st) : v.list.1.1.length ≤ 64 := by
  unfold Vs.list
  split
  · simp
  · show v.st.names.length ≤ 64
    unfold St.names; rw [List.length_map]; exact now_len hw
/-- Six cells of a block written. -/
def six (w : World) (r : Nat) (v0 v1 v2 v3 v4 v5 : Value) : World := (((((w.setCell ⟨r, 0, none⟩ v0).setCell ⟨r, 1, none⟩ v1).setCell ⟨r, 2, none⟩ v2).setCell ⟨r, 3, none⟩ v3).setCell ⟨r, 4, none⟩ v4).setCell ⟨r, 5, none⟩ v5
theorem six_other (w : World) (r : Nat) (v0 v1 v2 v3 v4 v5 : Value) {k : Nat} (h : k ≠ r) : (six w r v0 v1 v2 v3 v4 v5).heap[k]? = w.heap[k]? := by
  unfold six
  rw [Below.heap_setCell _ _ _ _ h, Below.heap_setCell _ _ _ _ h, Below.heap_setCell _ _ _ _ h, Below.heap_setCell _ _ _ _ h, Below.heap_setCell _ _ _ _ h, Below.heap_setCell _ _ _ _ h]
theorem six_size (w : World) (r : Nat) (v0 v1 v2 v3 v4 v5 : Value) : (six w r v0 v1 v2 v3 v4 v5).heap.size = w.heap.size := by simp [six, World.setCell]
theorem set_os (w : World) (a : Addr) (v : Value) : (w.setCell a v).os = w.os ∧ (w.setCell a v).tape = w.tape ∧ (w.setCell a v).output = w.output := ⟨rfl, rfl, rfl⟩
theorem six_rest (w : World) (r : Nat) (v0 v1 v2 v3 v4 v5 : Value) : (six w r v0 v1 v2 v3 v4 v5).os = w.os ∧ (six w r v0 v1 v2 v3 v4 v5).tape = w.tape ∧ (six w r v0 v1 v2 v3 v4 v5).output = w.output := by
  unfold six
  refine ⟨?_, ?_, ?_⟩
  · rw [(set_os _ _ _).1, (set_os _ _ _).1, (set_os _ _ _).1, (set_os _ _ _).1, (set_os _ _ _).1, (set_os _ _ _).1]
  · rw [(set_os _ _ _).2.1, (set_os _ _ _).2.1, (set_os _ _ _).2.1, (set_os _ _ _).2.1, (set_os _ _ _).2.1, (set_os _ _ _).2.1]
  · rw [(set_os _ _ _).2.2, (set_os _ _ _).2.2, (set_os _ _ _).2.2, (set_os _ _ _).2.2, (set_os _ _ _).2.2, (set_os _ _ _).2.2]
/-- A variable of a call's own is written: the pair stays. -/
theorem PB.over (C : PC PS) {B pb q r : Nat} {mv dv : Value} {Gp Gr : Nat → Prop} {vp vr : Vs} {hs hd : List (Nat × Hd)} {w w' : World} (T : PB PS B pb q r mv dv Gp Gr vp vr hs hd w) {ib : Nat} {cs : Array Value} (hi : w.heap[ib]? = some (Obj.cells cs 88 (0, 0))) (hP : ¬ Gp ib) (hR : ¬ Gr ib) (hsz : w'.heap.size = w.heap.size) (hk : ∀ k, k ≠ ib → w'.heap[k]? = w.heap[k]?) : PB PS B pb q r mv dv Gp Gr vp vr hs hd w' := by
  have kT : ∀ (k : Nat) (cs : Array Value) (t : TypeId), w.heap[k]? = some (Obj.cells cs t (0, 0)) → t ≠ 88 → w'.heap[k]? = w.heap[k]? := fun k cs t hc hn => hk k (typed_ne hc hi hn)
  refine ⟨(kT _ _ _ T.blk (by decide)).trans T.blk, T.pp.same C (by omega) fun k h1 _ => hk k fun e => hP (e ▸ h1), T.rr.same (by omega) fun k h1 _ => hk k fun e => hR (e ▸ h1), T.apart, T.plo, T.rlo, T.pblo, T.pbG, own_keep T.mrow fun k h => ?_, own_keep T.drow fun k h => ?_, T.mG, T.dG, fun j b z hj => ?_, fun j b z hj => ?_, T.mnd, T.dnd⟩
  · obtain ⟨cur, hc⟩ := own_typed T.mrow h
    exact kT k _ _ hc (by decide)
  · obtain ⟨cur, hc⟩ := own_typed T.drow h
    exact kT k _ _ hc (by decide)
  · obtain ⟨h1, h2⟩ := T.mf j b z hj
    exact ⟨(kT b _ _ h1 (by decide)).trans h1, h2⟩
  · obtain ⟨h1, h2⟩ := T.df j b z hj
    exact ⟨(kT b _ _ h1 (by decide)).trans h1, h2⟩
theorem ErrIs.over {w w' : World} {B : Nat} {op name : ByteArray} {e : Nat} {ev : Value} (h : ErrIs w B op name e ev) {ib : Nat} {cs : Array Value} (hi : w.heap[ib]? = some (Obj.cells cs 88 (0, 0))) (hk : ∀ k, k ≠ ib → w'.heap[k]? = w.heap[k]?) : ErrIs w' B op name e ev := by
  rcases h with h | ⟨h0, b, h1, h2, h3⟩
  · exact .inl h
  · exact .inr ⟨h0, b, h1, h2, (hk b (typed_ne h3 hi (by decide))).trans h3⟩
set_option maxRecDepth 8000 in
set_option maxHeartbeats 8000000 in
theorem reads1 (C : PC PS) (B pb k : Nat) (n : Int) (a b : ByteArray) (m0 m1 m2 m3 : Int) (po : Option Addr) (pl pc : Nat) (co : Option Addr) (cl cc : Nat) (w : World) (h : Bx PS B pb k w) (hB : B ≤ w.heap.size) (hk : k < 2097151) :
    Calls Tryz.prog 27 #[.pointer (some ⟨pb, 0, none⟩), .agg #[.int .i64 1, .int .i64 n, .string a, .string b, .int .i64 m0, .int .i64 m1, .int .i64 m2, .int .i64 m3, .slice po pl pc, .slice co cl cc]] w fun e w' => e = .returned (.bool true) ∧ Bx PS B pb (k + 1) w' ∧ Below B w w' := by
  obtain ⟨q, r, mv, dv, Gp, Gr, v, hs, hd, T, hh, hv, hl⟩ := h
  obtain ⟨X, hX⟩ : ∃ X, X = Obj.cells #[.int .i64 1, .int .i64 n, .string a, .string b, .int .i64 m0, .int .i64 m1, .int .i64 m2, .int .i64 m3, .slice po pl pc, .slice co cl cc] 33 := ⟨_, rfl⟩
  have hbA : Below w.heap.size w (w.alloc X) := (Below.refl _ w).alloc (Nat.le_refl _) _
  have hsA : (w.alloc X).heap.size = w.heap.size + 1 := by simp
  have TA := T.below C hbA hB
  have hcn : v.cnt ≤ 4194304 := by have := hv.cnt; omega
  have hgl : ∀ k, Gr k → k < w.heap.size + 1 := fun k h => by have := T.rr.low k h; omega
  have HT : Hid (∀ (e : Nat) ev W, ErrIs W (w.heap.size + 1) ⟨#[114, 101, 97, 100]⟩ a e ev → Calls Tryz.prog 8 #[ev, .string ⟨#[114, 101, 97, 100]⟩, .string a, .int .i64 e] W fun r w' => r = .returned (.bool true) ∧ Alike W w') := fun e ev W he => told_c _ _ _ _ _ _ he
  obtain ⟨S, hS⟩ : ∃ x, x = (v.read a).1.1 := ⟨_, rfl⟩
  obtain ⟨E, hE⟩ : ∃ x, x = (v.read a).1.2 := ⟨_, rfl⟩
  obtain ⟨V, hV⟩ : ∃ x, x = (v.read a).2 := ⟨_, rfl⟩
  have HP : Hid (∀ W, Alike (w.alloc X) W → Calls Tryz.prog 14 #[.pointer (some ⟨q, 0, none⟩), .string a] W fun e w' => ∃ ev, e = .returned (.tuple #[.string S, ev]) ∧ PB PS B pb q r mv dv (ext Gp W w') Gr V v hs hd w' ∧ Below B w w' ∧ w.heap.size + 1 ≤ w'.heap.size ∧ ErrIs w' (w.heap.size + 1) ⟨#[114, 101, 97, 100]⟩ a E ev ∧ w'.heap[w.heap.size]? = some X) := fun W hA => by
    have TW := TA.below C hA.below (by omega)
    have hsW : W.heap.size = w.heap.size + 1 := by rw [hA.heap]; exact hsA
    have hbW := hbA.trans (hA.below.mono (by omega))
    refine (fRead_c C Gp q v a W TW.pp hv.wf hcn).mono ?_
    rintro e w' ⟨ev, rfl, he, hd'⟩
    obtain ⟨t, hb⟩ := TW.pdid (by omega) hd'
    have hs' := hd'.2.size
    rw [← hV] at t
    rw [← hE, hsW] at he
    refine ⟨ev, by rw [hS], t, (hbW.mono hB).trans hb, by omega, he, ?_⟩
    rw [hd'.2.block w.heap.size (by omega) (T.out (Nat.le_refl _)).1, hA.heap, heap_alloc_new]
  have HR : Hid (∀ G' wx, PB PS B pb q r mv dv G' Gr V v hs hd wx → B ≤ wx.heap.size → w.heap.size + 1 ≤ wx.heap.size → wx.heap[w.heap.size]? = some X → ∀ W, Alike wx W → Calls Tryz.prog 15 #[.pointer (some ⟨r, 0, none⟩), .string a] W fun e w' => e = .returned (.tuple #[.string S, .int .i64 E]) ∧ PB PS B pb q r mv dv G' (ext Gr W w') V V hs hd w' ∧ Below B wx w' ∧ w'.heap[w.heap.size]? = some X ∧ (∀ ev, ErrIs wx (w.heap.size + 1) ⟨#[114, 101, 97, 100]⟩ a E ev → ErrIs w' (w.heap.size + 1) ⟨#[114, 101, 97, 100]⟩ a E ev) ∧ w.heap.size + 1 ≤ w'.heap.size) := fun G' wx t0 hBx hlx hx W hA => by
    have t := t0.below C hA.below hBx
    have hsW : W.heap.size = wx.heap.size := by rw [hA.heap]
    refine (rRead_c Gr r v a W t.rr hv.wf hcn).mono ?_
    rintro e w' ⟨rfl, hd'⟩
    obtain ⟨t', hb⟩ := t.rdid C (by omega) hd'
    have hs' := hd'.2.size
    rw [← hV] at t'
    refine ⟨by rw [hS, hE], t', (hA.below.mono hBx).trans hb, (hd'.2.block _ (by omega) (fun h' => by have := T.rr.low _ h'; omega)).trans (by rw [hA.heap]; exact hx), fun ev he => (he.below hA.below).kept hd'.2 hgl, by omega⟩
  have HEnd : Hid (∀ G' G'' W W', PB PS B pb q r mv dv G' G'' V V hs hd W → B ≤ W.heap.size → Below W.heap.size W W' → Bx PS B pb (k + 1) W') := fun G' G'' W W' t hBx hA => ⟨q, r, mv, dv, G', G'', V, hs, hd, t.below C hA hBx, hh, by rw [hV]; exact hv.read a, by omega⟩
  have p0 := TA.cells.1
  clear hh hv hl hcn hgl hS hE hV T TA hbA hsA
  subst hX
  obtain ⟨W0, hW0⟩ : ∃ W0, W0 = w.alloc (.cells #[.int .i64 1, .int .i64 n, .string a, .string b, .int .i64 m0, .int .i64 m1, .int .i64 m2, .int .i64 m3, .slice po pl pc, .slice co cl cc] 33) := ⟨_, rfl⟩
  have s0 : W0.heap[w.heap.size]? = some (.cells #[.int .i64 1, .int .i64 n, .string a, .string b, .int .i64 m0, .int .i64 m1, .int .i64 m2, .int .i64 m3, .slice po pl pc, .slice co cl cc] 33 (0, 0)) := by rw [hW0]; exact heap_alloc_new _ _
  have HS : Hid (∀ (W : World), W.heap[w.heap.size]? = some (.cells #[.int .i64 1, .int .i64 n, .string a, .string b, .int .i64 m0, .int .i64 m1, .int .i64 m2, .int .i64 m3, .slice po pl pc, .slice co cl cc] 33 (0, 0)) → W.cell? ⟨w.heap.size, 0, none⟩ = some (.int .i64 1) ∧ W.cell? ⟨w.heap.size, 2, none⟩ = some (.string a) ∧ W.cell? ⟨w.heap.size, 3, none⟩ = some (.string b)) := fun W hs => by
    refine ⟨?_, ?_, ?_⟩ <;> (rw [Lib.cell_of_heap hs]; rfl)
  have HW0 : Hid (W0 = w.alloc (.cells #[.int .i64 1, .int .i64 n, .string a, .string b, .int .i64 m0, .int .i64 m1, .int .i64 m2, .int .i64 m3, .slice po pl pc, .slice co cl cc] 33)) := hW0
  rw [← hW0] at HP p0
  obtain ⟨sk, sa, sb⟩ := HS.out W0 s0
  clear hW0 s0
  have b1 : (S.toList == S.toList) = true := by simp
  go_enter Tryz.func27, Tryz.ntmps27
  go_wp2_with fail
  rw [← HW0.out]
  go_region_with (go_at_call 14; refine (HP.out _ (Alike.mk ?_ ?_ ?_ ?_)).mono ?_; rfl; rfl; rfl; rfl; rintro e w1 ⟨ev, rfl, t1, hb1, hl1, he1, hx1⟩)
  all_goals
    have p1 := t1.cells.2.1
    have hB1 : B ≤ w1.heap.size := by omega
    obtain ⟨s1k, s1a, s1b⟩ := HS.out w1 hx1
    have HR1 := HR.out _ w1 t1 hB1 hl1 hx1
    have HR2 : Hid _ := HR1
    have HE1 : Hid (ErrIs w1 (w.heap.size + 1) ⟨#[114, 101, 97, 100]⟩ a E ev ∧ Below B w w1 ∧ B ≤ w1.heap.size) := ⟨he1, hb1, hB1⟩
    clear t1 hx1 hl1 he1 hb1 hB1 HR1 p0 sk sa sb
    go_wp2_with fail
    go_region_with (go_at_call 15; refine (HR2.out _ (Alike.mk ?_ ?_ ?_ ?_)).mono ?_; rfl; rfl; rfl; rfl; rintro e w2 ⟨rfl, t2, hb2, hx2, he2, hl2⟩)
    all_goals
      obtain ⟨s2k, s2a, s2b⟩ := HS.out w2 hx2
      have he3 := he2 ev HE1.out.1
      have HB2 : Hid (Below B w w2 ∧ B ≤ w2.heap.size) := ⟨HE1.out.2.1.trans hb2, by have := hb2.size; have := HE1.out.2.2; omega⟩
      clear he2 hx2 hb2 hl2 p1 s1k s1a s1b
      go_wp2_with (go_at_call 8; refine (HT.out _ _ _ (he3.below (Alike.below (Alike.mk ?_ ?_ ?_ ?_)))).mono ?_; rfl; rfl; rfl; rfl; rintro e w3 ⟨rfl, hA3⟩)
      go_returns
      have hb3 : Below w2.heap.size w2 w3 := Alike.below ⟨hA3.heap, hA3.os, hA3.tape, hA3.output⟩
      exact ⟨rfl, HEnd.out _ _ w2 _ t2 HB2.out.2 hb3, HB2.out.1.trans (hb3.mono HB2.out.2)⟩
set_option maxRecDepth 8000 in
set_option maxHeartbeats 8000000 in
theorem reads2 (C : PC PS) (B pb k : Nat) (n : Int) (a b : ByteArray) (m0 m1 m2 m3 : Int) (po : Option Addr) (pl pc : Nat) (co : Option Addr) (cl cc : Nat) (w : World) (h : Bx PS B pb k w) (hB : B ≤ w.heap.size) (hk : k < 2097151) :
    Calls Tryz.prog 27 #[.pointer (some ⟨pb, 0, none⟩), .agg #[.int .i64 2, .int .i64 n, .string a, .string b, .int .i64 m0, .int .i64 m1, .int .i64 m2, .int .i64 m3, .slice po pl pc, .slice co cl cc]] w fun e w' => e = .returned (.bool true) ∧ Bx PS B pb (k + 1) w' ∧ Below B w w' := by
  obtain ⟨q, r, mv, dv, Gp, Gr, v, hs, hd, T, hh, hv, hl⟩ := h
  obtain ⟨X, hX⟩ : ∃ X, X = Obj.cells #[.int .i64 2, .int .i64 n, .string a, .string b, .int .i64 m0, .int .i64 m1, .int .i64 m2, .int .i64 m3, .slice po pl pc, .slice co cl cc] 33 := ⟨_, rfl⟩
  have hbA : Below w.heap.size w (w.alloc X) := (Below.refl _ w).alloc (Nat.le_refl _) _
  have hsA : (w.alloc X).heap.size = w.heap.size + 1 := by simp
  have TA := T.below C hbA hB
  have hcn : v.cnt ≤ 4194304 := by have := hv.cnt; omega
  have hgl : ∀ k, Gr k → k < w.heap.size + 1 := fun k h => by have := T.rr.low k h; omega
  have HT : Hid (∀ (e : Nat) ev W, ErrIs W (w.heap.size + 1) ⟨#[115, 116, 97, 116]⟩ a e ev → Calls Tryz.prog 8 #[ev, .string ⟨#[115, 116, 97, 116]⟩, .string a, .int .i64 e] W fun r w' => r = .returned (.bool true) ∧ Alike W w') := fun e ev W he => told_c _ _ _ _ _ _ he
  obtain ⟨E, hE⟩ : ∃ x, x = (v.stat a).1.2 := ⟨_, rfl⟩
  obtain ⟨V, hV⟩ : ∃ x, x = (v.stat a).2 := ⟨_, rfl⟩
  obtain ⟨F1, F2, F3, F4, F5, F6, hF⟩ : ∃ (F1 F2 F3 F4 : Int) (F5 : ByteArray) (F6 : Nat), Value.agg (stV v a) = .agg #[.int .i64 F1, .int .i64 F2, .int .i64 F3, .int .i64 F4, .string F5, .int .i64 (F6 : Nat)] := ⟨_, _, _, _, _, _, rfl⟩
  have HP : Hid (∀ W, Below w.heap.size (w.alloc X) W → (∀ k, k < w.heap.size + 1 → W.heap[k]? = (w.alloc X).heap[k]?) → Calls Tryz.prog 40 #[.pointer (some ⟨q, 0, none⟩), .string a] W fun e w' => ∃ G' ev, e = .returned (.tuple #[.agg #[.int .i64 F1, .int .i64 F2, .int .i64 F3, .int .i64 F4, .string F5, .int .i64 (F6 : Nat)], ev]) ∧ PB PS B pb q r mv dv G' Gr V v hs hd w' ∧ Below B w w' ∧ W.heap.size ≤ w'.heap.size ∧ ErrIs w' W.heap.size ⟨#[115, 116, 97, 116]⟩ a E ev ∧ (∀ k, w.heap.size ≤ k → k < W.heap.size → w'.heap[k]? = W.heap[k]? ∧ ¬ G' k)) := fun W hb0 hk0 => by
    have hs0 := hb0.size
    have hbw : Below w.heap.size w W := hbA.trans hb0
    have TW := T.below C hbw hB
    refine (fStat_c C Gp q v a W TW.pp hv.wf hcn).mono ?_
    rintro e w' ⟨ev, rfl, he, hd'⟩
    obtain ⟨t, hb⟩ := TW.pdid (by omega) hd'
    have hs' := hd'.2.size
    rw [← hV] at t
    rw [← hE] at he
    refine ⟨_, ev, by rw [hF], t, (hbw.mono hB).trans hb, hs', he, fun k h1 h2 => ⟨hd'.2.block k h2 (T.out h1).1, fun h' => ?_⟩⟩
    rcases h' with h' | h'
    · exact (T.out h1).1 h'
    · omega
  have HR : Hid (∀ G' wx, PB PS B pb q r mv dv G' Gr V v hs hd wx → B ≤ wx.heap.size → w.heap.size ≤ wx.heap.size → ∀ W, Below wx.heap.size wx W → Calls Tryz.prog 41 #[.pointer (some ⟨r, 0, none⟩), .string a] W fun e w' => e = .returned (.tuple #[.agg #[.int .i64 F1, .int .i64 F2, .int .i64 F3, .int .i64 F4, .string F5, .int .i64 (F6 : Nat)], .int .i64 E]) ∧ (∃ G'', PB PS B pb q r mv dv G' G'' V V hs hd w' ∧ ∀ k, w.heap.size ≤ k → k < W.heap.size → ¬ G'' k) ∧ Below B wx w' ∧ (∀ k, w.heap.size ≤ k → k < W.heap.size → w'.heap[k]? = W.heap[k]?) ∧ (∀ ev, ErrIs wx (w.heap.size + 1) ⟨#[115, 116, 97, 116]⟩ a E ev → ErrIs w' (w.heap.size + 1) ⟨#[115, 116, 97, 116]⟩ a E ev) ∧ W.heap.size ≤ w'.heap.size) := fun G' wx t0 hBx hlx W hA => by
    have t := t0.below C hA hBx
    have hsW := hA.size
    refine (rStat_c Gr r v a W t.rr hv.wf hcn).mono ?_
    rintro e w' ⟨rfl, hd'⟩
    obtain ⟨t', hb⟩ := t.rdid C (by omega) hd'
    have hs' := hd'.2.size
    rw [← hV] at t'
    refine ⟨by rw [hF, hE], ⟨_, t', fun k h1 h2 h' => ?_⟩, (hA.mono hBx).trans hb, fun k h1 h2 => hd'.2.block k h2 (fun h' => by have := T.rr.low _ h'; omega), fun ev he => (he.below hA).kept hd'.2 (fun k h => by have := T.rr.low k h; omega), by omega⟩
    rcases h' with h' | h'
    · have := T.rr.low _ h'; omega
    · omega
  have HEnd : Hid (∀ G' G'' W W', PB PS B pb q r mv dv G' G'' V V hs hd W → B ≤ W.heap.size → Below W.heap.size W W' → Bx PS B pb (k + 1) W') := fun G' G'' W W' t hBx hA => ⟨q, r, mv, dv, G', G'', V, hs, hd, t.below C hA hBx, hh, by rw [hV]; exact hv.stat a, by omega⟩
  have p0 := TA.cells.1
  have HRO : Hid (∀ k, w.heap.size ≤ k → ¬ Gr k) := fun k hk => (T.out hk).2
  clear hh hv hl hcn hgl hE hV hF T TA hbA hsA
  subst hX
  have f1 : (F1 == F1) = true := by simp
  have f2 : (F2 == F2) = true := by simp
  have f3 : (F3 == F3) = true := by simp
  have f4 : (F4 == F4) = true := by simp
  have f5 : (F5.toList == F5.toList) = true := by simp
  have f6 : ((F6 : Int) == F6) = true := by simp
  obtain ⟨W0, hW0⟩ : ∃ W0, W0 = w.alloc (.cells #[.int .i64 2, .int .i64 n, .string a, .string b, .int .i64 m0, .int .i64 m1, .int .i64 m2, .int .i64 m3, .slice po pl pc, .slice co cl cc] 33) := ⟨_, rfl⟩
  have s0 : W0.heap[w.heap.size]? = some (.cells #[.int .i64 2, .int .i64 n, .string a, .string b, .int .i64 m0, .int .i64 m1, .int .i64 m2, .int .i64 m3, .slice po pl pc, .slice co cl cc] 33 (0, 0)) := by rw [hW0]; exact heap_alloc_new _ _
  have HS : Hid (∀ (W : World), W.heap[w.heap.size]? = some (.cells #[.int .i64 2, .int .i64 n, .string a, .string b, .int .i64 m0, .int .i64 m1, .int .i64 m2, .int .i64 m3, .slice po pl pc, .slice co cl cc] 33 (0, 0)) → W.cell? ⟨w.heap.size, 2, none⟩ = some (.string a)) := fun W hs => by
    rw [Lib.cell_of_heap hs]; rfl
  have hsW0 : W0.heap.size = w.heap.size + 1 := by rw [hW0]; simp
  have HW0 : Hid (W0 = w.alloc (.cells #[.int .i64 2, .int .i64 n, .string a, .string b, .int .i64 m0, .int .i64 m1, .int .i64 m2, .int .i64 m3, .slice po pl pc, .slice co cl cc] 33) ∧ W0.heap[w.heap.size]? = some (.cells #[.int .i64 2, .int .i64 n, .string a, .string b, .int .i64 m0, .int .i64 m1, .int .i64 m2, .int .i64 m3, .slice po pl pc, .slice co cl cc] 33 (0, 0))) := ⟨hW0, s0⟩
  rw [← hW0] at HP p0
  have sa := HS.out W0 s0
  have HPa : Hid (∀ W, Alike W0 W → Calls Tryz.prog 40 #[.pointer (some ⟨q, 0, none⟩), .string a] W fun e w' => ∃ G' ev, e = .returned (.tuple #[.agg #[.int .i64 F1, .int .i64 F2, .int .i64 F3, .int .i64 F4, .string F5, .int .i64 (F6 : Nat)], ev]) ∧ PB PS B pb q r mv dv G' Gr V v hs hd w' ∧ Below B w w' ∧ w.heap.size + 1 ≤ w'.heap.size ∧ ErrIs w' (w.heap.size + 1) ⟨#[115, 116, 97, 116]⟩ a E ev ∧ w'.heap[w.heap.size]? = some (.cells #[.int .i64 2, .int .i64 n, .string a, .string b, .int .i64 m0, .int .i64 m1, .int .i64 m2, .int .i64 m3, .slice po pl pc, .slice co cl cc] 33 (0, 0)) ∧ ¬ G' w.heap.size) := fun W hA => by
    have hsW : W.heap.size = w.heap.size + 1 := by rw [hA.heap]; exact hsW0
    refine (HP.out W (hA.below.mono (by omega)) (fun k _ => by rw [hA.heap])).mono ?_
    rintro e w' ⟨G', ev, h1, h2, h3, h4, h5, h6⟩
    rw [hsW] at h4 h5 h6
    exact ⟨G', ev, h1, h2, h3, h4, h5, (h6 _ (Nat.le_refl _) (by omega)).1.trans (by rw [hA.heap]; exact s0), (h6 _ (Nat.le_refl _) (by omega)).2⟩
  have HPb : Hid (∀ W, Alike (W0.alloc (.cells #[.int .i64 0, .int .i64 0, .int .i64 0, .int .i64 0, .string ⟨#[]⟩, .int .i64 0] 88)) W → Calls Tryz.prog 40 #[.pointer (some ⟨q, 0, none⟩), .string a] W fun e w' => ∃ G' ev, e = .returned (.tuple #[.agg #[.int .i64 F1, .int .i64 F2, .int .i64 F3, .int .i64 F4, .string F5, .int .i64 (F6 : Nat)], ev]) ∧ PB PS B pb q r mv dv G' Gr V v hs hd w' ∧ Below B w w' ∧ w.heap.size + 1 ≤ w'.heap.size ∧ ErrIs w' (w.heap.size + 2) ⟨#[115, 116, 97, 116]⟩ a E ev ∧ w'.heap[w.heap.size]? = some (.cells #[.int .i64 2, .int .i64 n, .string a, .string b, .int .i64 m0, .int .i64 m1, .int .i64 m2, .int .i64 m3, .slice po pl pc, .slice co cl cc] 33 (0, 0)) ∧ w'.heap[W0.heap.size]? = some (.cells #[.int .i64 0, .int .i64 0, .int .i64 0, .int .i64 0, .string ⟨#[]⟩, .int .i64 0] 88 (0, 0)) ∧ ¬ G' W0.heap.size ∧ W0.heap.size < w'.heap.size) := fun W hA => by
    have hsW : W.heap.size = w.heap.size + 2 := by rw [hA.heap]; simp; omega
    refine (HP.out W ((((Below.refl _ W0).alloc (Nat.le_refl _) _).trans (hA.below.mono (by simp))).mono (by omega)) (fun k hk => by rw [hA.heap, Lib.alloc_old _ _ _ (by omega)])).mono ?_
    rintro e w' ⟨G', ev, h1, h2, h3, h4, h5, h6⟩
    rw [hsW] at h4 h5 h6
    refine ⟨G', ev, h1, h2, h3, by omega, h5, (h6 _ (Nat.le_refl _) (by omega)).1.trans (by rw [hA.heap, Lib.alloc_old _ _ _ (by omega)]; exact s0), (h6 _ (by omega) (by omega)).1.trans (by rw [hA.heap, heap_alloc_new]), (h6 _ (by omega) (by omega)).2, by omega⟩
  have HSZ : Hid (W0.heap.size = w.heap.size + 1) := hsW0
  have pz := cell_below ((Below.refl W0.heap.size W0).alloc (Nat.le_refl _) (.cells #[.int .i64 0, .int .i64 0, .int .i64 0, .int .i64 0, .string ⟨#[]⟩, .int .i64 0] 88)) p0
  have sz := cell_below ((Below.refl W0.heap.size W0).alloc (Nat.le_refl _) (.cells #[.int .i64 0, .int .i64 0, .int .i64 0, .int .i64 0, .string ⟨#[]⟩, .int .i64 0] 88)) sa
  clear hW0 s0 hsW0
  have HREL : Hid (∀ (w0 w1 : World) (ib : Nat) G1 ev, PB PS B pb q r mv dv G1 Gr V v hs hd w0 → Below B w w0 → ErrIs w0 (w.heap.size + 1) ⟨#[115, 116, 97, 116]⟩ a E ev → w0.heap[w.heap.size]? = some (.cells #[.int .i64 2, .int .i64 n, .string a, .string b, .int .i64 m0, .int .i64 m1, .int .i64 m2, .int .i64 m3, .slice po pl pc, .slice co cl cc] 33 (0, 0)) → w0.heap[ib]? = some (.cells #[.int .i64 0, .int .i64 0, .int .i64 0, .int .i64 0, .string ⟨#[]⟩, .int .i64 0] 88 (0, 0)) → ¬ G1 ib → w.heap.size < ib → B ≤ w0.heap.size → Alike w0 w1 →
      PB PS B pb q r mv dv G1 Gr V v hs hd (six w1 ib (.int .i64 F1) (.int .i64 F2) (.int .i64 F3) (.int .i64 F4) (.string F5) (.int .i64 (F6 : Nat))) ∧ Below B w (six w1 ib (.int .i64 F1) (.int .i64 F2) (.int .i64 F3) (.int .i64 F4) (.string F5) (.int .i64 (F6 : Nat))) ∧ ErrIs (six w1 ib (.int .i64 F1) (.int .i64 F2) (.int .i64 F3) (.int .i64 F4) (.string F5) (.int .i64 (F6 : Nat))) (w.heap.size + 1) ⟨#[115, 116, 97, 116]⟩ a E ev ∧ (six w1 ib (.int .i64 F1) (.int .i64 F2) (.int .i64 F3) (.int .i64 F4) (.string F5) (.int .i64 (F6 : Nat))).heap[w.heap.size]? = some (.cells #[.int .i64 2, .int .i64 n, .string a, .string b, .int .i64 m0, .int .i64 m1, .int .i64 m2, .int .i64 m3, .slice po pl pc, .slice co cl cc] 33 (0, 0)) ∧ (six w1 ib (.int .i64 F1) (.int .i64 F2) (.int .i64 F3) (.int .i64 F4) (.string F5) (.int .i64 (F6 : Nat))).heap[ib]? = some (.cells #[.int .i64 F1, .int .i64 F2, .int .i64 F3, .int .i64 F4, .string F5, .int .i64 (F6 : Nat)] 88) ∧ w.heap.size < ib ∧ ib < (six w1 ib (.int .i64 F1) (.int .i64 F2) (.int .i64 F3) (.int .i64 F4) (.string F5) (.int .i64 (F6 : Nat))).heap.size) := fun w0 w1 ib G1 ev h1' h2' h3' h4' h5' h6 h7 hB0 hA => by
    have h1 := h1'.below C hA.below hB0
    have h2 := h2'.trans (hA.below.mono hB0)
    have h3 := h3'.below hA.below
    have h4 : w1.heap[w.heap.size]? = some (.cells #[.int .i64 2, .int .i64 n, .string a, .string b, .int .i64 m0, .int .i64 m1, .int .i64 m2, .int .i64 m3, .slice po pl pc, .slice co cl cc] 33 (0, 0)) := by rw [hA.heap]; exact h4'
    have h5 : w1.heap[ib]? = some (.cells #[.int .i64 0, .int .i64 0, .int .i64 0, .int .i64 0, .string ⟨#[]⟩, .int .i64 0] 88 (0, 0)) := by rw [hA.heap]; exact h5'
    have hs1 := six_size w1 ib (.int .i64 F1) (.int .i64 F2) (.int .i64 F3) (.int .i64 F4) (.string F5) (.int .i64 (F6 : Nat))
    have oth : ∀ k, k ≠ ib → (six w1 ib (.int .i64 F1) (.int .i64 F2) (.int .i64 F3) (.int .i64 F4) (.string F5) (.int .i64 (F6 : Nat))).heap[k]? = w1.heap[k]? := fun k hk => six_other _ _ _ _ _ _ _ _ hk
    obtain ⟨o1, o2, o3⟩ := six_rest w1 ib (.int .i64 F1) (.int .i64 F2) (.int .i64 F3) (.int .i64 F4) (.string F5) (.int .i64 (F6 : Nat))
    have hib := (Array.getElem?_eq_some_iff.1 h5).1
    have hI : (six w1 ib (.int .i64 F1) (.int .i64 F2) (.int .i64 F3) (.int .i64 F4) (.string F5) (.int .i64 (F6 : Nat))).heap[ib]? = some (.cells #[.int .i64 F1, .int .i64 F2, .int .i64 F3, .int .i64 F4, .string F5, .int .i64 (F6 : Nat)] 88) := by unfold six; exact six_set h5 _ _ _ _ _ _
    generalize six w1 ib (.int .i64 F1) (.int .i64 F2) (.int .i64 F3) (.int .i64 F4) (.string F5) (.int .i64 (F6 : Nat)) = W' at hs1 oth o1 o2 o3 hI ⊢
    exact ⟨h1.over C h5 h6 (HRO.out ib (by omega)) hs1 oth, ⟨o1.trans h2.os, o2.trans h2.tape, o3.trans h2.output, by have := h2.size; omega, fun k hk => (oth k (by omega)).trans (h2.block k hk)⟩, h3.over h5 oth, (oth _ (by omega)).trans h4, hI, h7, by omega⟩
  have HRELA : Hid (∀ (w0 : World) G1 ev, PB PS B pb q r mv dv G1 Gr V v hs hd w0 → Below B w w0 → w.heap.size + 1 ≤ w0.heap.size → ErrIs w0 (w.heap.size + 1) ⟨#[115, 116, 97, 116]⟩ a E ev → w0.heap[w.heap.size]? = some (.cells #[.int .i64 2, .int .i64 n, .string a, .string b, .int .i64 m0, .int .i64 m1, .int .i64 m2, .int .i64 m3, .slice po pl pc, .slice co cl cc] 33 (0, 0)) →
      PB PS B pb q r mv dv G1 Gr V v hs hd (w0.alloc (.cells #[.int .i64 F1, .int .i64 F2, .int .i64 F3, .int .i64 F4, .string F5, .int .i64 (F6 : Nat)] 88)) ∧ Below B w (w0.alloc (.cells #[.int .i64 F1, .int .i64 F2, .int .i64 F3, .int .i64 F4, .string F5, .int .i64 (F6 : Nat)] 88)) ∧ ErrIs (w0.alloc (.cells #[.int .i64 F1, .int .i64 F2, .int .i64 F3, .int .i64 F4, .string F5, .int .i64 (F6 : Nat)] 88)) (w.heap.size + 1) ⟨#[115, 116, 97, 116]⟩ a E ev ∧ (w0.alloc (.cells #[.int .i64 F1, .int .i64 F2, .int .i64 F3, .int .i64 F4, .string F5, .int .i64 (F6 : Nat)] 88)).heap[w.heap.size]? = some (.cells #[.int .i64 2, .int .i64 n, .string a, .string b, .int .i64 m0, .int .i64 m1, .int .i64 m2, .int .i64 m3, .slice po pl pc, .slice co cl cc] 33 (0, 0)) ∧ (w0.alloc (.cells #[.int .i64 F1, .int .i64 F2, .int .i64 F3, .int .i64 F4, .string F5, .int .i64 (F6 : Nat)] 88)).heap[w0.heap.size]? = some (.cells #[.int .i64 F1, .int .i64 F2, .int .i64 F3, .int .i64 F4, .string F5, .int .i64 (F6 : Nat)] 88) ∧ w.heap.size < w0.heap.size ∧ w0.heap.size < (w0.alloc (.cells #[.int .i64 F1, .int .i64 F2, .int .i64 F3, .int .i64 F4, .string F5, .int .i64 (F6 : Nat)] 88)).heap.size) := fun w0 G1 ev h1 h2 h3 h4 h5 => by
    have hb : Below w0.heap.size w0 (w0.alloc (.cells #[.int .i64 F1, .int .i64 F2, .int .i64 F3, .int .i64 F4, .string F5, .int .i64 (F6 : Nat)] 88)) := (Below.refl _ w0).alloc (Nat.le_refl _) _
    exact ⟨h1.below C hb (by omega), h2.trans (hb.mono (by omega)), h4.below hb, (hb.block _ (by omega)).trans h5, heap_alloc_new _ _, by omega, by simp⟩
  go_enter Tryz.func27, Tryz.ntmps27
  go_upto_region 8 with fail
  rw [← HW0.out.1]
  go_cut [10, 11] from 58 to 67 (fun i e wx => ∃ ib G1, i = .pointer (some ⟨ib, 0, none⟩) ∧ PB PS B pb q r mv dv G1 Gr V v hs hd wx ∧ Below B w wx ∧ ErrIs wx (w.heap.size + 1) ⟨#[115, 116, 97, 116]⟩ a E e ∧ wx.heap[w.heap.size]? = some (.cells #[.int .i64 2, .int .i64 n, .string a, .string b, .int .i64 m0, .int .i64 m1, .int .i64 m2, .int .i64 m3, .slice po pl pc, .slice co cl cc] 33 (0, 0)) ∧ wx.heap[ib]? = some (.cells #[.int .i64 F1, .int .i64 F2, .int .i64 F3, .int .i64 F4, .string F5, .int .i64 (F6 : Nat)] 88) ∧ w.heap.size < ib ∧ ib < wx.heap.size)
  case first =>
    go_region_with (go_at_call 40; first
      | (refine (HPa.out _ (Alike.mk ?_ ?_ ?_ ?_)).mono ?_; rfl; rfl; rfl; rfl; rintro e w1 ⟨G1, ev, rfl, t1, hb1, hl1, he1, hx1, hg1⟩; obtain ⟨x0, x1, x2, x3, x4, x5, g0, g1, g2, g3, g4, g5⟩ := six_at (heap_alloc_new w1 (.cells #[.int .i64 0, .int .i64 0, .int .i64 0, .int .i64 0, .string ⟨#[]⟩, .int .i64 0] 88)))
      | (refine (HPb.out _ (Alike.mk ?_ ?_ ?_ ?_)).mono ?_; rfl; rfl; rfl; rfl; rintro e w1 ⟨G1, ev, rfl, t1, hb1, hl1, he1, hx1, hz1, hg1, hl2⟩; obtain ⟨x0, x1, x2, x3, x4, x5, g0, g1, g2, g3, g4, g5⟩ := six_at hz1))
    all_goals
      go_wp2_with fail
      go_meet
      first
        | (have hz2 := hz1; exact ⟨W0.heap.size, G1, rfl, HREL.out w1 w1 W0.heap.size G1 ev t1 hb1 (he1.low (by omega)) hx1 hz2 hg1 (by rw [HSZ.out]; omega) (by omega) ⟨rfl, rfl, rfl, rfl⟩⟩)
        | exact ⟨w1.heap.size, G1, rfl, HRELA.out w1 G1 ev t1 hb1 hl1 he1 hx1⟩
  case rest =>
    obtain ⟨ib, G1, rfl, t1, hb1, he1, hx1, hi1, hl1, hl2⟩ := hcut
    have p1 := t1.cells.2.1
    have hB1 : B ≤ wc.heap.size := by omega
    have s1 := HS.out wc hx1
    have HE1 : Hid (ErrIs wc (w.heap.size + 1) ⟨#[115, 116, 97, 116]⟩ a E u11 ∧ Below B w wc ∧ B ≤ wc.heap.size ∧ wc.heap[w.heap.size]? = some (.cells #[.int .i64 2, .int .i64 n, .string a, .string b, .int .i64 m0, .int .i64 m1, .int .i64 m2, .int .i64 m3, .slice po pl pc, .slice co cl cc] 33 (0, 0)) ∧ wc.heap[ib]? = some (.cells #[.int .i64 F1, .int .i64 F2, .int .i64 F3, .int .i64 F4, .string F5, .int .i64 (F6 : Nat)] 88) ∧ w.heap.size < ib ∧ ib < wc.heap.size) := ⟨he1, hb1, hB1, hx1, hi1, hl1, hl2⟩
    have HRa : Hid (∀ W, Alike wc W → Calls Tryz.prog 41 #[.pointer (some ⟨r, 0, none⟩), .string a] W fun e w' => e = .returned (.tuple #[.agg #[.int .i64 F1, .int .i64 F2, .int .i64 F3, .int .i64 F4, .string F5, .int .i64 (F6 : Nat)], .int .i64 E]) ∧ (∃ G'', PB PS B pb q r mv dv G1 G'' V V hs hd w') ∧ Below B w w' ∧ ErrIs w' (w.heap.size + 1) ⟨#[115, 116, 97, 116]⟩ a E u11 ∧ w'.heap[w.heap.size]? = some (.cells #[.int .i64 2, .int .i64 n, .string a, .string b, .int .i64 m0, .int .i64 m1, .int .i64 m2, .int .i64 m3, .slice po pl pc, .slice co cl cc] 33 (0, 0)) ∧ w'.heap[ib]? = some (.cells #[.int .i64 F1, .int .i64 F2, .int .i64 F3, .int .i64 F4, .string F5, .int .i64 (F6 : Nat)] 88) ∧ B ≤ w'.heap.size ∧ ib < w'.heap.size ∧ w.heap.size + 1 ≤ w'.heap.size) := fun W hA => by
      have hsW : W.heap.size = wc.heap.size := by rw [hA.heap]
      refine (HR.out G1 wc t1 hB1 (by omega) W hA.below).mono ?_
      rintro e w' ⟨e1, ⟨G'', g1, g2⟩, g3, g4, g5, g6⟩
      exact ⟨e1, ⟨G'', g1⟩, hb1.trans g3, g5 _ he1, (g4 _ (Nat.le_refl _) (by omega)).trans (by rw [hA.heap]; exact hx1), (g4 _ (by omega) (by omega)).trans (by rw [hA.heap]; exact hi1), by omega, by omega, by omega⟩
    have HRb : Hid (∀ W, Alike (wc.alloc (.cells #[.int .i64 0, .int .i64 0, .int .i64 0, .int .i64 0, .string ⟨#[]⟩, .int .i64 0] 88)) W → Calls Tryz.prog 41 #[.pointer (some ⟨r, 0, none⟩), .string a] W fun e w' => e = .returned (.tuple #[.agg #[.int .i64 F1, .int .i64 F2, .int .i64 F3, .int .i64 F4, .string F5, .int .i64 (F6 : Nat)], .int .i64 E]) ∧ (∃ G'', PB PS B pb q r mv dv G1 G'' V V hs hd w' ∧ ¬ G'' wc.heap.size) ∧ Below B w w' ∧ ErrIs w' (w.heap.size + 1) ⟨#[115, 116, 97, 116]⟩ a E u11 ∧ w'.heap[w.heap.size]? = some (.cells #[.int .i64 2, .int .i64 n, .string a, .string b, .int .i64 m0, .int .i64 m1, .int .i64 m2, .int .i64 m3, .slice po pl pc, .slice co cl cc] 33 (0, 0)) ∧ w'.heap[ib]? = some (.cells #[.int .i64 F1, .int .i64 F2, .int .i64 F3, .int .i64 F4, .string F5, .int .i64 (F6 : Nat)] 88) ∧ B ≤ w'.heap.size ∧ ib < w'.heap.size ∧ w.heap.size + 1 ≤ w'.heap.size ∧ w'.heap[wc.heap.size]? = some (.cells #[.int .i64 0, .int .i64 0, .int .i64 0, .int .i64 0, .string ⟨#[]⟩, .int .i64 0] 88 (0, 0))) := fun W hA => by
      have hsW : W.heap.size = wc.heap.size + 1 := by rw [hA.heap]; simp
      have hbz : Below wc.heap.size wc (wc.alloc (.cells #[.int .i64 0, .int .i64 0, .int .i64 0, .int .i64 0, .string ⟨#[]⟩, .int .i64 0] 88)) := (Below.refl _ wc).alloc (Nat.le_refl _) _
      refine (HR.out G1 wc t1 hB1 (by omega) W (hbz.trans (hA.below.mono (by simp)))).mono ?_
      rintro e w' ⟨e1, ⟨G'', g1, g2⟩, g3, g4, g5, g6⟩
      refine ⟨e1, ⟨G'', g1, g2 _ (by omega) (by omega)⟩, hb1.trans g3, g5 _ he1, (g4 _ (Nat.le_refl _) (by omega)).trans (by rw [hA.heap, Lib.alloc_old _ _ _ (by omega)]; exact hx1), (g4 _ (by omega) (by omega)).trans (by rw [hA.heap, Lib.alloc_old _ _ _ hl2]; exact hi1), by omega, by omega, by omega, (g4 _ (by omega) (by omega)).trans (by rw [hA.heap, heap_alloc_new])⟩
    have HG1 : Hid (¬ G1 wc.heap.size) := fun h' => by have := t1.pp.low _ h'; omega
    have HREL2 : Hid (∀ (w2 : World) G2, PB PS B pb q r mv dv G1 G2 V V hs hd w2 → ¬ G2 wc.heap.size → Below B w w2 → ErrIs w2 (w.heap.size + 1) ⟨#[115, 116, 97, 116]⟩ a E u11 → w2.heap[w.heap.size]? = some (.cells #[.int .i64 2, .int .i64 n, .string a, .string b, .int .i64 m0, .int .i64 m1, .int .i64 m2, .int .i64 m3, .slice po pl pc, .slice co cl cc] 33 (0, 0)) → w2.heap[ib]? = some (.cells #[.int .i64 F1, .int .i64 F2, .int .i64 F3, .int .i64 F4, .string F5, .int .i64 (F6 : Nat)] 88) → B ≤ w2.heap.size → w2.heap[wc.heap.size]? = some (.cells #[.int .i64 0, .int .i64 0, .int .i64 0, .int .i64 0, .string ⟨#[]⟩, .int .i64 0] 88 (0, 0)) →
        PB PS B pb q r mv dv G1 G2 V V hs hd (six w2 wc.heap.size (.int .i64 F1) (.int .i64 F2) (.int .i64 F3) (.int .i64 F4) (.string F5) (.int .i64 (F6 : Nat))) ∧ Below B w (six w2 wc.heap.size (.int .i64 F1) (.int .i64 F2) (.int .i64 F3) (.int .i64 F4) (.string F5) (.int .i64 (F6 : Nat))) ∧ ErrIs (six w2 wc.heap.size (.int .i64 F1) (.int .i64 F2) (.int .i64 F3) (.int .i64 F4) (.string F5) (.int .i64 (F6 : Nat))) (w.heap.size + 1) ⟨#[115, 116, 97, 116]⟩ a E u11 ∧ (six w2 wc.heap.size (.int .i64 F1) (.int .i64 F2) (.int .i64 F3) (.int .i64 F4) (.string F5) (.int .i64 (F6 : Nat))).heap[w.heap.size]? = some (.cells #[.int .i64 2, .int .i64 n, .string a, .string b, .int .i64 m0, .int .i64 m1, .int .i64 m2, .int .i64 m3, .slice po pl pc, .slice co cl cc] 33 (0, 0)) ∧ (six w2 wc.heap.size (.int .i64 F1) (.int .i64 F2) (.int .i64 F3) (.int .i64 F4) (.string F5) (.int .i64 (F6 : Nat))).heap[ib]? = some (.cells #[.int .i64 F1, .int .i64 F2, .int .i64 F3, .int .i64 F4, .string F5, .int .i64 (F6 : Nat)] 88) ∧ (six w2 wc.heap.size (.int .i64 F1) (.int .i64 F2) (.int .i64 F3) (.int .i64 F4) (.string F5) (.int .i64 (F6 : Nat))).heap[wc.heap.size]? = some (.cells #[.int .i64 F1, .int .i64 F2, .int .i64 F3, .int .i64 F4, .string F5, .int .i64 (F6 : Nat)] 88) ∧ B ≤ (six w2 wc.heap.size (.int .i64 F1) (.int .i64 F2) (.int .i64 F3) (.int .i64 F4) (.string F5) (.int .i64 (F6 : Nat))).heap.size) := fun w2 G2 h1 h6 h2 h3 h4 h7 hB0 h5 => by
      have hs1 := six_size w2 wc.heap.size (.int .i64 F1) (.int .i64 F2) (.int .i64 F3) (.int .i64 F4) (.string F5) (.int .i64 (F6 : Nat))
      have oth : ∀ k, k ≠ wc.heap.size → (six w2 wc.heap.size (.int .i64 F1) (.int .i64 F2) (.int .i64 F3) (.int .i64 F4) (.string F5) (.int .i64 (F6 : Nat))).heap[k]? = w2.heap[k]? := fun k hk => six_other _ _ _ _ _ _ _ _ hk
      obtain ⟨o1, o2, o3⟩ := six_rest w2 wc.heap.size (.int .i64 F1) (.int .i64 F2) (.int .i64 F3) (.int .i64 F4) (.string F5) (.int .i64 (F6 : Nat))
      have hI : (six w2 wc.heap.size (.int .i64 F1) (.int .i64 F2) (.int .i64 F3) (.int .i64 F4) (.string F5) (.int .i64 (F6 : Nat))).heap[wc.heap.size]? = some (.cells #[.int .i64 F1, .int .i64 F2, .int .i64 F3, .int .i64 F4, .string F5, .int .i64 (F6 : Nat)] 88) := by unfold six; exact six_set h5 _ _ _ _ _ _
      have hl9 := HE1.out.2.2.2.2.2
      generalize six w2 wc.heap.size (.int .i64 F1) (.int .i64 F2) (.int .i64 F3) (.int .i64 F4) (.string F5) (.int .i64 (F6 : Nat)) = W' at hs1 oth o1 o2 o3 hI ⊢
      exact ⟨h1.over C h5 HG1.out h6 hs1 oth, ⟨o1.trans h2.os, o2.trans h2.tape, o3.trans h2.output, by have := h2.size; omega, fun k hk => (oth k (by omega)).trans (h2.block k hk)⟩, h3.over h5 oth, (oth _ (by omega)).trans h4, (oth _ (by omega)).trans h7, hI, by omega⟩
    have HREL2A : Hid (∀ (w2 : World) G2, PB PS B pb q r mv dv G1 G2 V V hs hd w2 → Below B w w2 → ErrIs w2 (w.heap.size + 1) ⟨#[115, 116, 97, 116]⟩ a E u11 → w2.heap[w.heap.size]? = some (.cells #[.int .i64 2, .int .i64 n, .string a, .string b, .int .i64 m0, .int .i64 m1, .int .i64 m2, .int .i64 m3, .slice po pl pc, .slice co cl cc] 33 (0, 0)) → w2.heap[ib]? = some (.cells #[.int .i64 F1, .int .i64 F2, .int .i64 F3, .int .i64 F4, .string F5, .int .i64 (F6 : Nat)] 88) → B ≤ w2.heap.size → ib < w2.heap.size → w.heap.size + 1 ≤ w2.heap.size →
        PB PS B pb q r mv dv G1 G2 V V hs hd (w2.alloc (.cells #[.int .i64 F1, .int .i64 F2, .int .i64 F3, .int .i64 F4, .string F5, .int .i64 (F6 : Nat)] 88)) ∧ Below B w (w2.alloc (.cells #[.int .i64 F1, .int .i64 F2, .int .i64 F3, .int .i64 F4, .string F5, .int .i64 (F6 : Nat)] 88)) ∧ ErrIs (w2.alloc (.cells #[.int .i64 F1, .int .i64 F2, .int .i64 F3, .int .i64 F4, .string F5, .int .i64 (F6 : Nat)] 88)) (w.heap.size + 1) ⟨#[115, 116, 97, 116]⟩ a E u11 ∧ (w2.alloc (.cells #[.int .i64 F1, .int .i64 F2, .int .i64 F3, .int .i64 F4, .string F5, .int .i64 (F6 : Nat)] 88)).heap[w.heap.size]? = some (.cells #[.int .i64 2, .int .i64 n, .string a, .string b, .int .i64 m0, .int .i64 m1, .int .i64 m2, .int .i64 m3, .slice po pl pc, .slice co cl cc] 33 (0, 0)) ∧ (w2.alloc (.cells #[.int .i64 F1, .int .i64 F2, .int .i64 F3, .int .i64 F4, .string F5, .int .i64 (F6 : Nat)] 88)).heap[ib]? = some (.cells #[.int .i64 F1, .int .i64 F2, .int .i64 F3, .int .i64 F4, .string F5, .int .i64 (F6 : Nat)] 88) ∧ (w2.alloc (.cells #[.int .i64 F1, .int .i64 F2, .int .i64 F3, .int .i64 F4, .string F5, .int .i64 (F6 : Nat)] 88)).heap[w2.heap.size]? = some (.cells #[.int .i64 F1, .int .i64 F2, .int .i64 F3, .int .i64 F4, .string F5, .int .i64 (F6 : Nat)] 88) ∧ B ≤ (w2.alloc (.cells #[.int .i64 F1, .int .i64 F2, .int .i64 F3, .int .i64 F4, .string F5, .int .i64 (F6 : Nat)] 88)).heap.size) := fun w2 G2 h1 h2 h3 h4 h5 h6 h7 h8 => by
      have hb : Below w2.heap.size w2 (w2.alloc (.cells #[.int .i64 F1, .int .i64 F2, .int .i64 F3, .int .i64 F4, .string F5, .int .i64 (F6 : Nat)] 88)) := (Below.refl _ w2).alloc (Nat.le_refl _) _
      exact ⟨h1.below C hb h6, h2.trans (hb.mono h6), h3.below hb, (hb.block _ (by omega)).trans h4, (hb.block _ h7).trans h5, heap_alloc_new _ _, by simp; omega⟩
    have pz2 := cell_below ((Below.refl wc.heap.size wc).alloc (Nat.le_refl _) (.cells #[.int .i64 0, .int .i64 0, .int .i64 0, .int .i64 0, .string ⟨#[]⟩, .int .i64 0] 88)) p1
    have sz2 := cell_below ((Below.refl wc.heap.size wc).alloc (Nat.le_refl _) (.cells #[.int .i64 0, .int .i64 0, .int .i64 0, .int .i64 0, .string ⟨#[]⟩, .int .i64 0] 88)) s1
    clear t1 hb1 he1 hx1 hi1 hl1 hl2 hB1 p0 sa pz sz
    go_upto_region 9 with fail
    go_cut [12, 13] from 68 to 77 (fun j e wx => ∃ jb G2, j = .pointer (some ⟨jb, 0, none⟩) ∧ e = .int .i64 E ∧ PB PS B pb q r mv dv G1 G2 V V hs hd wx ∧ Below B w wx ∧ ErrIs wx (w.heap.size + 1) ⟨#[115, 116, 97, 116]⟩ a E u11 ∧ wx.heap[w.heap.size]? = some (.cells #[.int .i64 2, .int .i64 n, .string a, .string b, .int .i64 m0, .int .i64 m1, .int .i64 m2, .int .i64 m3, .slice po pl pc, .slice co cl cc] 33 (0, 0)) ∧ wx.heap[ib]? = some (.cells #[.int .i64 F1, .int .i64 F2, .int .i64 F3, .int .i64 F4, .string F5, .int .i64 (F6 : Nat)] 88) ∧ wx.heap[jb]? = some (.cells #[.int .i64 F1, .int .i64 F2, .int .i64 F3, .int .i64 F4, .string F5, .int .i64 (F6 : Nat)] 88) ∧ B ≤ wx.heap.size)
    case first =>
      go_region_with (go_at_call 41; first
        | (refine (HRa.out _ (Alike.mk ?_ ?_ ?_ ?_)).mono ?_; rfl; rfl; rfl; rfl; rintro e w2 ⟨rfl, ⟨G2, t2⟩, hb2, he2, hx2, hi2, hB2, hl2, hl3⟩; obtain ⟨x0, x1, x2, x3, x4, x5, g0, g1, g2, g3, g4, g5⟩ := six_at (heap_alloc_new w2 (.cells #[.int .i64 0, .int .i64 0, .int .i64 0, .int .i64 0, .string ⟨#[]⟩, .int .i64 0] 88)))
        | (refine (HRb.out _ (Alike.mk ?_ ?_ ?_ ?_)).mono ?_; rfl; rfl; rfl; rfl; rintro e w2 ⟨rfl, ⟨G2, t2, hg2⟩, hb2, he2, hx2, hi2, hB2, hl2, hl3, hz2⟩; obtain ⟨x0, x1, x2, x3, x4, x5, g0, g1, g2, g3, g4, g5⟩ := six_at hz2))
      all_goals
        go_wp2_with fail
        go_meet
        first
          | (have hz3 := hz2; exact ⟨wc.heap.size, G2, rfl, rfl, HREL2.out w2 G2 t2 hg2 hb2 he2 hx2 hi2 hB2 hz3⟩)
          | exact ⟨w2.heap.size, G2, rfl, rfl, HREL2A.out w2 G2 t2 hb2 he2 hx2 hi2 hB2 hl2 hl3⟩
    case rest =>
      obtain ⟨jb, G2, rfl, rfl, t2, hb2, he2, hx2, hi2, hj2, hB2⟩ := hcut
      have s2 := HS.out wc hx2
      have HE2 : Hid (PB PS B pb q r mv dv G1 G2 V V hs hd wc ∧ Below B w wc ∧ B ≤ wc.heap.size ∧ wc.heap[ib]? = some (.cells #[.int .i64 F1, .int .i64 F2, .int .i64 F3, .int .i64 F4, .string F5, .int .i64 (F6 : Nat)] 88) ∧ wc.heap[jb]? = some (.cells #[.int .i64 F1, .int .i64 F2, .int .i64 F3, .int .i64 F4, .string F5, .int .i64 (F6 : Nat)] 88)) := ⟨t2, hb2, hB2, hi2, hj2⟩
      clear t2 hb2 hx2 hi2 hj2 hB2 p1 s1 pz2 sz2
      go_wp2_with fail
      go_at_call 8
      refine (HT.out _ _ _ he2).mono ?_
      rintro e w3 ⟨rfl, hA3⟩
      obtain ⟨x0, x1, x2, x3, x4, x5, -⟩ := six_at (show w3.heap[ib]? = some (.cells #[.int .i64 F1, .int .i64 F2, .int .i64 F3, .int .i64 F4, .string F5, .int .i64 (F6 : Nat)] 88) by rw [hA3.heap]; exact HE2.out.2.2.2.1)
      obtain ⟨y0, y1, y2, y3, y4, y5, -⟩ := six_at (show w3.heap[jb]? = some (.cells #[.int .i64 F1, .int .i64 F2, .int .i64 F3, .int .i64 F4, .string F5, .int .i64 (F6 : Nat)] 88) by rw [hA3.heap]; exact HE2.out.2.2.2.2)
      have HA3 : Hid (Bx PS B pb (k + 1) w3 ∧ Below B w w3) := ⟨HEnd.out _ _ _ _ HE2.out.1 HE2.out.2.2.1 hA3.below, HE2.out.2.1.trans (hA3.below.mono HE2.out.2.2.1)⟩
      clear s2 hA3 he2
      go_wp2_with fail
      go_returns
      exact ⟨rfl, HA3.out⟩
set_option maxRecDepth 8000 in
set_option maxHeartbeats 8000000 in
theorem reads3 (C : PC PS) (B pb k : Nat) (n : Int) (a b : ByteArray) (m0 m1 m2 m3 : Int) (po : Option Addr) (pl pc : Nat) (co : Option Addr) (cl cc : Nat) (w : World) (h : Bx PS B pb k w) (hB : B ≤ w.heap.size) (hk : k < 2097151) :
    Calls Tryz.prog 27 #[.pointer (some ⟨pb, 0, none⟩), .agg #[.int .i64 3, .int .i64 n, .string a, .string b, .int .i64 m0, .int .i64 m1, .int .i64 m2, .int .i64 m3, .slice po pl pc, .slice co cl cc]] w fun e w' => e = .returned (.bool true) ∧ Bx PS B pb (k + 1) w' ∧ Below B w w' := by
  obtain ⟨q, r, mv, dv, Gp, Gr, v, hs, hd, T, hh, hv, hl⟩ := h
  obtain ⟨X, hX⟩ : ∃ X, X = Obj.cells #[.int .i64 3, .int .i64 n, .string a, .string b, .int .i64 m0, .int .i64 m1, .int .i64 m2, .int .i64 m3, .slice po pl pc, .slice co cl cc] 33 := ⟨_, rfl⟩
  have hbA : Below w.heap.size w (w.alloc X) := (Below.refl _ w).alloc (Nat.le_refl _) _
  have hsA : (w.alloc X).heap.size = w.heap.size + 1 := by simp
  have TA := T.below C hbA hB
  have hcn : v.cnt ≤ 4194304 := by have := hv.cnt; omega
  have hgl : ∀ k, Gr k → k < w.heap.size + 1 := fun k h => by have := T.rr.low k h; omega
  have HT : Hid (∀ (e : Nat) ev W, ErrIs W (w.heap.size + 1) ⟨#[108, 105, 115, 116]⟩ ⟨#[]⟩ e ev → Calls Tryz.prog 8 #[ev, .string ⟨#[108, 105, 115, 116]⟩, .string ⟨#[]⟩, .int .i64 e] W fun r w' => r = .returned (.bool true) ∧ Alike W w') := fun e ev W he => told_c _ _ _ _ _ _ he
  obtain ⟨E, hE⟩ : ∃ x, x = v.list.1.2 := ⟨_, rfl⟩
  obtain ⟨V, hV⟩ : ∃ x, x = v.list.2 := ⟨_, rfl⟩
  obtain ⟨L, hL⟩ : ∃ x, x = v.list.1.1 := ⟨_, rfl⟩
  have hLl : L.length ≤ 64 := by rw [hL]; exact list_len hv.wf
  have HS : Hid (∀ va vb W, RowS W va L → RowS W vb L → Calls Tryz.prog 9 #[va, vb] W fun e w' => e = .returned (.bool true) ∧ Alike W w') := fun va vb W h1 h2 => (same_c va vb L L W h1 h2 (by omega) (by omega)).mono (by
    rintro e w' ⟨rfl, n, rfl⟩
    exact ⟨by simp, Alike.drewN _ n⟩)
  have HP : Hid (Calls Tryz.prog 6 #[.pointer (some ⟨q, 0, none⟩)] (w.alloc X) fun e w' => ∃ ao c ev, e = .returned (.tuple #[.slice ao L.length c, ev]) ∧ PB PS B pb q r mv dv (ext Gp (w.alloc X) w') Gr V v hs hd w' ∧ Below B w w' ∧ w.heap.size + 1 ≤ w'.heap.size ∧ ErrIs w' (w.heap.size + 1) ⟨#[108, 105, 115, 116]⟩ ⟨#[]⟩ E ev ∧ w'.ownsRow (w.heap.size + 1) 9 1 (.slice ao L.length c) L.length (strV L)) := (fList_c C Gp q v _ TA.pp hv.wf hcn).mono (by
    rintro e w' ⟨x, ev, rfl, hx, he, hd'⟩
    obtain ⟨t, hb⟩ := TA.pdid (by omega) hd'
    have hs' := hd'.2.size
    rw [← hV] at t
    rw [← hE, hsA] at he
    rw [← hL, hsA] at hx
    obtain ⟨ao, c, rfl⟩ := own_shape hx
    exact ⟨ao, c, ev, rfl, t, (hbA.mono hB).trans hb, by omega, he, hx⟩)
  have HR : Hid (∀ G' wx, PB PS B pb q r mv dv G' Gr V v hs hd wx → B ≤ wx.heap.size → Calls Tryz.prog 7 #[.pointer (some ⟨r, 0, none⟩)] wx fun e w' => ∃ ao c, e = .returned (.tuple #[.slice ao L.length c, .int .i64 E]) ∧ PB PS B pb q r mv dv G' (ext Gr wx w') V V hs hd w' ∧ Below B wx w' ∧ RowS w' (.slice ao L.length c) L ∧ (∀ x, wx.ownsRow (w.heap.size + 1) 9 1 x L.length (strV L) → RowS w' x L) ∧ (∀ ev, ErrIs wx (w.heap.size + 1) ⟨#[108, 105, 115, 116]⟩ ⟨#[]⟩ E ev → ErrIs w' (w.heap.size + 1) ⟨#[108, 105, 115, 116]⟩ ⟨#[]⟩ E ev) ∧ wx.heap.size ≤ w'.heap.size) := fun G' wx t hBx => by
    refine (rList_c Gr r v wx t.rr hv.wf hcn).mono ?_
    rintro e w' ⟨⟨x, rfl, hx⟩, hd'⟩
    obtain ⟨t', hb⟩ := t.rdid C hBx hd'
    rw [← hV] at t'
    rw [← hL] at hx
    obtain ⟨ao, c, rfl⟩ := own_shape hx
    exact ⟨ao, c, by rw [hE], t', hb, RowS.of_own hx, fun y hy => RowS.of_own (own_keep hy fun k hk => hd'.2.block k (hy.lt k hk).2 (fun h' => by have := T.rr.low _ h'; have := (hy.lt k hk).1; omega)), fun ev he => he.kept hd'.2 hgl, hd'.2.size⟩
  have HEnd : Hid (∀ G' G'' W W', PB PS B pb q r mv dv G' G'' V V hs hd W → B ≤ W.heap.size → Below W.heap.size W W' → Bx PS B pb (k + 1) W') := fun G' G'' W W' t hBx hA => ⟨q, r, mv, dv, G', G'', V, hs, hd, t.below C hA hBx, hh, by rw [hV]; exact hv.list, by omega⟩
  have p0 := TA.cells.1
  obtain ⟨LL, hLL⟩ : ∃ n, n = L.length := ⟨_, rfl⟩
  rw [← hLL] at HP HR
  clear hh hv hl hcn hgl hE hV hL T TA hbA hsA hLl hLL
  subst hX
  go_enter Tryz.func27, Tryz.ntmps27
  go_wp2_with (first
    | (go_at_call 6; refine HP.out.mono ?_; rintro e w1 ⟨ao, c, ev, rfl, t1, hb1, hl1, he1, ho1⟩; have p1 := t1.cells.2.1; have hB1 : B ≤ w1.heap.size := (by omega); have t1' := t1; clear t1)
    | (go_at_call 7; refine (HR.out _ w1 t1' hB1).mono ?_; rintro e w2 ⟨ao2, c2, rfl, t2, hb2, ho2, ho3, he2, hl2⟩; have he2' := he2 ev he1; have ho3' := ho3 _ ho1; clear he2 he1 ho3 ho1)
    | (go_at_call 9; refine (HS.out _ _ _ ho3' ho2).mono ?_; rintro e w3 ⟨rfl, hA3⟩; have he3 := he2'.below hA3.below)
    | (go_at_call 8; refine (HT.out _ _ _ he3).mono ?_; rintro e w4 ⟨rfl, hA4⟩))
  go_returns
  have hA34 : Below w2.heap.size w2 w4 := hA3.below.trans (hA4.below.mono hA3.below.size)
  exact ⟨rfl, HEnd.out _ _ w2 _ t2 (by omega) hA34, (hb1.trans hb2).trans (hA34.mono (by omega))⟩
end Go.Proofs.YtloljimabapicacGreat
