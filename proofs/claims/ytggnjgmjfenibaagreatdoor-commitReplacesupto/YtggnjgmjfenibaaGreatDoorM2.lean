import Derived.Test.YtggnjgmjfenibaaGreatDoorU10
import Derived.Deep.DrawnRows
import Derived.Test.YtggnjgmjfenibaaGreatDoorR2z
import Derived.Deep.RegionWith

-- Stat of the volume.
namespace Go.Proofs.YtggnjgmjfenibaaGreatDoor
open Go.RowKit
set_option linter.unusedVariables false
variable {PS : (Nat → Prop) → Nat → St → World → Prop}
attribute [local go_sem ↓] Go.wp_at_zero Go.wp_at_succ
theorem six_at {w : World} {r : Nat} {c0 c1 c2 c3 c4 c5 : Value} {t : TypeId} (h : w.heap[r]? = some (.cells #[c0, c1, c2, c3, c4, c5] t (0, 0))) : w.cell? ⟨r, 0, none⟩ = some c0 ∧ w.cell? ⟨r, 1, none⟩ = some c1 ∧ w.cell? ⟨r, 2, none⟩ = some c2 ∧ w.cell? ⟨r, 3, none⟩ = some c3 ∧ w.cell? ⟨r, 4, none⟩ = some c4 ∧ w.cell? ⟨r, 5, none⟩ = some c5 ∧ w.frozen? ⟨r, 0, none⟩ = false ∧ w.frozen? ⟨r, 1, none⟩ = false ∧ w.frozen? ⟨r, 2, none⟩ = false ∧ w.frozen? ⟨r, 3, none⟩ = false ∧ w.frozen? ⟨r, 4, none⟩ = false ∧ w.frozen? ⟨r, 5, none⟩ = false := by
  refine ⟨?_, ?_, ?_, ?_, ?_, ?_, Lib.frozen_of_heap h 0, Lib.frozen_of_heap h 1, Lib.frozen_of_heap h 2, Lib.frozen_of_heap h 3, Lib.frozen_of_heap h 4, Lib.frozen_of_heap h 5⟩ <;> (rw [Lib.cell_of_heap h]; rfl)
theorem VDid.six (C : PC PS) {G : Nat → Prop} {q : Nat} {v : Vs} {w0 w : World} (h : PV PS G q v w) (hk : Kp G w0 w) {r : Nat} (hr : ¬ G r) (hr0 : w0.heap.size ≤ r) (v0 v1 v2 v3 v4 v5 : Value) : VDid PS G q v w0 ((((((w.setCell ⟨r, 0, none⟩ v0).setCell ⟨r, 1, none⟩ v1).setCell ⟨r, 2, none⟩ v2).setCell ⟨r, 3, none⟩ v3).setCell ⟨r, 4, none⟩ v4).setCell ⟨r, 5, none⟩ v5) := by
  obtain ⟨p, m, Fd, O⟩ := h
  exact VDid.of ⟨p, m, Fd, (((((O.beside C hr 0 v0).beside C hr 1 v1).beside C hr 2 v2).beside C hr 3 v3).beside C hr 4 v4).beside C hr 5 v5⟩ ((((((hk.set hr0 0 v0).set hr0 1 v1).set hr0 2 v2).set hr0 3 v3).set hr0 4 v4).set hr0 5 v5)
theorem ErrIs.six {w : World} {B : Nat} {op name : ByteArray} {e : Nat} {ev : Value} (h : ErrIs w B op name e ev) {r : Nat} (hr : r < B) (v0 v1 v2 v3 v4 v5 : Value) : ErrIs ((((((w.setCell ⟨r, 0, none⟩ v0).setCell ⟨r, 1, none⟩ v1).setCell ⟨r, 2, none⟩ v2).setCell ⟨r, 3, none⟩ v3).setCell ⟨r, 4, none⟩ v4).setCell ⟨r, 5, none⟩ v5) B op name e ev := by
  rcases h with h | ⟨h0, b, h1, h2, h3⟩
  · exact .inl h
  · refine .inr ⟨h0, b, h1, h2, ?_⟩
    have ne : b ≠ r := by omega
    rw [Below.heap_setCell _ _ _ _ ne, Below.heap_setCell _ _ _ _ ne, Below.heap_setCell _ _ _ _ ne, Below.heap_setCell _ _ _ _ ne, Below.heap_setCell _ _ _ _ ne, Below.heap_setCell _ _ _ _ ne]
    exact h3
set_option maxRecDepth 8000 in
set_option maxHeartbeats 8000000 in
theorem fStat_c (C : PC PS) (G : Nat → Prop) (q : Nat) (v : Vs) (name : ByteArray) (w : World) (h : PV PS G q v w) (hw : Wf v.st) (hn : v.cnt ≤ 4194304) :
    Calls Tryz.prog 27 #[.pointer (some ⟨q, 0, none⟩), .string name] w fun e w' => ∃ ev, e = .returned (.tuple #[.agg (stV v name), ev]) ∧ ErrIs w' w.heap.size ⟨#[115, 116, 97, 116]⟩ name (v.stat name).1.2 ev ∧ VDid PS G q (v.stat name).2 w w' := by
  obtain ⟨X, hX⟩ : ∃ X, X = Obj.cells #[.int .i64 0, .int .i64 0, .int .i64 0, .int .i64 0, .string ⟨#[]⟩, .int .i64 0] 72 := ⟨_, rfl⟩
  have hbA : Below w.heap.size w (w.alloc X) := (Below.refl _ w).alloc (Nat.le_refl _) X
  have hsA : (w.alloc X).heap.size = w.heap.size + 1 := by simp
  have hXA : (w.alloc X).heap[w.heap.size]? = some (.cells #[.int .i64 0, .int .i64 0, .int .i64 0, .int .i64 0, .string ⟨#[]⟩, .int .i64 0] 72 (0, 0)) := by rw [heap_alloc_new, hX]
  have hGr : ¬ G w.heap.size := fun h' => by have := h.low _ h'; omega
  have HDev : Hid (Calls Tryz.prog 37 #[.pointer (some ⟨q, 0, none⟩)] (w.alloc X) fun e w' => e = .returned (.iface 135 (.pointer (some ⟨q, 0, none⟩))) ∧ w' = w.alloc X) := device_c G q v _ (h.below C hbA)
  obtain ⟨F1, hF1⟩ : ∃ x, x = (v.stat name).1.1.2.date := ⟨_, rfl⟩
  obtain ⟨F2, hF2⟩ : ∃ x, x = (v.stat name).1.1.2.uid := ⟨_, rfl⟩
  obtain ⟨F3, hF3⟩ : ∃ x, x = (v.stat name).1.1.2.gid := ⟨_, rfl⟩
  obtain ⟨F4, hF4⟩ : ∃ x, x = (v.stat name).1.1.2.mode := ⟨_, rfl⟩
  obtain ⟨F5, hF5⟩ : ∃ x, x = (v.stat name).1.1.1 := ⟨_, rfl⟩
  obtain ⟨F6, hF6⟩ : ∃ x, x = (v.stat name).1.1.2.data.size := ⟨_, rfl⟩
  obtain ⟨E, hE⟩ : ∃ x, x = (v.stat name).1.2 := ⟨_, rfl⟩
  obtain ⟨V, hV⟩ : ∃ x, x = (v.stat name).2 := ⟨_, rfl⟩
  have hsv : stV v name = #[.int .i64 F1, .int .i64 F2, .int .i64 F3, .int .i64 F4, .string F5, .int .i64 F6] := by unfold stV; rw [hF1, hF2, hF3, hF4, hF5, hF6]
  have HC : Hid (Calls Tryz.prog 186 #[.pointer (some ⟨q, 0, none⟩), .string name] (w.alloc X) fun e w' => e = .returned (.tuple #[.agg #[.int .i64 F1, .int .i64 F2, .int .i64 F3, .int .i64 F4, .string F5, .int .i64 F6], .int .i64 E]) ∧ (∃ G', PV PS G' q V w' ∧ (∀ k, G' k → ext G w w' k) ∧ ¬ G' w.heap.size) ∧ Kp G w w' ∧ w'.heap[w.heap.size]? = some (.cells #[.int .i64 0, .int .i64 0, .int .i64 0, .int .i64 0, .string ⟨#[]⟩, .int .i64 0] 72 (0, 0)) ∧ w.heap.size < w'.heap.size) := by
    refine (dStat_c C G q v name _ (h.below C hbA) hw hn).mono ?_
    rintro e w' ⟨rfl, h1, h2⟩
    rw [hsv, hE, hV]
    have h2s := h2.size
    refine ⟨rfl, ⟨_, h1, fun k hk => ?_, fun hk => ?_⟩, (Kp.of_below hbA).trans h2, (h2.block _ (by omega) hGr).trans hXA, by omega⟩
    · rcases hk with hk | hk
      · exact .inl hk
      · exact .inr ⟨by omega, hk.2⟩
    · rcases hk with hk | hk
      · exact hGr hk
      · omega
  rw [hsv, ← hE, ← hV]
  have HFa : Hid (∀ (w1 : World), (∃ G', PV PS G' q V w1 ∧ (∀ k, G' k → ext G w w1 k) ∧ ¬ G' w.heap.size) → Kp G w w1 → w1.heap[w.heap.size]? = some (.cells #[.int .i64 0, .int .i64 0, .int .i64 0, .int .i64 0, .string ⟨#[]⟩, .int .i64 0] 72 (0, 0)) → w.heap.size < w1.heap.size → ∀ W, Alike (w1.alloc (.cells #[.int .i64 F1, .int .i64 F2, .int .i64 F3, .int .i64 F4, .string F5, .int .i64 F6] 72)) W → Calls Tryz.prog 55 #[.string ⟨#[115, 116, 97, 116]⟩, .string name, .int .i64 E] W fun r w' => ∃ ev, r = .returned ev ∧ ErrIs w' (w.heap.size + 1) ⟨#[115, 116, 97, 116]⟩ name E ev ∧ (∃ G', PV PS G' q V w' ∧ (∀ k, G' k → ext G w w' k) ∧ ¬ G' w.heap.size) ∧ Kp G w w' ∧ w'.heap[w.heap.size]? = some (.cells #[.int .i64 0, .int .i64 0, .int .i64 0, .int .i64 0, .string ⟨#[]⟩, .int .i64 0] 72 (0, 0)) ∧ w'.heap[w1.heap.size]? = some (.cells #[.int .i64 F1, .int .i64 F2, .int .i64 F3, .int .i64 F4, .string F5, .int .i64 F6] 72 (0, 0))) := fun w1 hV1 hk1 hx1 hl1 W hA => by
    have hb1 : Below w1.heap.size w1 (w1.alloc (.cells #[.int .i64 F1, .int .i64 F2, .int .i64 F3, .int .i64 F4, .string F5, .int .i64 F6] 72)) := (Below.refl _ w1).alloc (Nat.le_refl _) _
    have hbW : Below w1.heap.size w1 W := hb1.trans (hA.below.mono hb1.size)
    have hWx : W.heap[w1.heap.size]? = some (.cells #[.int .i64 F1, .int .i64 F2, .int .i64 F3, .int .i64 F4, .string F5, .int .i64 F6] 72 (0, 0)) := by rw [hA.heap]; exact heap_alloc_new _ _
    have hWs : W.heap.size = w1.heap.size + 1 := by rw [hA.heap]; simp
    refine (failed_c _ _ E W).mono ?_
    rintro r w' ⟨ev, rfl, he, hb⟩
    have hbb := hbW.trans (hb.mono hbW.size)
    have hbs := hbb.size
    obtain ⟨G', g1, g2, g3⟩ := hV1
    refine ⟨ev, rfl, he.low (by omega), ⟨G', g1.below C hbb, fun k hk => ?_, g3⟩, hk1.kept hbb, (hbb.block _ hl1).trans hx1, (hb.block _ (by omega)).trans hWx⟩
    rcases g2 k hk with hk | hk
    · exact .inl hk
    · exact .inr ⟨hk.1, by omega⟩
  have HEnd : Hid (∀ (w2 : World) ev, ErrIs w2 (w.heap.size + 1) ⟨#[115, 116, 97, 116]⟩ name E ev → (∃ G', PV PS G' q V w2 ∧ (∀ k, G' k → ext G w w2 k) ∧ ¬ G' w.heap.size) → Kp G w w2 → ∀ v0 v1 v2 v3 v4 v5 : Value, ErrIs ((((((w2.setCell ⟨w.heap.size, 0, none⟩ v0).setCell ⟨w.heap.size, 1, none⟩ v1).setCell ⟨w.heap.size, 2, none⟩ v2).setCell ⟨w.heap.size, 3, none⟩ v3).setCell ⟨w.heap.size, 4, none⟩ v4).setCell ⟨w.heap.size, 5, none⟩ v5) w.heap.size ⟨#[115, 116, 97, 116]⟩ name E ev ∧ VDid PS G q V w ((((((w2.setCell ⟨w.heap.size, 0, none⟩ v0).setCell ⟨w.heap.size, 1, none⟩ v1).setCell ⟨w.heap.size, 2, none⟩ v2).setCell ⟨w.heap.size, 3, none⟩ v3).setCell ⟨w.heap.size, 4, none⟩ v4).setCell ⟨w.heap.size, 5, none⟩ v5)) := fun w2 ev he hV2 hk2 v0 v1 v2 v3 v4 v5 => by
    obtain ⟨G', g1, g2, g3⟩ := hV2
    have hd := VDid.six C g1 (Kp.mono' (Kp.of_below (Below.refl w2.heap.size w2)) (fun k hk => hk)) g3 (w0 := w2) (r := w.heap.size)
    refine ⟨(he.six (Nat.lt_succ_self _) _ _ _ _ _ _).low (Nat.le_succ _), ?_, ((((((hk2.set (Nat.le_refl _) 0 v0).set (Nat.le_refl _) 1 v1).set (Nat.le_refl _) 2 v2).set (Nat.le_refl _) 3 v3).set (Nat.le_refl _) 4 v4).set (Nat.le_refl _) 5 v5)⟩
    obtain ⟨p, m, Fd, O⟩ := g1
    have O6 := (((((O.beside C g3 0 v0).beside C g3 1 v1).beside C g3 2 v2).beside C g3 3 v3).beside C g3 4 v4).beside C g3 5 v5
    have hs6 : ((((((w2.setCell ⟨w.heap.size, 0, none⟩ v0).setCell ⟨w.heap.size, 1, none⟩ v1).setCell ⟨w.heap.size, 2, none⟩ v2).setCell ⟨w.heap.size, 3, none⟩ v3).setCell ⟨w.heap.size, 4, none⟩ v4).setCell ⟨w.heap.size, 5, none⟩ v5).heap.size = w2.heap.size := by simp [World.setCell]
    refine ⟨p, m, Fd, O6.mono (fun k hk => ?_) (fun k hk => ?_)⟩
    · unfold ext; rw [hs6]; exact g2 k hk
    · unfold ext at hk; rw [hs6] at hk ⊢
      have := hk2.size
      rcases hk with hk | hk
      · have := h.low k hk; omega
      · exact hk.2
  clear h hw hn hbA hsA hXA hGr hF1 hF2 hF3 hF4 hF5 hF6 hE hV hsv
  subst hX
  go_enter Tryz.func27, Tryz.ntmps27
  go_wp2_with (first
    | (go_at_call 37; refine HDev.out.mono ?_; rintro e w0 ⟨rfl, hw0⟩; subst w0)
    | (go_at_call 186; refine HC.out.mono ?_; rintro e w1 ⟨rfl, hV1, hk1, hx1, hl1⟩; have HFW : Hid (∀ W, Alike (w1.alloc (.cells #[.int .i64 F1, .int .i64 F2, .int .i64 F3, .int .i64 F4, .string F5, .int .i64 F6] 72)) W → Calls Tryz.prog 55 #[.string ⟨#[115, 116, 97, 116]⟩, .string name, .int .i64 E] W fun r w' => ∃ ev, r = .returned ev ∧ ErrIs w' (w.heap.size + 1) ⟨#[115, 116, 97, 116]⟩ name E ev ∧ (∃ G', PV PS G' q V w' ∧ (∀ k, G' k → ext G w w' k) ∧ ¬ G' w.heap.size) ∧ Kp G w w' ∧ w'.heap[w.heap.size]? = some (.cells #[.int .i64 0, .int .i64 0, .int .i64 0, .int .i64 0, .string ⟨#[]⟩, .int .i64 0] 72 (0, 0)) ∧ w'.heap[w1.heap.size]? = some (.cells #[.int .i64 F1, .int .i64 F2, .int .i64 F3, .int .i64 F4, .string F5, .int .i64 F6] 72 (0, 0))) := (HFa.out w1 hV1 hk1 hx1 hl1); clear hV1 hk1 hx1))
  go_region_with (go_at_call 55; refine (HFW.out _ (Alike.mk ?_ ?_ ?_ ?_)).mono ?_; rfl; rfl; rfl; rfl; rintro e w2 ⟨ev, rfl, he, hV2, hk2, hx2, hy2⟩; obtain ⟨x0, x1, x2, x3, x4, x5, f0, f1, f2, f3, f4, f5⟩ := six_at hx2; obtain ⟨y0, y1, y2, y3, y4, y5, -⟩ := six_at hy2)
  all_goals
    go_wp2
    refine bodyPost_ret (results_cell_tmp1 rfl _ _ w.heap.size _ _ _ _ rfl (six_set hx2 _ _ _ _ _ _) Tryz.underlying72 rfl sizeInf4) rfl ?_
    obtain ⟨r1, r2⟩ := HEnd.out w2 ev he hV2 hk2 (.int .i64 F1) (.int .i64 F2) (.int .i64 F3) (.int .i64 F4) (.string F5) (.int .i64 F6)
    exact ⟨ev, rfl, r1, r2⟩
end Go.Proofs.YtggnjgmjfenibaaGreatDoor

-- The calls of the document's volume.
namespace Go.Proofs.YtggnjgmjfenibaaGreatDoor
open Go.RowKit
set_option linter.unusedVariables false
attribute [local go_sem ↓] Go.wp_at_zero Go.wp_at_succ
theorem RVo.cell0 {G Fd : Nat → Prop} {r d : Nat} {pv : Value} {v : Vs} {w : World} (O : RVo G r v w d pv Fd) : w.cell? ⟨r, 0, none⟩ = some (.pointer (some ⟨d, 0, none⟩)) := O.cells.1
theorem RVo.did0 {G Fd : Nat → Prop} {r d : Nat} {pv : Value} {v : Vs} {w w' : World} {st : St} (O : RVo G r v w d pv Fd) (h : Did Fd d st w w') : RDid G r (v.on st) w w' := ⟨⟨d, pv, _, (O.did h).1⟩, (O.did h).2⟩
set_option maxHeartbeats 4000000 in
theorem rRename_c (G : Nat → Prop) (r : Nat) (v : Vs) (old to : ByteArray) (w : World) (h : RV G r v w) (hw : Wf v.st) (hn : v.cnt ≤ 4194304) :
    Calls Tryz.prog 53 #[.pointer (some ⟨r, 0, none⟩), .string old, .string to] w fun e w' => e = .returned (.int .i64 (v.rename old to).1) ∧ RDid G r (v.rename old to).2 w w' := by
  have HRef : Hid (Calls Tryz.prog 56 #[.pointer (some ⟨r, 0, none⟩)] w fun e w' => e = .returned (.tuple #[.int .i64 v.met.1, .int .i64 v.sh]) ∧ RV G r v.met.2 w' ∧ Kp G w w') := meets_c G r v w h hn
  have hs := met_st v
  by_cases hm : v.met.1 = 0
  · have HE : Hid (v.rename old to = ((v.st.rename old to).1, v.met.2.on (v.st.rename old to).2)) := by show _ = _; unfold Vs.rename; rw [if_neg (by simp [hm])]
    have HV : Hid (∀ d pv Fd w1, RVo G r v.met.2 w1 d pv Fd → Kp G w w1 → Calls Tryz.prog 75 #[.pointer (some ⟨d, 0, none⟩), .string old, .string to] w1 fun e w' => e = .returned (.int .i64 (v.st.rename old to).1) ∧ RDid G r (v.met.2.on (v.st.rename old to).2) w w') := fun d pv Fd w1 O hk => by
      obtain ⟨bv, dv, dvs, hd⟩ := O.disk
      refine (rename_c Fd d v.met.2.st bv dv dvs old to w1 hd (by rw [hs]; exact hw)).mono ?_
      rintro e w' ⟨rfl, h1⟩
      rw [hs] at h1 ⊢
      exact ⟨rfl, RDid.after ⟨d, pv, Fd, O⟩ hk (O.did0 h1)⟩
    rw [hm] at HRef
    clear h hw hn hm hs
    go_enter Tryz.func53, Tryz.ntmps53
    go_wp2_with (first
      | (go_at_call 56; refine HRef.out.mono ?_; rintro e w1 ⟨rfl, ⟨d, pv, Fd, O1⟩, hk1⟩; have c0 := O1.cell0)
      | (go_at_call 75; refine (HV.out d pv Fd _ O1 hk1).mono ?_; rintro e w2 ⟨rfl, hd⟩))
    go_returns
    rw [HE.out]
    exact ⟨rfl, hd⟩
  · have HE : Hid (v.rename old to = (v.met.1, v.met.2)) := by show _ = _; unfold Vs.rename; rw [if_pos hm]
    have HOf : Hid (∀ W, RV G r v.met.2 W → Kp G w W → RDid G r v.met.2 w W) := fun W h1 h2 => RDid.of h1 h2
    have b1 : ((v.met.1 : Int) == 0) = false := by simp; omega
    obtain ⟨E, hE⟩ : ∃ E, E = v.met.1 := ⟨_, rfl⟩
    rw [← hE] at HRef HE b1
    have b2 : ((E : Int) != 0) = true := by simp [bne, b1]
    clear hm hE h hn hw hs
    go_enter Tryz.func53, Tryz.ntmps53
    go_wp2_with (go_at_call 56; refine HRef.out.mono ?_; rintro e w1 ⟨rfl, hv1, hk1⟩)
    go_returns
    rw [HE.out]
    exact ⟨rfl, HOf.out _ hv1 hk1⟩
set_option maxHeartbeats 4000000 in
theorem rRemove_c (G : Nat → Prop) (r : Nat) (v : Vs) (name : ByteArray) (w : World) (h : RV G r v w) (hw : Wf v.st) (hn : v.cnt ≤ 4194304) :
    Calls Tryz.prog 54 #[.pointer (some ⟨r, 0, none⟩), .string name] w fun e w' => e = .returned (.int .i64 (v.remove name).1) ∧ RDid G r (v.remove name).2 w w' := by
  have HRef : Hid (Calls Tryz.prog 56 #[.pointer (some ⟨r, 0, none⟩)] w fun e w' => e = .returned (.tuple #[.int .i64 v.met.1, .int .i64 v.sh]) ∧ RV G r v.met.2 w' ∧ Kp G w w') := meets_c G r v w h hn
  have hs := met_st v
  by_cases hm : v.met.1 = 0
  · have HE : Hid (v.remove name = ((v.st.remove name).1, v.met.2.on (v.st.remove name).2)) := by show _ = _; unfold Vs.remove; rw [if_neg (by simp [hm])]
    have HV : Hid (∀ d pv Fd w1, RVo G r v.met.2 w1 d pv Fd → Kp G w w1 → Calls Tryz.prog 76 #[.pointer (some ⟨d, 0, none⟩), .string name] w1 fun e w' => e = .returned (.int .i64 (v.st.remove name).1) ∧ RDid G r (v.met.2.on (v.st.remove name).2) w w') := fun d pv Fd w1 O hk => by
      obtain ⟨bv, dv, dvs, hd⟩ := O.disk
      refine (remove_c Fd d v.met.2.st bv dv dvs name w1 hd (by rw [hs]; exact hw)).mono ?_
      rintro e w' ⟨rfl, h1⟩
      rw [hs] at h1 ⊢
      exact ⟨rfl, RDid.after ⟨d, pv, Fd, O⟩ hk (O.did0 h1)⟩
    rw [hm] at HRef
    clear h hw hn hm hs
    go_enter Tryz.func54, Tryz.ntmps54
    go_wp2_with (first
      | (go_at_call 56; refine HRef.out.mono ?_; rintro e w1 ⟨rfl, ⟨d, pv, Fd, O1⟩, hk1⟩; have c0 := O1.cell0)
      | (go_at_call 76; refine (HV.out d pv Fd _ O1 hk1).mono ?_; rintro e w2 ⟨rfl, hd⟩))
    go_returns
    rw [HE.out]
    exact ⟨rfl, hd⟩
  · have HE : Hid (v.remove name = (v.met.1, v.met.2)) := by show _ = _; unfold Vs.remove; rw [if_pos hm]
    have HOf : Hid (∀ W, RV G r v.met.2 W → Kp G w W → RDid G r v.met.2 w W) := fun W h1 h2 => RDid.of h1 h2
    have b1 : ((v.met.1 : Int) == 0) = false := by simp; omega
    obtain ⟨E, hE⟩ : ∃ E, E = v.met.1 := ⟨_, rfl⟩
    rw [← hE] at HRef HE b1
    have b2 : ((E : Int) != 0) = true := by simp [bne, b1]
    clear hm hE h hn hw hs
    go_enter Tryz.func54, Tryz.ntmps54
    go_wp2_with (go_at_call 56; refine HRef.out.mono ?_; rintro e w1 ⟨rfl, hv1, hk1⟩)
    go_returns
    rw [HE.out]
    exact ⟨rfl, HOf.out _ hv1 hk1⟩
set_option maxHeartbeats 4000000 in
theorem rSyncDir_c (G : Nat → Prop) (r : Nat) (v : Vs)  (w : World) (h : RV G r v w) (hw : Wf v.st) (hn : v.cnt ≤ 4194304) :
    Calls Tryz.prog 46 #[.pointer (some ⟨r, 0, none⟩)] w fun e w' => e = .returned (.int .i64 v.syncDir.1) ∧ RDid G r (v.syncDir).2 w w' := by
  have HRef : Hid (Calls Tryz.prog 56 #[.pointer (some ⟨r, 0, none⟩)] w fun e w' => e = .returned (.tuple #[.int .i64 v.met.1, .int .i64 v.sh]) ∧ RV G r v.met.2 w' ∧ Kp G w w') := meets_c G r v w h hn
  have hs := met_st v
  by_cases hm : v.met.1 = 0
  · have HE : Hid (v.syncDir = (0, v.met.2.on v.st.syncDir)) := by show _ = _; unfold Vs.syncDir; rw [if_neg (by simp [hm])]
    have HV : Hid (∀ d pv Fd w1, RVo G r v.met.2 w1 d pv Fd → Kp G w w1 → Calls Tryz.prog 68 #[.pointer (some ⟨d, 0, none⟩)] w1 fun e w' => e = .returned (.tuple #[]) ∧ RDid G r (v.met.2.on v.st.syncDir) w w') := fun d pv Fd w1 O hk => by
      obtain ⟨bv, dv, dvs, hd⟩ := O.disk
      refine (syncDir_c Fd d v.met.2.st bv dv dvs w1 hd (by rw [hs]; exact hw)).mono ?_
      rintro e w' ⟨rfl, h1⟩
      rw [hs] at h1
      exact ⟨rfl, RDid.after ⟨d, pv, Fd, O⟩ hk (O.did0 h1)⟩
    rw [hm] at HRef
    clear h hw hn hm hs
    go_enter Tryz.func46, Tryz.ntmps46
    go_wp2_with (first
      | (go_at_call 56; refine HRef.out.mono ?_; rintro e w1 ⟨rfl, ⟨d, pv, Fd, O1⟩, hk1⟩; have c0 := O1.cell0)
      | (go_at_call 68; refine (HV.out d pv Fd _ O1 hk1).mono ?_; rintro e w2 ⟨rfl, hd⟩))
    go_returns
    rw [HE.out]
    exact ⟨rfl, hd⟩
  · have HE : Hid (v.syncDir = (v.met.1, v.met.2)) := by show _ = _; unfold Vs.syncDir; rw [if_pos hm]
    have HOf : Hid (∀ W, RV G r v.met.2 W → Kp G w W → RDid G r v.met.2 w W) := fun W h1 h2 => RDid.of h1 h2
    have b1 : ((v.met.1 : Int) == 0) = false := by simp; omega
    obtain ⟨E, hE⟩ : ∃ E, E = v.met.1 := ⟨_, rfl⟩
    rw [← hE] at HRef HE b1
    have b2 : ((E : Int) != 0) = true := by simp [bne, b1]
    clear hm hE h hn hw hs
    go_enter Tryz.func46, Tryz.ntmps46
    go_wp2_with (go_at_call 56; refine HRef.out.mono ?_; rintro e w1 ⟨rfl, hv1, hk1⟩)
    go_returns
    rw [HE.out]
    exact ⟨rfl, HOf.out _ hv1 hk1⟩
set_option maxHeartbeats 4000000 in
theorem rList_c (G : Nat → Prop) (r : Nat) (v : Vs) (w : World) (h : RV G r v w) (hw : Wf v.st) (hn : v.cnt ≤ 4194304) :
    Calls Tryz.prog 30 #[.pointer (some ⟨r, 0, none⟩)] w fun e w' => (∃ x, e = .returned (.tuple #[x, .int .i64 v.list.1.2]) ∧ w'.ownsRow w.heap.size 9 1 x v.list.1.1.length (strV v.list.1.1)) ∧ RDid G r v.list.2 w w' := by
  have HRef : Hid (Calls Tryz.prog 56 #[.pointer (some ⟨r, 0, none⟩)] w fun e w' => e = .returned (.tuple #[.int .i64 v.met.1, .int .i64 v.sh]) ∧ RV G r v.met.2 w' ∧ Kp G w w') := meets_c G r v w h hn
  have hs := met_st v
  by_cases hm : v.met.1 = 0
  · have HE : Hid (v.list = ((v.st.names, 0), v.met.2)) := by show _ = _; unfold Vs.list; rw [if_neg (by simp [hm])]
    have HV : Hid (∀ d pv Fd w1, RVo G r v.met.2 w1 d pv Fd → Kp G w w1 → Calls Tryz.prog 59 #[.pointer (some ⟨d, 0, none⟩)] w1 fun e w' => ∃ x, e = .returned x ∧ w'.ownsRow w.heap.size 9 1 x v.st.names.length (strV v.st.names) ∧ RDid G r v.met.2 w w') := fun d pv Fd w1 O hk => by
      obtain ⟨bv, dv, dvs, hd⟩ := O.disk
      refine (names_c Fd d v.met.2.st bv dv dvs w1 hd (by rw [hs]; exact hw)).mono ?_
      rintro e w' ⟨⟨x, rfl, hx⟩, hb⟩
      rw [hs] at hx
      exact ⟨x, rfl, own_mono hx hk.size, RDid.of ⟨d, pv, Fd, O.below hb⟩ (hk.kept hb)⟩
    rw [hm] at HRef
    clear h hw hn hm hs
    go_enter Tryz.func30, Tryz.ntmps30
    go_wp2_with (first
      | (go_at_call 56; refine HRef.out.mono ?_; rintro e w1 ⟨rfl, ⟨d, pv, Fd, O1⟩, hk1⟩; have c0 := O1.cell0)
      | (go_at_call 59; refine (HV.out d pv Fd _ O1 hk1).mono ?_; rintro e w2 ⟨x, rfl, hx, hd⟩))
    go_returns
    rw [HE.out]
    exact ⟨⟨x, rfl, hx⟩, hd⟩
  · have HE : Hid (v.list = (([], v.met.1), v.met.2)) := by show _ = _; unfold Vs.list; rw [if_pos hm]
    have HOf : Hid (∀ W, RV G r v.met.2 W → Kp G w W → RDid G r v.met.2 w W) := fun W h1 h2 => RDid.of h1 h2
    have b1 : ((v.met.1 : Int) == 0) = false := by simp; omega
    obtain ⟨E, hE⟩ : ∃ E, E = v.met.1 := ⟨_, rfl⟩
    rw [← hE] at HRef HE b1
    have b2 : ((E : Int) != 0) = true := by simp [bne, b1]
    clear hm hE h hn hw hs
    go_enter Tryz.func30, Tryz.ntmps30
    go_wp2_with (go_at_call 56; refine HRef.out.mono ?_; rintro e w1 ⟨rfl, hv1, hk1⟩)
    go_returns
    rw [HE.out]
    exact ⟨⟨_, rfl, World.ownsRow_nil _ _ _ _⟩, HOf.out _ hv1 hk1⟩
set_option maxHeartbeats 4000000 in
theorem rRead_c (G : Nat → Prop) (r : Nat) (v : Vs) (name : ByteArray) (w : World) (h : RV G r v w) (hw : Wf v.st) (hn : v.cnt ≤ 4194304) :
    Calls Tryz.prog 26 #[.pointer (some ⟨r, 0, none⟩), .string name] w fun e w' => e = .returned (.tuple #[.string (v.read name).1.1, .int .i64 (v.read name).1.2]) ∧ RDid G r (v.read name).2 w w' := by
  have HRef : Hid (Calls Tryz.prog 56 #[.pointer (some ⟨r, 0, none⟩)] w fun e w' => e = .returned (.tuple #[.int .i64 v.met.1, .int .i64 v.sh]) ∧ RV G r v.met.2 w' ∧ Kp G w w') := meets_c G r v w h hn
  have hs := met_st v
  have HAL : Hid (∀ d pv Fd w1 W, RVo G r v.met.2 w1 d pv Fd → Kp G w w1 → Below w1.heap.size w1 W → RVo G r v.met.2 W d pv Fd ∧ Kp G w W ∧ RDid G r v.met.2 w W ∧ W.cell? ⟨r, 0, none⟩ = some (.pointer (some ⟨d, 0, none⟩))) := fun d pv Fd w1 W O hk hb => ⟨O.below hb, hk.kept hb, RDid.of ⟨d, pv, Fd, O.below hb⟩ (hk.kept hb), (O.below hb).cell0⟩
  by_cases hm : v.met.1 = 0
  · have HF : Hid (∀ d pv Fd w1, RVo G r v.met.2 w1 d pv Fd → Calls Tryz.prog 57 #[.pointer (some ⟨d, 0, none⟩), .string name] w1 fun e w' => e = .returned (.tuple #[.agg #[.int .i64 (v.st.find name).1.2.date, .int .i64 (v.st.find name).1.2.uid, .int .i64 (v.st.find name).1.2.gid, .int .i64 (v.st.find name).1.2.mode, .string (v.st.find name).1.1, .int .i64 (v.st.find name).1.2.data.size], .int .i64 (v.st.find name).2.1, .int .i64 (v.st.find name).2.2]) ∧ Below w1.heap.size w1 w') := fun d pv Fd w1 O => by
      obtain ⟨bv, dv, dvs, hd⟩ := O.disk
      refine (find_c Fd d v.met.2.st bv dv dvs name w1 hd (by rw [hs]; exact hw)).mono ?_
      rintro e w' ⟨rfl, hb⟩
      rw [hs]
      exact ⟨rfl, hb⟩
    have HR : Hid (∀ d pv Fd w1, RVo G r v.met.2 w1 d pv Fd → Calls Tryz.prog 58 #[.pointer (some ⟨d, 0, none⟩), .int .i64 (v.st.find name).2.1] w1 fun e w' => e = .returned (.tuple #[.string (v.st.read (v.st.find name).2.1).1, .int .i64 (v.st.read (v.st.find name).2.1).2]) ∧ Below w1.heap.size w1 w') := fun d pv Fd w1 O => by
      obtain ⟨bv, dv, dvs, hd⟩ := O.disk
      refine (read_c Fd d v.met.2.st bv dv dvs _ w1 hd (by rw [hs]; exact hw)).mono ?_
      rintro e w' ⟨rfl, hb⟩
      rw [hs]
      exact ⟨rfl, hb⟩
    rw [hm] at HRef
    by_cases hf : (v.st.find name).2.2 = 0
    · have HE : Hid (v.read name = (v.st.read (v.st.find name).2.1, v.met.2)) := by show _ = _; unfold Vs.read; rw [if_neg (by simp [hm]), if_neg (by simp [hf])]
      rw [hf] at HF
      clear h hw hn hm hs hf
      go_enter Tryz.func26, Tryz.ntmps26
      go_wp2_with (first
        | (go_at_call 56; refine HRef.out.mono ?_; rintro e w1 ⟨rfl, ⟨d, pv, Fd, O1⟩, hk1⟩; have c0 := O1.cell0)
        | (go_at_call 57; refine (HF.out d pv Fd _ O1).mono ?_; rintro e w2 ⟨rfl, hb2⟩; obtain ⟨O2, hk2, _, c2⟩ := HAL.out d pv Fd w1 w2 O1 hk1 hb2; have hl2 := O2.lt; clear O1 hk1 hb2 c0)
        | (go_at_call 58; refine (HR.out d pv Fd _ (HAL.out d pv Fd w2 _ O2 hk2 (by go_grown)).1).mono ?_; rintro e w3 ⟨rfl, hb3⟩))
      go_returns
      rw [HE.out]
      exact ⟨rfl, (HAL.out d pv Fd w2 w3 O2 hk2 (((Below.refl _ w2).alloc (Nat.le_refl _) _).trans (hb3.mono (by simp)))).2.2.1⟩
    · have HE : Hid (v.read name = ((⟨#[]⟩, (v.st.find name).2.2), v.met.2)) := by show _ = _; unfold Vs.read; rw [if_neg (by simp [hm]), if_pos hf]
      have b1 : (((v.st.find name).2.2 : Int) == 0) = false := by simp; omega
      obtain ⟨E, hE⟩ : ∃ E, E = (v.st.find name).2.2 := ⟨_, rfl⟩
      rw [← hE] at HF HE b1
      have b2 : ((E : Int) != 0) = true := by simp [bne, b1]
      clear h hw hn hm hs hf hE HR
      go_enter Tryz.func26, Tryz.ntmps26
      go_wp2_with (first
        | (go_at_call 56; refine HRef.out.mono ?_; rintro e w1 ⟨rfl, ⟨d, pv, Fd, O1⟩, hk1⟩; have c0 := O1.cell0)
        | (go_at_call 57; refine (HF.out d pv Fd _ O1).mono ?_; rintro e w2 ⟨rfl, hb2⟩; obtain ⟨O2, hk2, _, c2⟩ := HAL.out d pv Fd w1 w2 O1 hk1 hb2; have hl2 := O2.lt; clear O1 hk1 hb2 c0))
      go_returns
      rw [HE.out]
      exact ⟨rfl, (HAL.out d pv Fd w2 _ O2 hk2 (by go_grown)).2.2.1⟩
  · have HE : Hid (v.read name = ((⟨#[]⟩, v.met.1), v.met.2)) := by show _ = _; unfold Vs.read; rw [if_pos hm]
    have HOf : Hid (∀ W, RV G r v.met.2 W → Kp G w W → RDid G r v.met.2 w W) := fun W h1 h2 => RDid.of h1 h2
    have b1 : ((v.met.1 : Int) == 0) = false := by simp; omega
    obtain ⟨E, hE⟩ : ∃ E, E = v.met.1 := ⟨_, rfl⟩
    rw [← hE] at HRef HE b1
    have b2 : ((E : Int) != 0) = true := by simp [bne, b1]
    clear hm hE h hn hw hs
    go_enter Tryz.func26, Tryz.ntmps26
    go_wp2_with (go_at_call 56; refine HRef.out.mono ?_; rintro e w1 ⟨rfl, hv1, hk1⟩)
    go_returns
    rw [HE.out]
    exact ⟨rfl, HOf.out _ hv1 hk1⟩
set_option maxHeartbeats 4000000 in
theorem rCalls_c (G : Nat → Prop) (r : Nat) (v : Vs) (w : World) (h : RV G r v w) :
    Calls Tryz.prog 33 #[.pointer (some ⟨r, 0, none⟩)] w fun e w' => e = .returned (.int .i64 v.cnt) ∧ w' = w := by
  obtain ⟨d, pv, Fd, O⟩ := h
  obtain ⟨c0, c1, c2, c3, c4, cf⟩ := O.cells
  clear O c0 c1 c3 c4 cf
  go_enter Tryz.func33, Tryz.ntmps33
  go_wp2
  go_returns
  exact ⟨rfl, rfl⟩
set_option maxHeartbeats 4000000 in
theorem rDown_c (G : Nat → Prop) (r : Nat) (v : Vs) (w : World) (h : RV G r v w) :
    Calls Tryz.prog 35 #[.pointer (some ⟨r, 0, none⟩)] w fun e w' => e = .returned (.bool v.off) ∧ w' = w := by
  obtain ⟨d, pv, Fd, O⟩ := h
  obtain ⟨c0, c1, c2, c3, c4, cf⟩ := O.cells
  clear O c0 c1 c2 c4 cf
  go_enter Tryz.func35, Tryz.ntmps35
  go_wp2
  go_returns
  exact ⟨rfl, rfl⟩
set_option maxHeartbeats 4000000 in
theorem rNew_no (c : Int) (w : World) (hc : c < 0 ∨ 1073741824 < c) : Calls Tryz.prog 8 #[.int .i64 c] w fun e w' => e = .returned (.pointer none) ∧ w' = w := by
  have HN : Hid (Calls Tryz.prog 18 #[.int .i64 c] w fun e w' => e = .returned (.pointer none) ∧ w' = w) := refNew_no c w hc
  clear hc
  go_enter Tryz.func8, Tryz.ntmps8
  go_wp2_with (go_at_call 18; refine HN.out.mono ?_; rintro e w1 ⟨rfl, hb1⟩; subst w1)
  go_returns
  exact ⟨rfl, rfl⟩
set_option maxHeartbeats 4000000 in
theorem rNew_c (c : Nat) (w : World) (hc : c ≤ 1073741824) : Calls Tryz.prog 8 #[.int .i64 c] w fun e w' => ∃ r, e = .returned (.pointer (some ⟨r, 0, none⟩)) ∧ RV (fun k => w.heap.size ≤ k ∧ k < w'.heap.size) r (Vs.new c) w' ∧ Below w.heap.size w w' := by
  have HN : Hid (Calls Tryz.prog 18 #[.int .i64 (c : Int)] w fun e w' => e = .returned (.pointer (some ⟨w.heap.size + 1, 0, none⟩)) ∧ RefSt (fun k => w.heap.size ≤ k ∧ k < w'.heap.size) (w.heap.size + 1) (St.new c) w' ∧ Below w.heap.size w w') := refNew_c c w hc
  have HE : Hid (∀ d (w1 : World), RefSt (fun k => w.heap.size ≤ k ∧ k < w1.heap.size) d (St.new c) w1 → Below w.heap.size w w1 → ∀ W, W = w1.alloc (.cells #[.pointer (some ⟨d, 0, none⟩), .slice none 0 0, .int .i64 0, .bool false, .int .i64 0] 54) → RV (fun k => w.heap.size ≤ k ∧ k < W.heap.size) w1.heap.size (Vs.new c) W ∧ Below w.heap.size w W) := fun d w1 h1 h2 W hW => by
    have hs := h2.size
    have hb : Below w1.heap.size w1 W := by rw [hW]; exact (Below.refl _ w1).alloc (Nat.le_refl _) _
    have hsW : W.heap.size = w1.heap.size + 1 := by rw [hW]; simp
    refine ⟨⟨d, .slice none 0 0, _, refSt_same h1 (fun k _ hk => hb.block k hk), fun k hk => ⟨hk.1, by have := hk.2; omega⟩, fun hk => by have := hk.2; omega, ⟨hs, by omega⟩, (fun hne => absurd rfl hne), ?_, .inl ⟨rfl, _, _, rfl⟩, Nat.zero_le _, fun k hk => hk.2⟩, h2.trans (hb.mono hs)⟩
    rw [hW]; exact heap_alloc_new _ _
  clear hc
  go_enter Tryz.func8, Tryz.ntmps8
  go_wp2_with (go_at_call 18; refine HN.out.mono ?_; rintro e w1 ⟨rfl, hp1, hb1⟩)
  go_returns
  exact ⟨_, rfl, HE.out _ w1 hp1 hb1 _ rfl⟩
end Go.Proofs.YtggnjgmjfenibaaGreatDoor
