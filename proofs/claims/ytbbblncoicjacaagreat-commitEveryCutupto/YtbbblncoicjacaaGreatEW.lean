
-- CommitEveryCut: one replacement that is cut.
import Derived.Test.YtbbblncoicjacaaGreatOW
import Derived.Test.YtbbblncoicjacaaGreatXR
import Derived.Test.YtbbblncoicjacaaGreatXE
namespace Go.Proofs.YtbbblncoicjacaaGreat
open Go.ChangeShapes Go.WideShapes Go.ChangeAt Go.RowKit
set_option linter.unusedVariables false
set_option linter.unusedSimpArgs false
set_option maxRecDepth 100000
variable {PS : (Nat → Prop) → Nat → St → World → Prop}
/-- What one round of the statement meets: all its calls, by plain answers. -/
structure Rnd (PS : (Nat → Prop) → Nat → St → World → Prop) (nm : ByteArray) (m0 m1 m2 m3 : Int) (da : ByteArray) (cap : Nat) (fv cv : Value) (k : Nat) (n : Int) (B : Nat) (W0 : World) (L A : List Fil) (E : Nat) (D : Bool) (s : St) (v2 v3 : Vs) : Prop where
  scene : Calls Tryz.prog 7 #[.int .i64 (cap : Int), fv] W0 fun e w' => ∃ q, e = .returned (.pointer (some ⟨q, 0, none⟩)) ∧ Lw PS B q ⟨s, [], 0, false, 0⟩ [] w' ∧ Below B W0 w'
  view1 : ∀ q W, Lw PS B q ⟨s, [], 0, false, 0⟩ [] W → Below B W0 W → Calls Tryz.prog 9 #[.pointer (some ⟨q, 0, none⟩)] W fun e w' => ∃ ao c j, e = .returned (.tuple #[.slice ao L.length c, .bool true]) ∧ Lw PS B q ((Vs.mk s [] 0 false 0).ticks j) [(.slice ao L.length c, L)] w' ∧ Below B W w'
  arm : ∀ q j rows W, Lw PS B q ((Vs.mk s [] 0 false 0).ticks j) rows W → Below B W0 W → Calls Tryz.prog 11 #[.pointer (some ⟨q, 0, none⟩), .slice (some ⟨W.heap.size, 0, none⟩) 1 1] (W.alloc (.cells #[.int .i64 (k : Int), .int .i64 3, .int .i64 0] 36)) fun e w' => e = .returned (.tuple #[]) ∧ Lw PS B q ⟨s, [⟨(k : Int), 3, 0⟩], 0, false, 0⟩ rows w' ∧ Below B W w'
  repl : ∀ q rows W, Lw PS B q ⟨s, [⟨(k : Int), 3, 0⟩], 0, false, 0⟩ rows W → Below B W0 W → Calls Tryz.prog 12 #[.pointer (some ⟨q, 0, none⟩), .string nm, .string da, .agg #[.int .i64 m0, .int .i64 m1, .int .i64 m2, .int .i64 m3]] W fun r w' => ∃ ev, r = .returned ev ∧ (∃ op nm, ErrIs w' B op nm E ev) ∧ Lw PS B q v2 rows w' ∧ Below B W w'
  down : ∀ q rows W, Lw PS B q v2 rows W → Calls Tryz.prog 14 #[.pointer (some ⟨q, 0, none⟩)] W fun e w' => e = .returned (.bool D) ∧ w' = W
  rest : ∀ q rows W, Lw PS B q v2 rows W → Below B W0 W → Calls Tryz.prog 15 #[.pointer (some ⟨q, 0, none⟩), .int .i64 n, cv] W fun e w' => e = .returned (.tuple #[]) ∧ Lw PS B q v3 rows w' ∧ Below B W w'
  view2 : ∀ q rows W, Lw PS B q v3 rows W → Below B W0 W → Calls Tryz.prog 9 #[.pointer (some ⟨q, 0, none⟩)] W fun e w' => ∃ ao c j, e = .returned (.tuple #[.slice ao A.length c, .bool true]) ∧ Lw PS B q (v3.ticks j) ((.slice ao A.length c, A) :: rows) w' ∧ Below B W w'
theorem round_is (C : PC PS) (nm : ByteArray) (m0 m1 m2 m3 : Int) (da : ByteArray) (l : List Fil) (cap : Nat) (fv cv : Value) (cuts : List Int) (k : Nat) (hk : 1 ≤ k) (n : Int) (B : Nat) (W0 : World)
    (hB : B = W0.heap.size) (hf : RowF W0 fv l) (hl : l.length ≤ 60) (hz : sizeF l ≤ 1048576) (hda : da.size ≤ 2000) (hcap : cap = sizeF l + da.size + 1) (hcm : cap ≤ 1048576) (hne : nm ≠ tmpB) (hok : okName nm = true)
    (hc : RowI W0 cv cuts) (hcb : cuts ≠ [] → ∀ k, cv.ownBlock = some k → k < B) (hcl : cuts.length ≤ 1048576) :
    ∃ s L A E v2, Rnd PS nm m0 m1 m2 m3 da cap fv cv k n B W0 L A E (decide (k ≤ 5 + nP da)) s v2 (v2.restart n cuts) ∧ L.length ≤ 64 ∧ A.length ≤ 64 ∧ E = (if k < 5 + nP da then 41 else if k = 5 + nP da then 160 else 0) ∧ (A = L ∨ A = newF L (nm, (m0, m1, m2, m3), da)) ∧ (5 + nP da < k → A = newF L (nm, (m0, m1, m2, m3), da)) ∧ (k < 5 + nP da → A = L) := by
  have hcn : cap ≤ 1073741824 := by omega
  obtain ⟨s, L, hS⟩ := is_scene cap hcn l (by omega)
  have hVF := Vf.scene cap hcn l (by omega)
  rw [hS.eq] at hVF
  have hsb : s.bodies.length < 2097151 := by have : s.bodies.length ≤ _ := hVF.bodies; omega
  obtain ⟨E, v2, A, g1, g2, g3, g4, g5, g6, g7, g8, g9⟩ := everyCut_plain s cap L hS.sc hS.cap hsb (by have := hS.len; omega) nm da (by have := hS.size; omega) hne hok m0 m1 m2 m3 k hk n cuts
  have hnP : nP da ≤ 2049 := by unfold nP; omega
  have hVF1 : Vf (⟨s, [⟨(k : Int), 3, 0⟩], 0, false, 0⟩ : Vs) (3 * l.length + 1) := hVF.arm [⟨(k : Int), 3, 0⟩]
  refine ⟨s, L, A, E, v2, ⟨?_, ?_, ?_, ?_, ?_, ?_, ?_⟩, hS.few, ?_, g6, g7, g8, g9⟩
  · have := lw_scene C cap fv l W0 hcn hf (by omega) (fun x hx => by have : x.2.2.size ≤ sizeF l := size_mem hx; omega)
    rw [hS.eq, ← hB] at this
    exact this
  · intro q W hL hb
    refine (lw_view C B q _ [] W hL (by have := hb.size; omega) hS.sc.wf hS.sc.dw (by show 0 ≤ _; omega) ⟨rfl, rfl⟩).mono ?_
    rintro e w' ⟨rv, j, rfl, hj, h1, h2⟩
    have hrow : seen s.bodies s.now = L := hS.sc.now
    have h1' : Lw PS B q ((Vs.mk s [] 0 false 0).ticks j) [(rv, L)] w' := by rw [← hrow]; exact h1
    obtain ⟨ao, c, hrv⟩ := form_row (h1'.row (r := (rv, L)) (by simp))
    have hrv' : rv = .slice ao L.length c := hrv
    subst hrv'
    exact ⟨ao, c, j, rfl, h1', h2⟩
  · intro q j rows W hL hb
    have hbA : Below W.heap.size W (W.alloc (.cells #[.int .i64 (k : Int), .int .i64 3, .int .i64 0] 36)) := (Below.refl _ W).alloc (Nat.le_refl _) _
    have hsz : B ≤ W.heap.size := by have := hb.size; omega
    have hrow : RowP (W.alloc (.cells #[.int .i64 (k : Int), .int .i64 3, .int .i64 0] 36)) (.slice (some ⟨W.heap.size, 0, none⟩) 1 1) [⟨(k : Int), 3, 0⟩] := by
      refine .inr ⟨W.heap.size, 0, 1, rfl, by simp, fun i f hi => ?_⟩
      have hn := heap_alloc_new W (.cells #[.int .i64 (k : Int), .int .i64 3, .int .i64 0] 36)
      match i, hi with
      | 0, hi =>
        simp at hi; subst hi
        refine ⟨?_, ?_, ?_⟩ <;> (rw [Lib.cell_of_heap hn]; rfl)
      | i + 1, hi => simp at hi
    refine (lw_arm2 C B q _ rows [⟨(k : Int), 3, 0⟩] _ W _ hL hsz hbA hrow (fun _ b hb => by simp only [Value.ownBlock, Option.some.injEq] at hb; omega) (by simp)).mono ?_
    rintro e w' ⟨rfl, h1, h2⟩
    exact ⟨rfl, h1, (hbA.mono hsz).trans h2⟩
  · intro q rows W hL hb
    have := lw_repl C B q _ rows nm da m0 m1 m2 m3 W (3 * l.length + 1) hL (by have := hb.size; omega) hVF1 (by omega) (by omega)
    rw [g1] at this
    exact this
  · intro q rows W hL
    refine (lw_down B q _ rows W hL).mono ?_
    rintro e w' ⟨rfl, rfl⟩
    exact ⟨by rw [g5], rfl⟩
  · intro q rows W hL hb
    exact lw_restart C B q v2 rows n cv cuts W hL (by have := hb.size; omega) g2 (by omega) (RowI.on (B := B) hc hb hcb) hcb (by omega)
  · intro q rows W hL hb
    refine (lw_view C B q _ rows W hL (by have := hb.size; omega) g4.wf g4.dw (by show 0 ≤ _; omega) ⟨rfl, rfl⟩).mono ?_
    rintro e w' ⟨rv, j, rfl, hj, h1, h2⟩
    have hrow : seen (v2.restart n cuts).st.bodies (v2.restart n cuts).st.now = A := g4.now
    rw [hrow] at h1
    obtain ⟨ao, c, hrv⟩ := form_row (h1.row (r := (rv, A)) (by simp))
    have hrv' : rv = .slice ao A.length c := hrv
    subst hrv'
    exact ⟨ao, c, j, rfl, h1, h2⟩
  · have e2 : lastS [A] = A := rfl
    have := g4.now
    rw [e2] at this
    rw [← this]; unfold seen; rw [List.length_map]
    have h1 := without_len (v2.st.crash n cuts).now tmpB
    have h2 := now_len g4.wf
    omega
end Go.Proofs.YtbbblncoicjacaaGreat
