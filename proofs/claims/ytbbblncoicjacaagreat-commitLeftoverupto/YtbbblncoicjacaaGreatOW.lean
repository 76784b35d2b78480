
-- CommitOldOrNew's walk.
import Derived.Test.YtbbblncoicjacaaGreatLW
import Derived.Deep.CutRange
namespace Go.Proofs.YtbbblncoicjacaaGreat
open Go.ChangeShapes Go.WideShapes Go.ChangeAt Go.RowKit
set_option linter.unusedVariables false
set_option linter.unusedSimpArgs false
set_option maxRecDepth 100000
variable {PS : (Nat → Prop) → Nat → St → World → Prop}
theorem form_row {w : World} {v : Value} {L : List Fil} (h : RowF w v L) : ∃ ao cap, v = .slice ao L.length cap := by
  obtain ⟨ao, cap, e, _, _⟩ := h.form
  exact ⟨ao, cap, e⟩
theorem size_mem {l : List Fil} {x : Fil} (h : x ∈ l) : x.2.2.size ≤ sizeF l := by
  unfold sizeF
  induction l with
  | nil => simp at h
  | cons y r ih =>
    rw [List.map_cons, List.sum_cons]
    rcases List.mem_cons.1 h with rfl | h
    · omega
    · have := ih h; omega
theorem that_eq_others {A L : List Fil} {x : Fil} (h : A = L ∨ A = newF L x) : othersF A x.1 = othersF L x.1 := by
  rcases h with rfl | rfl
  · rfl
  · exact newF_others L x
/-- What the statement asks of the plain volume. -/
theorem oldNew_plain (s : St) (c : Nat) (L : List Fil) (hsc : Sc s [L]) (hcap : s.cap = c) (hb : s.bodies.length < 2097151) (plan : List Flt) (nm da : ByteArray) (m0 m1 m2 m3 : Int) (n : Int) (cuts : List Int) :
    ∃ E v2 A, (⟨s, plan, 0, false, 0⟩ : Vs).replace nm da m0 m1 m2 m3 = ((E, ((⟨s, plan, 0, false, 0⟩ : Vs).replace nm da m0 m1 m2 m3).1.2), v2) ∧ Wf v2.st ∧ v2.round = 0 ∧ Sc (v2.st.crash n cuts) [A] ∧
      othersF A nm = othersF L nm ∧ (E = 0 → hasF A (nm, (m0, m1, m2, m3), da) = true) ∧ (A = L ∨ hasF A (nm, (m0, m1, m2, m3), da) = true) ∧
      (plan = [] → okName nm = true → nm ≠ tmpB → sizeF L + da.size ≤ c → L.length < 64 → E = 0) := by
  obtain ⟨s', a, e, c', h1, h2, h3, h4⟩ := rep_any ⟨s, plan, 0, false, 0⟩ s L hsc hb nm da m0 m1 m2 m3
  have h1' : (⟨s, plan, 0, false, 0⟩ : Vs).replace nm da m0 m1 m2 m3 = ((e, a), c'.on s') := h1
  have hcr := left_crash h2 n cuts
  have hp := pick_or e n L (nm, (m0, m1, m2, m3), da)
  have hrd : (c'.on s').round = 0 := by
    have := repl_round (⟨s, plan, 0, false, 0⟩ : Vs) nm da m0 m1 m2 m3
    rw [h1'] at this; exact this
  refine ⟨e, c'.on s', pickS e n L (nm, (m0, m1, m2, m3), da), by rw [h1'], (left_now h2).2.1, hrd, hcr, that_eq_others (x := (nm, (m0, m1, m2, m3), da)) hp, fun he => ?_, ?_, fun p1 p2 p3 p4 p5 => ?_⟩
  · unfold pickS; rw [if_pos he]; exact newF_has L _
  · rcases hp with h | h
    · exact .inl h
    · exact .inr (by rw [h]; exact newF_has L _)
  · have hc := h3 p3 p2
    rw [notFull hsc p5, hcap, ctl_room (sizeF L) c da _ ⟨rfl, p1⟩ p4] at hc
    exact congrArg Prod.fst hc
/-- The box of a file that came in. -/
def xBox (nm : ByteArray) (m0 m1 m2 m3 : Int) (da : ByteArray) : Obj := .cells #[.string nm, .int .i64 m0, .int .i64 m1, .int .i64 m2, .int .i64 m3, .string da] 26
theorem xbox_cells {w W : World} {nm da : ByteArray} {m0 m1 m2 m3 : Int} (hb : Below (w.heap.size + 1) (w.alloc (xBox nm m0 m1 m2 m3 da)) W) : W.cell? ⟨w.heap.size, 0, none⟩ = some (.string nm) ∧ W.cell? ⟨w.heap.size, 1, none⟩ = some (.int .i64 m0) ∧ W.cell? ⟨w.heap.size, 2, none⟩ = some (.int .i64 m1) ∧ W.cell? ⟨w.heap.size, 3, none⟩ = some (.int .i64 m2) ∧ W.cell? ⟨w.heap.size, 4, none⟩ = some (.int .i64 m3) ∧ W.cell? ⟨w.heap.size, 5, none⟩ = some (.string da) := by
  have h : W.heap[w.heap.size]? = some (.cells #[.string nm, .int .i64 m0, .int .i64 m1, .int .i64 m2, .int .i64 m3, .string da] 26 (0, 0)) := by
    rw [hb.block _ (by omega), heap_alloc_new]; rfl
  refine ⟨?_, ?_, ?_, ?_, ?_, ?_⟩ <;> (rw [Lib.cell_of_heap h]; rfl)
set_option maxHeartbeats 16000000 in
theorem oldNew_w (C : PC PS) (c : Int) (fv : Value) (l : List Fil) (nm : ByteArray) (m0 m1 m2 m3 : Int) (da : ByteArray) (pv : Value) (plan : List Flt) (n : Int) (cv : Value) (cuts : List Int) (w : World)
    (hf : RowF w fv l) (hl : 3 * l.length ≤ 1048576) (hz : sizeF l ≤ 1048576) (hda : da.size ≤ 1048576) (hnm : nm.size ≤ 1048576)
    (hp : RowP w pv plan) (hpb : plan ≠ [] → ∀ k, pv.ownBlock = some k → k < w.heap.size) (hpl : plan.length ≤ 1048576)
    (hc : RowI w cv cuts) (hcb : cuts ≠ [] → ∀ k, cv.ownBlock = some k → k < w.heap.size) (hcl : cuts.length ≤ 1048576) :
    Calls Tryz.prog 5 #[.int .i64 c, fv, .agg #[.string nm, .int .i64 m0, .int .i64 m1, .int .i64 m2, .int .i64 m3, .string da], pv, .int .i64 n, cv] w fun e w' => e = .returned (.bool true) ∧ Below w.heap.size w w' := by
  obtain ⟨X, hX⟩ : ∃ X, X = xBox nm m0 m1 m2 m3 da := ⟨_, rfl⟩
  have hbA : Below w.heap.size w (w.alloc X) := (Below.refl _ w).alloc (Nat.le_refl _) X
  have hsA : (w.alloc X).heap.size = w.heap.size + 1 := by simp
  have hfA := hf.on hbA
  obtain ⟨fa, fc, hfv⟩ := form_row hf
  obtain ⟨pa, pc, hpv⟩ := hp.form
  by_cases hcc : c < 0 ∨ 1073741824 < c
  case pos =>
    have HSC : Hid (Calls Tryz.prog 7 #[.int .i64 c, fv] (w.alloc X) fun e w' => e = .returned (.pointer none) ∧ Below w.heap.size w w') := by
      refine (scene_no C c fv l (w.alloc X) hcc hfA).mono ?_
      rintro e w' ⟨rfl, hb⟩
      exact ⟨rfl, hbA.trans (hb.mono (by omega))⟩
    have HG : Hid (∀ W, Calls Tryz.prog 8 #[.int .i64 c] W fun e w' => e = .returned (.bool false) ∧ w' = W) := fun W => by
      refine (good_c c W).mono ?_
      rintro e w' ⟨rfl, rfl⟩
      exact ⟨by rw [decide_eq_false (by omega)], rfl⟩
    obtain ⟨ca, cl, cc, hcv⟩ : ∃ a b d, cv = .slice a b d := by
      rcases hc with ⟨_, a, b, h⟩ | ⟨b, off, cap, h, _⟩ <;> exact ⟨_, _, _, h⟩
    subst hfv; subst hpv; subst hcv
    unfold xBox at hX
    subst hX
    clear hf hfA hp hc hcc hbA hsA
    go_enter Tryz.func5, Tryz.ntmps5
    go_wp2_with (first
      | (go_at_call 7; refine HSC.out.mono ?_; rintro e w1 ⟨rfl, hb1⟩)
      | (go_at_call 8; refine (HG.out _).mono ?_; rintro e w2 ⟨rfl, hw2⟩; subst w2))
    go_ret
    exact ⟨rfl, hb1⟩
  case neg =>
    obtain ⟨cn, rfl⟩ := Int.eq_ofNat_of_zero_le (show 0 ≤ c by omega)
    have hcn : cn ≤ 1073741824 := by omega
    obtain ⟨s, L, hS⟩ := is_scene cn hcn l (by omega)
    have hVF := Vf.scene cn hcn l (by omega)
    rw [hS.eq] at hVF
    have hsb : s.bodies.length < 2097151 := by have : s.bodies.length ≤ _ := hVF.bodies; omega
    obtain ⟨E, v2, A, g1, g2, g3, g4, g5, g6, g7, g8⟩ := oldNew_plain s cn L hS.sc hS.cap hsb plan nm da m0 m1 m2 m3 n cuts
    obtain ⟨B, hBe⟩ : ∃ B, B = w.heap.size + 1 := ⟨_, rfl⟩
    have hnP : nP da ≤ 2049 := by unfold nP; omega
    have hLl : L.length ≤ 64 := hS.few
    have hAl : A.length ≤ 64 := by
      have := g4.now
      have e2 : lastS [A] = A := rfl
      rw [e2] at this
      rw [← this]; unfold seen; rw [List.length_map]
      have h1 := without_len (v2.st.crash n cuts).now tmpB
      have h2 := now_len g4.wf
      omega
    have hvv : (⟨s, plan, 0, false, 0⟩ : Vs) = (Vs.mk s [] 0 false 0).arm plan := rfl
    have hVF1 : Vf (⟨s, plan, 0, false, 0⟩ : Vs) (3 * l.length + 1) := hVF.arm plan
    have HSC : Hid (Calls Tryz.prog 7 #[.int .i64 (cn : Int), fv] (w.alloc X) fun e w' => ∃ q, e = .returned (.pointer (some ⟨q, 0, none⟩)) ∧ Lw PS B q ⟨s, [], 0, false, 0⟩ [] w' ∧ Below B (w.alloc X) w') := by
      have := lw_scene C cn fv l (w.alloc X) hcn hfA (by omega) (fun x hx => by
        have : x.2.2.size ≤ sizeF l := size_mem hx
        omega)
      rw [hS.eq, hsA, ← hBe] at this
      exact this
    have HV1 : Hid (∀ q W, Lw PS B q ⟨s, [], 0, false, 0⟩ [] W → Below B (w.alloc X) W → Calls Tryz.prog 9 #[.pointer (some ⟨q, 0, none⟩)] W fun e w' => ∃ ao cap k, e = .returned (.tuple #[.slice ao L.length cap, .bool true]) ∧ Lw PS B q ((Vs.mk s [] 0 false 0).ticks k) [(.slice ao L.length cap, L)] w' ∧ Below B W w') := fun q W hL hb => by
      refine (lw_view C B q _ [] W hL (by have := hb.size; omega) hS.sc.wf hS.sc.dw (by show 0 ≤ _; omega) ⟨rfl, rfl⟩).mono ?_
      rintro e w' ⟨rv, k, rfl, hk, h1, h2⟩
      have hrow : seen s.bodies s.now = L := hS.sc.now
      have h1' : Lw PS B q ((Vs.mk s [] 0 false 0).ticks k) [(rv, L)] w' := by rw [← hrow]; exact h1
      obtain ⟨ao, cap, hrv⟩ := form_row (h1'.row (r := (rv, L)) (by simp))
      have hrv' : rv = .slice ao L.length cap := hrv
      subst hrv'
      exact ⟨ao, cap, k, rfl, h1', h2⟩
    have HAR : Hid (∀ q k rows W, Lw PS B q ((Vs.mk s [] 0 false 0).ticks k) rows W → Below B (w.alloc X) W → Calls Tryz.prog 11 #[.pointer (some ⟨q, 0, none⟩), pv] W fun e w' => e = .returned (.tuple #[]) ∧ Lw PS B q ⟨s, plan, 0, false, 0⟩ rows w' ∧ Below B W w') := fun q k rows W hL hb => by
      refine lw_arm C B q _ rows plan pv W hL (by have := hb.size; omega) (RowP.on (B := w.heap.size) hp (hbA.trans (hb.mono (by omega))) hpb) (fun hne k hk => by have := hpb hne k hk; omega) (by omega)
    have HRE : Hid (∀ q rows W, Lw PS B q ⟨s, plan, 0, false, 0⟩ rows W → Below B (w.alloc X) W → Calls Tryz.prog 12 #[.pointer (some ⟨q, 0, none⟩), .string nm, .string da, .agg #[.int .i64 m0, .int .i64 m1, .int .i64 m2, .int .i64 m3]] W fun r w' => ∃ ev, r = .returned ev ∧ (∃ op nm, ErrIs w' B op nm E ev) ∧ Lw PS B q v2 rows w' ∧ Below B W w') := fun q rows W hL hb => by
      have := lw_repl C B q _ rows nm da m0 m1 m2 m3 W (3 * l.length + 1) hL (by have := hb.size; omega) hVF1 (by omega) (by omega)
      rw [g1] at this
      exact this
    have HCO : Hid (∀ W op nm ev, ErrIs W B op nm E ev → Calls Tryz.prog 13 #[ev] W fun r w' => r = .returned (.int .i64 E) ∧ w' = W) := fun W op nm ev h => code_c B op nm E ev W h
    have HRS : Hid (∀ q rows W, Lw PS B q v2 rows W → Below B (w.alloc X) W → Calls Tryz.prog 15 #[.pointer (some ⟨q, 0, none⟩), .int .i64 n, cv] W fun e w' => e = .returned (.tuple #[]) ∧ Lw PS B q (v2.restart n cuts) rows w' ∧ Below B W w') := fun q rows W hL hb => by
      refine lw_restart C B q v2 rows n cv cuts W hL (by have := hb.size; omega) g2 (by omega) (RowI.on (B := w.heap.size) hc (hbA.trans (hb.mono (by omega))) hcb) (fun hne k hk => by have := hcb hne k hk; omega) (by omega)
    have HV2 : Hid (∀ q rows W, Lw PS B q (v2.restart n cuts) rows W → Below B (w.alloc X) W → Calls Tryz.prog 9 #[.pointer (some ⟨q, 0, none⟩)] W fun e w' => ∃ ao cap k, e = .returned (.tuple #[.slice ao A.length cap, .bool true]) ∧ Lw PS B q ((v2.restart n cuts).ticks k) ((.slice ao A.length cap, A) :: rows) w' ∧ Below B W w') := fun q rows W hL hb => by
      refine (lw_view C B q _ rows W hL (by have := hb.size; omega) g4.wf g4.dw (by show 0 ≤ _; omega) ⟨rfl, rfl⟩).mono ?_
      rintro e w' ⟨rv, k, rfl, hk, h1, h2⟩
      have hrow : seen (v2.restart n cuts).st.bodies (v2.restart n cuts).st.now = A := g4.now
      rw [hrow] at h1
      obtain ⟨ao, cap, hrv⟩ := form_row (h1.row (r := (rv, A)) (by simp))
      have hrv' : rv = .slice ao A.length cap := hrv
      subst hrv'
      exact ⟨ao, cap, k, rfl, h1, h2⟩
    have HWO : Hid (∀ W v (M : List Fil), RowF W v M → M.length ≤ 64 → Calls Tryz.prog 19 #[v, .string nm] W fun e w' => ∃ v', e = .returned v' ∧ RowF w' v' (othersF M nm) ∧ Below W.heap.size W w') := fun W v M hr hm => by
      refine (withoutF_c v M nm W hr (by omega)).mono ?_
      rintro e w' ⟨v', rfl, h1, h2⟩
      exact ⟨v', rfl, h1.row, h2⟩
    have HSA : Hid (∀ W v v' (M M' : List Fil), RowF W v M → RowF W v' M' → M.length ≤ 64 → M'.length ≤ 64 → Calls Tryz.prog 16 #[v, v'] W fun e w' => e = .returned (.bool (decide (M = M'))) ∧ Below W.heap.size W w') := fun W v v' M M' h1 h2 h3 h4 => sameF_c v v' M M' W h1 h2 (by omega) (by omega)
    have HHA : Hid (∀ W v (M : List Fil), RowF W v M → M.length ≤ 64 → Calls Tryz.prog 18 #[v, .agg #[.string nm, .int .i64 m0, .int .i64 m1, .int .i64 m2, .int .i64 m3, .string da]] W fun e w' => e = .returned (.bool (hasF M (nm, (m0, m1, m2, m3), da))) ∧ Below W.heap.size W w') := fun W v M hr hm => hasF_c v M nm m0 m1 m2 m3 da W hr (by omega)
    have HFN : Hid (∀ W, Calls Tryz.prog 20 #[.string nm] W fun e w' => e = .returned (.bool (okName nm)) ∧ w' = W) := fun W => lawName_c nm W (by omega)
    have HSZ : Hid (∀ W v, RowF W v L → Calls Tryz.prog 10 #[v] W fun e w' => e = .returned (.int .i64 (sizeF L)) ∧ w' = W) := fun W v hr => size_c v L W hr (by omega) (by have := hS.size; omega)
    have HXB : Hid (∀ W, Below B (w.alloc X) W → W.cell? ⟨w.heap.size, 0, none⟩ = some (.string nm) ∧ W.cell? ⟨w.heap.size, 1, none⟩ = some (.int .i64 m0) ∧ W.cell? ⟨w.heap.size, 2, none⟩ = some (.int .i64 m1) ∧ W.cell? ⟨w.heap.size, 3, none⟩ = some (.int .i64 m2) ∧ W.cell? ⟨w.heap.size, 4, none⟩ = some (.int .i64 m3) ∧ W.cell? ⟨w.heap.size, 5, none⟩ = some (.string da)) := fun W hb => by rw [hBe, hX] at hb; exact xbox_cells hb
    have HEND : Hid (∀ W, Below B (w.alloc X) W → Below w.heap.size w W) := fun W hb => hbA.trans (hb.mono (by omega))
    have HBB : Hid (∀ W, Below B (w.alloc X) W → B ≤ W.heap.size) := fun W hb => by have := hb.size; omega
    have HFACT : Hid (othersF A nm = othersF L nm ∧ (E = 0 → hasF A (nm, (m0, m1, m2, m3), da) = true) ∧ (A = L ∨ hasF A (nm, (m0, m1, m2, m3), da) = true) ∧ (plan = [] → okName nm = true → nm ≠ tmpB → sizeF L + da.size ≤ cn → L.length < 64 → E = 0) ∧ L.length ≤ 64 ∧ A.length ≤ 64 ∧ sizeF L ≤ 1048576 ∧ da.size ≤ 1048576 ∧ cn ≤ 1073741824) := ⟨g5, g6, g7, g8, hLl, hAl, by have := hS.size; omega, hda, hcn⟩
    have HPN : Hid (plan = [] ↔ plan.length = 0) := List.length_eq_zero_iff.symm
    obtain ⟨ca, cl, cc, hcv⟩ : ∃ a b d, cv = .slice a b d := by
      rcases hc with ⟨_, a, b, h⟩ | ⟨b, off, cap, h, _⟩ <;> exact ⟨_, _, _, h⟩
    obtain ⟨hO, hOe⟩ : ∃ hO, hO = hasF A (nm, (m0, m1, m2, m3), da) := ⟨_, rfl⟩
    rw [← hOe] at HFACT
    obtain ⟨PL, hPL⟩ : ∃ PL, PL = plan.length := ⟨_, rfl⟩
    rw [← hPL] at hpv HPN
    obtain ⟨LL, hLL⟩ : ∃ LL, LL = L.length := ⟨_, rfl⟩
    rw [← hLL] at HV1 HFACT
    obtain ⟨AL, hAL⟩ : ∃ AL, AL = A.length := ⟨_, rfl⟩
    rw [← hAL] at HV2 HFACT
    have HLL := hidK hLL
    have HAL := hidK hAL
    subst hfv; subst hpv; subst hcv
    have HXE : Hid (X = .cells #[.string nm, .int .i64 m0, .int .i64 m1, .int .i64 m2, .int .i64 m3, .string da] 26) := hX
    clear hf hfA hp hc hcc hsA hS hVF hVF1 hvv g1 g2 g3 g4 g5 g6 g7 g8 hLl hAl hnP hsb hcn hz hl hBe hpb hcb hpl hcl hX hbA hPL hLL hAL hda hnm
    have hBB0 : Below B (w.alloc X) (w.alloc X) := Below.refl _ _
    go_enter Tryz.func5, Tryz.ntmps5
    go_upto_region 9 with (first
      | (go_at_call 7; rw [← HXE.out]; refine HSC.out.mono ?_; rintro e w1 ⟨q, rfl, hL1, hb1⟩)
      | (go_at_call 9; refine (HV1.out q _ hL1 hb1).mono ?_; rintro e w2 ⟨ao, cap, k, rfl, hL2, hb2⟩; have hB2 := hb1.trans hb2)
      | (go_at_call 11; refine (HAR.out q k _ _ hL2 hB2).mono ?_; rintro e w3 ⟨rfl, hL3, hb3⟩; have hB3 := hB2.trans hb3))
    obtain ⟨x0, x1, x2, x3, x4, x5⟩ := HXB.out w3 hB3
    clear HSC HV1 HAR hL1 hb1 hL2 hb2 hB2 hb3
    go_upto_region 13 with (first
      | (go_at_call 12; refine (HRE.out q _ _ hL3 hB3).mono ?_; rintro e w4 ⟨ev, rfl, ⟨op, enm, he4⟩, hL4, hb4⟩; have hB4 := hB3.trans hb4)
      | (go_at_call 13; refine (HCO.out _ op enm ev he4).mono ?_; rintro e w5 ⟨rfl, hw5⟩; subst w5)
      | (go_at_call 15; refine (HRS.out q _ _ hL4 hB4).mono ?_; rintro e w6 ⟨rfl, hL6, hb6⟩; have hB6 := hB4.trans hb6)
      | (go_at_call 9; refine (HV2.out q _ _ hL6 hB6).mono ?_; rintro e w7 ⟨ao2, cap2, k2, rfl, hL7, hb7⟩; have hB7 := hB6.trans hb7))
    obtain ⟨y0, y1, y2, y3, y4, y5⟩ := HXB.out w7 hB7
    have rA : RowF w7 (.slice ao2 AL cap2) A := hL7.row (r := (.slice ao2 AL cap2, A)) (by simp)
    have rL : RowF w7 (.slice ao LL cap) L := hL7.row (r := (.slice ao LL cap, L)) (by simp)
    obtain ⟨f1, f2, f3, f4, f5, f6, f7, f8, f9⟩ := HFACT.out
    have oA : (othersF A nm).length ≤ 64 := Nat.le_trans (List.length_filter_le _ _) (by rw [← HAL.out]; exact f6)
    have oL : (othersF L nm).length ≤ 64 := Nat.le_trans (List.length_filter_le _ _) (by rw [← HLL.out]; exact f5)
    have HRA : Hid (RowF w7 (.slice ao2 AL cap2) A ∧ RowF w7 (.slice ao LL cap) L ∧ (othersF A nm).length ≤ 64 ∧ (othersF L nm).length ≤ 64 ∧ A.length ≤ 64 ∧ L.length ≤ 64 ∧ Below B (w.alloc X) w7) := ⟨rA, rL, oA, oL, by rw [← HAL.out]; exact f6, by rw [← HLL.out]; exact f5, hB7⟩
    clear rA rL oA oL f1 f2 f3 f4 f5 f6 f7 f8 f9 hL7 hL6 hL4 hL3 hB7 hb7 hB6 hb6 hB4 hb4 he4 hB3 HRE HCO HRS HV2 x0 x1 x2 x3 x4 x5 hBB0
    go_cut [20] from 62 to 70 (fun s wx => s = .bool true ∧ ∃ W, wx = W ∧ Below w7.heap.size w7 W)
    case first =>
      have HW1 : Hid (∀ W, Below w7.heap.size w7 W → Calls Tryz.prog 19 #[.slice ao2 AL cap2, .string nm] W fun e w' => ∃ v', e = .returned v' ∧ RowF w' v' (othersF A nm) ∧ Below w7.heap.size w7 w') := fun W hb => by
        refine (HWO.out W _ A (HRA.out.1.on hb) HRA.out.2.2.2.2.1).mono ?_
        rintro e w' ⟨v', rfl, h1, h2⟩
        exact ⟨v', rfl, h1, hb.trans (h2.mono hb.size)⟩
      have HW2 : Hid (∀ W1 W va, Below w7.heap.size w7 W1 → Below W1.heap.size W1 W → RowF W1 va (othersF A nm) → Calls Tryz.prog 19 #[.slice ao LL cap, .string nm] W fun e w' => ∃ v', e = .returned v' ∧ RowF w' v' (othersF L nm) ∧ RowF w' va (othersF A nm) ∧ Below w7.heap.size w7 w') := fun W1 W va hb1 hb hr => by
        have hbb : Below w7.heap.size w7 W := hb1.trans (hb.mono hb1.size)
        refine (HWO.out W _ L (HRA.out.2.1.on hbb) HRA.out.2.2.2.2.2.1).mono ?_
        rintro e w' ⟨v', rfl, h1, h2⟩
        exact ⟨v', rfl, h1, (hr.on hb).on h2, hbb.trans (h2.mono hbb.size)⟩
      have HS2 : Hid (∀ W1 W v v', Below w7.heap.size w7 W1 → Below W1.heap.size W1 W → RowF W1 v (othersF A nm) → RowF W1 v' (othersF L nm) → Calls Tryz.prog 16 #[v, v'] W fun e w' => e = .returned (.bool true) ∧ Below w7.heap.size w7 w') := fun W1 W v v' hb1 hb h1 h2 => by
        refine (HSA.out W v v' _ _ (h1.on hb) (h2.on hb) HRA.out.2.2.1 HRA.out.2.2.2.1).mono ?_
        rintro e w' ⟨rfl, hb2⟩
        have hbb : Below w7.heap.size w7 W := hb1.trans (hb.mono hb1.size)
        exact ⟨by rw [decide_eq_true HFACT.out.1], hbb.trans (hb2.mono hbb.size)⟩
      have hr0 : Below w7.heap.size w7 w7 := Below.refl _ _
      clear HWO HSA HHA HFN HSZ HXB HEND HBB HPN
      go_region_with (first
        | (go_at_call_of 19 ao2; refine (HW1.out _ ?_).mono ?_; go_grown; rintro e wa ⟨va, rfl, ra, ba⟩; have ya := cell_onG y0 ba)
        | (go_at_call_of 19 ao; refine (HW2.out wa _ va ba ?_ ra).mono ?_; go_grown; rintro e wb ⟨vb, rfl, rb, rab, bb⟩)
        | (go_at_call 16; refine (HS2.out wb _ va vb bb ?_ rab rb).mono ?_; go_grown; rintro e wc ⟨rfl, bc⟩))
      all_goals
        go_wp2
        go_meet
        case rel => exact ⟨rfl, _, rfl, by first | exact bc | exact bc.drew | exact bc.trans (by go_grown)⟩
    case rest =>
      obtain ⟨hs8, W8, hw8, hb8⟩ := hcut
      rw [hw8]
      subst hs8
      clear hw8 y0 y1 y2 y3 y4 y5
      have hB8 := HRA.out.2.2.2.2.2.2.trans (hb8.mono (HBB.out _ HRA.out.2.2.2.2.2.2))
      have rA8 := HRA.out.1.on hb8
      have rL8 := HRA.out.2.1.on hb8
      obtain ⟨tO, htO⟩ : ∃ tO, tO = decide (A = L) := ⟨_, rfl⟩
      have HS3 : Hid (Calls Tryz.prog 16 #[.slice ao2 AL cap2, .slice ao LL cap] W8 fun e w' => e = .returned (.bool tO) ∧ RowF w' (.slice ao2 AL cap2) A ∧ RowF w' (.slice ao LL cap) L ∧ Below B (w.alloc X) w') := by
        refine (HSA.out W8 _ _ A L rA8 rL8 HRA.out.2.2.2.2.1 HRA.out.2.2.2.2.2.1).mono ?_
        rintro e w' ⟨rfl, hb⟩
        exact ⟨by rw [htO], rA8.on hb, rL8.on hb, hB8.trans (hb.mono (HBB.out _ hB8))⟩
      have HH3 : Hid (∀ W, RowF W (.slice ao2 AL cap2) A → RowF W (.slice ao LL cap) L → Below B (w.alloc X) W → Calls Tryz.prog 18 #[.slice ao2 AL cap2, .agg #[.string nm, .int .i64 m0, .int .i64 m1, .int .i64 m2, .int .i64 m3, .string da]] W fun e w' => e = .returned (.bool hO) ∧ RowF w' (.slice ao LL cap) L ∧ Below B (w.alloc X) w') := fun W h1 h2 h3 => by
        refine (HHA.out W _ A h1 HRA.out.2.2.2.2.1).mono ?_
        rintro e w' ⟨rfl, hb⟩
        exact ⟨by rw [hOe], h2.on hb, h3.trans (hb.mono (HBB.out _ h3))⟩
      have HTO : Hid (tO = true ∨ hO = true) := by
        rcases HFACT.out.2.2.1 with h | h
        · exact .inl (by rw [htO]; exact decide_eq_true h)
        · exact .inr h
      clear htO rA8 rL8 hb8 HWO HSA HHA hOe
      go_upto_region 15 with (go_at_call 16; refine HS3.out.mono ?_; rintro e w9 ⟨rfl, rA9, rL9, hB9⟩)
      obtain ⟨y0, y1, y2, y3, y4, y5⟩ := HXB.out w9 hB9
      go_upto_region 16 with (go_at_call 18; refine (HH3.out _ rA9 rL9 hB9).mono ?_; rintro e w10 ⟨rfl, rL10, hB10⟩)
      clear y0 y1 y2 y3 y4 y5 rA9 rL9 HS3 HH3 hB9 hB8
      obtain ⟨y0, y1, y2, y3, y4, y5⟩ := HXB.out w10 hB10
      obtain ⟨f1, f2, f3, f4, f5, f6, f7, f8, f9⟩ := HFACT.out
      have HF4 := hidK f4
      have HRL := hidK rL10
      have HB10 := hidK hB10
      clear f1 f3 f4 rL10 hB10
      have bE : ¬ ((E : Int) < 0) := by omega
      have bE2 : decide ((E : Int) < 0) = false := decide_eq_false bE
      by_cases hE : E = 0
      · have hOt := f2 hE
        subst hE
        subst hOt
        clear f2
        have bE3 : ((0 : Int) == 0) = true := rfl
        go_upto_region 19 with (go_at_call 20; refine (HFN.out _).mono ?_; rintro e w11 ⟨rfl, hw11⟩; subst w11)
        obtain ⟨kN, hkN⟩ : ∃ kN, kN = okName nm := ⟨_, rfl⟩
        rw [← hkN]
        have HKN := hidK hkN
        clear hkN
        go_cut [127] from 98 to 126 (fun s wx => s = .bool false ∧ ∃ W, wx = W ∧ Below w10.heap.size w10 W)
        case first =>
          have HZ1 : Hid (∀ W, Below w10.heap.size w10 W → Calls Tryz.prog 10 #[.slice ao LL cap] W fun e w' => e = .returned (.int .i64 (sizeF L)) ∧ w' = W) := fun W hb => HSZ.out W _ (HRL.out.on hb)
          have HF5 : Hid (sizeF L ≤ 1048576 ∧ da.size ≤ 1048576 ∧ cn ≤ 1073741824) := ⟨f7, f8, f9⟩
          obtain ⟨z, hz⟩ : ∃ z, z = sizeF L := ⟨_, rfl⟩
          rw [← hz] at HZ1 HF4 HF5
          clear hz HSZ HFN HXB HEND HBB
          by_cases p0 : PL = 0
          case neg =>
            have b0 : ((PL : Int) == 0) = false := by simp; omega
            go_quiet (fail)
            go_wp2
            go_meet
            case rel => exact ⟨rfl, _, rfl, belDrewN (Below.refl _ _) nq⟩
          case pos =>
            have HPE := hidK (HPN.out.2 p0)
            subst p0
            cases kN
            · go_quiet (fail)
              go_wp2
              go_meet
              case rel => exact ⟨rfl, _, rfl, belDrewN (Below.refl _ _) nq⟩
            · by_cases p2 : nm = tmpB
              case pos =>
                have y0' : w10.cell? ⟨w.heap.size, 0, none⟩ = some (.string ⟨#[97, 114, 46, 116, 109, 112, 126]⟩) := by rw [y0, p2]; rfl
                clear y0 p2
                go_quiet (fail)
                go_wp2
                go_meet
                case rel => exact ⟨rfl, _, rfl, belDrewN (Below.refl _ _) nq⟩
              case neg =>
                have hbt : (nm.toList == [97, 114, 46, 116, 109, 112, 126]) = false := by
                  have : tmpB.toList = [97, 114, 46, 116, 109, 112, 126] := by rw [ByteArray.toList_eq]; rfl
                  rw [← this, beq_toList]; exact decide_eq_false p2
                have hbt2 : ¬ nm.toList = [97, 114, 46, 116, 109, 112, 126] := by simpa using hbt
                have HP2 := hidK p2
                clear p2
                have bz : (z : Int) + (da.size : Int) ≤ 2097152 := by have := HF5.out; omega
                have bz0 : (0 : Int) ≤ (z : Int) + (da.size : Int) := by omega
                by_cases p3 : (z : Int) + (da.size : Int) ≤ (cn : Int)
                case neg =>
                  have b3 : decide ((z : Int) + (da.size : Int) ≤ (cn : Int)) = false := decide_eq_false p3
                  go_quiet ((go_at_call 10; exact Calls.quiet_of_same (HZ1.out _ (by first | exact Below.refl _ _ | exact belDrewN (Below.refl _ _) _))))
                  go_wp2
                  go_meet
                  case rel => exact ⟨rfl, _, rfl, belDrewN (Below.refl _ _) nq⟩
                case pos =>
                  have b3 : decide ((z : Int) + (da.size : Int) ≤ (cn : Int)) = true := decide_eq_true p3
                  by_cases p4 : (LL : Int) < 64
                  case neg =>
                    have b4 : decide ((LL : Int) < 64) = false := decide_eq_false p4
                    go_quiet ((go_at_call 10; exact Calls.quiet_of_same (HZ1.out _ (by first | exact Below.refl _ _ | exact belDrewN (Below.refl _ _) _))))
                    go_wp2
                    go_meet
                    case rel => exact ⟨rfl, _, rfl, belDrewN (Below.refl _ _) nq⟩
                  case pos =>
                    have b4 : decide ((LL : Int) < 64) = true := decide_eq_true p4
                    go_quiet ((go_at_call 10; exact Calls.quiet_of_same (HZ1.out _ (by first | exact Below.refl _ _ | exact belDrewN (Below.refl _ _) _))))
                    go_wp2
                    go_meet
                    case rel => exact ⟨rfl, _, rfl, belDrewN (Below.refl _ _) nq⟩
        case rest =>
          obtain ⟨hs12, W12, hw12, hb12⟩ := hcut
          rw [hw12]
          subst hs12
          clear hw12
          have hB12 := HEND.out _ (HB10.out.trans (hb12.mono (HBB.out _ HB10.out)))
          cases tO
          all_goals
            go_wp2
            go_ret
            exact ⟨rfl, hB12⟩
      · clear f2
        have bE3 : ((E : Int) == 0) = false := by simp; omega
        have bE4 : ((E : Int) != 0) = true := by simp [bne, bE3]
        go_upto_region 19 with (go_at_call 20; refine (HFN.out _).mono ?_; rintro e w11 ⟨rfl, hw11⟩; subst w11)
        obtain ⟨kN, hkN⟩ : ∃ kN, kN = okName nm := ⟨_, rfl⟩
        rw [← hkN]
        have HKN := hidK hkN
        clear hkN
        go_cut [127] from 98 to 126 (fun s wx => s = .bool false ∧ ∃ W, wx = W ∧ Below w10.heap.size w10 W)
        case first =>
          have HZ1 : Hid (∀ W, Below w10.heap.size w10 W → Calls Tryz.prog 10 #[.slice ao LL cap] W fun e w' => e = .returned (.int .i64 (sizeF L)) ∧ w' = W) := fun W hb => HSZ.out W _ (HRL.out.on hb)
          have HF5 : Hid (sizeF L ≤ 1048576 ∧ da.size ≤ 1048576 ∧ cn ≤ 1073741824) := ⟨f7, f8, f9⟩
          obtain ⟨z, hz⟩ : ∃ z, z = sizeF L := ⟨_, rfl⟩
          rw [← hz] at HZ1 HF4 HF5
          clear hz HSZ HFN HXB HEND HBB
          by_cases p0 : PL = 0
          case neg =>
            have b0 : ((PL : Int) == 0) = false := by simp; omega
            go_quiet (fail)
            go_wp2
            go_meet
            case rel => exact ⟨rfl, _, rfl, belDrewN (Below.refl _ _) nq⟩
          case pos =>
            have HPE := hidK (HPN.out.2 p0)
            subst p0
            cases kN
            · go_quiet (fail)
              go_wp2
              go_meet
              case rel => exact ⟨rfl, _, rfl, belDrewN (Below.refl _ _) nq⟩
            · by_cases p2 : nm = tmpB
              case pos =>
                have y0' : w10.cell? ⟨w.heap.size, 0, none⟩ = some (.string ⟨#[97, 114, 46, 116, 109, 112, 126]⟩) := by rw [y0, p2]; rfl
                clear y0 p2
                go_quiet (fail)
                go_wp2
                go_meet
                case rel => exact ⟨rfl, _, rfl, belDrewN (Below.refl _ _) nq⟩
              case neg =>
                have hbt : (nm.toList == [97, 114, 46, 116, 109, 112, 126]) = false := by
                  have : tmpB.toList = [97, 114, 46, 116, 109, 112, 126] := by rw [ByteArray.toList_eq]; rfl
                  rw [← this, beq_toList]; exact decide_eq_false p2
                have hbt2 : ¬ nm.toList = [97, 114, 46, 116, 109, 112, 126] := by simpa using hbt
                have HP2 := hidK p2
                clear p2
                have bz : (z : Int) + (da.size : Int) ≤ 2097152 := by have := HF5.out; omega
                have bz0 : (0 : Int) ≤ (z : Int) + (da.size : Int) := by omega
                by_cases p3 : (z : Int) + (da.size : Int) ≤ (cn : Int)
                case neg =>
                  have b3 : decide ((z : Int) + (da.size : Int) ≤ (cn : Int)) = false := decide_eq_false p3
                  go_quiet ((go_at_call 10; exact Calls.quiet_of_same (HZ1.out _ (by first | exact Below.refl _ _ | exact belDrewN (Below.refl _ _) _))))
                  go_wp2
                  go_meet
                  case rel => exact ⟨rfl, _, rfl, belDrewN (Below.refl _ _) nq⟩
                case pos =>
                  have b3 : decide ((z : Int) + (da.size : Int) ≤ (cn : Int)) = true := decide_eq_true p3
                  by_cases p4 : (LL : Int) < 64
                  case neg =>
                    have b4 : decide ((LL : Int) < 64) = false := decide_eq_false p4
                    go_quiet ((go_at_call 10; exact Calls.quiet_of_same (HZ1.out _ (by first | exact Below.refl _ _ | exact belDrewN (Below.refl _ _) _))))
                    go_wp2
                    go_meet
                    case rel => exact ⟨rfl, _, rfl, belDrewN (Below.refl _ _) nq⟩
                  case pos =>
                    exact absurd (HF4.out HPE.out HKN.out.symm HP2.out (by omega) (by omega)) hE
        case rest =>
          obtain ⟨hs12, W12, hw12, hb12⟩ := hcut
          rw [hw12]
          subst hs12
          clear hw12
          have hB12 := HEND.out _ (HB10.out.trans (hb12.mono (HBB.out _ HB10.out)))
          cases tO
          · have hOt : hO = true := by
              rcases HTO.out with h | h
              · cases h
              · exact h
            subst hOt
            go_wp2
            go_ret
            exact ⟨rfl, hB12⟩
          · go_wp2
            go_ret
            exact ⟨rfl, hB12⟩
end Go.Proofs.YtbbblncoicjacaaGreat
