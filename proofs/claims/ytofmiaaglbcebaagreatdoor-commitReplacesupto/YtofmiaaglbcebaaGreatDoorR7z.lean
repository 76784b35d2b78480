import Derived.Test.YtofmiaaglbcebaaGreatDoorR5z
import Derived.Test.YtofmiaaglbcebaaGreatDoorU14
import Derived.Deep.RegionWith
import Derived.Deep.DrawnRows

-- The document's volume: Arm, Restart.
namespace Go.Proofs.YtofmiaaglbcebaaGreatDoor
open Go.RowKit
set_option linter.unusedVariables false
attribute [local go_sem ↓] Go.wp_at_zero Go.wp_at_succ
/-- The cells of a plan. -/
def plV (l : List Flt) : List Value := l.flatMap fun f => [.int .i64 f.at_, .int .i64 f.kind, .int .i64 f.n]
theorem plV_append (a b : List Flt) : plV (a ++ b) = plV a ++ plV b := by simp [plV]
theorem plV_at (l : List Flt) (j : Nat) (f : Flt) (h : l[j]? = some f) : (plV l)[j * 3]? = some (.int .i64 f.at_) ∧ (plV l)[j * 3 + 1]? = some (.int .i64 f.kind) ∧ (plV l)[j * 3 + 2]? = some (.int .i64 f.n) := by
  induction l generalizing j with
  | nil => simp at h
  | cons a r ih =>
    cases j with
    | zero => simp at h; subst h; exact ⟨rfl, rfl, rfl⟩
    | succ j =>
      have h' : r[j]? = some f := by simpa using h
      obtain ⟨h1, h2, h3⟩ := ih j h'
      have e : ∀ i, (plV (a :: r))[(j + 1) * 3 + i]? = (plV r)[j * 3 + i]? := fun i => by
        rw [show (j + 1) * 3 + i = (j * 3 + i) + 1 + 1 + 1 by omega]; rfl
      exact ⟨(e 0).trans h1, (e 1).trans h2, (e 2).trans h3⟩
theorem RowP.of_own {w : World} {B : Nat} {v : Value} {l : List Flt} (h : w.ownsRow B 86 3 v l.length (plV l)) : RowP w v l := by
  rcases h.2 with ⟨rfl, h0⟩ | ⟨g, cap, cur, rfl, hg, hh, _⟩
  · exact .inl ⟨List.eq_nil_of_length_eq_zero h0, _, _, rfl⟩
  · refine .inr ⟨g, 0, cap, rfl, (Array.getElem?_eq_some_iff.1 hh).1, fun j f hj => ?_⟩
    obtain ⟨a1, a2, a3⟩ := plV_at l j f hj
    have k1 := h.cells (g := g) rfl _ _ a1
    have k2 := h.cells (g := g) rfl _ _ a2
    have k3 := h.cells (g := g) rfl _ _ a3
    rw [add_lit0] at k1 k2 k3
    rw [Nat.zero_add]
    exact ⟨k1, k2, k3⟩
theorem infoF : (Tryz.prog.info? 86).map (fun i => (i.zero, i.size, i.bytes)) = some (some (.agg #[.int .i64 0, .int .i64 0, .int .i64 0]), 3, 24) := by kernel_rfl
theorem flt_new (w : World) (x y z : Value) (t : TypeId) : ∀ j u, [x, y, z][j]? = some u → (w.alloc (.cells #[x, y, z] t)).cell? ((⟨w.heap.size, 0, none⟩ : Addr).add j) = some u := by
  intro j u hj
  match j, hj with
  | 0, hj => simp at hj; subst hj; simp [Addr.add]
  | 1, hj => simp at hj; subst hj; simp [Addr.add]
  | 2, hj => simp at hj; subst hj; simp [Addr.add]
theorem three_one (x y z : Int) : ∀ u ∈ [Value.int .i64 x, .int .i64 y, .int .i64 z], u.oneCell' = true := by
  intro u hu; simp at hu; rcases hu with rfl | rfl | rfl <;> rfl
/-- The plan is another one. -/
theorem RVo.armed {G Fd : Nat → Prop} {r d : Nat} {pv pv' : Value} {v : Vs} {w : World} {plan : List Flt} (O : RVo G r v w d pv Fd) (hp : RowP w pv' plan) (hm : plan ≠ [] → ∀ b, pv'.ownBlock = some b → G b ∧ ¬ Fd b ∧ b ≠ r) (hl : plan.length ≤ 4194304) :
    RVo G r { v with plan := plan } (w.setCell ⟨r, 1, none⟩ pv') d pv' Fd ∧ Kp G w (w.setCell ⟨r, 1, none⟩ pv') := by
  have oth : ∀ k, k ≠ r → (w.setCell ⟨r, 1, none⟩ pv').heap[k]? = w.heap[k]? := fun k hk => Below.heap_setCell _ _ _ _ hk
  have hs : w.heap.size ≤ (w.setCell ⟨r, 1, none⟩ pv').heap.size := by simp [World.setCell]
  refine ⟨⟨refSt_same O.disk fun k hk _ => oth k fun e => O.nq (e ▸ hk), O.sub, O.nq, O.own, hm, ?_, hp.eq hs fun hne b hb _ => oth b (hm hne b hb).2.2, hl, fun k hk => Nat.lt_of_lt_of_le (O.low k hk) hs⟩, ⟨rfl, rfl, rfl, hs, fun k _ hk => oth k fun e => hk (e ▸ O.own)⟩⟩
  rw [blk_set O.blk]; rfl
theorem RDid.then {G : Nat → Prop} {r : Nat} {v v' : Vs} {w w' w'' : World} (h : RDid G r v w w') (k : RDid (ext G w w') r v' w' w'') : RDid G r v' w w'' := by
  have h1 := h.2.size
  have h2 := k.2.size
  refine ⟨k.1.mono (fun i hi => ?_) (fun i hi => ?_), h.2.then k.2⟩
  · rcases hi with (hi | hi) | hi
    · exact .inl hi
    · exact .inr ⟨hi.1, by omega⟩
    · exact .inr ⟨by omega, hi.2⟩
  · rcases hi with hi | hi
    · exact k.1.low i (.inl (.inl hi))
    · exact hi.2
set_option maxRecDepth 8000 in
set_option maxHeartbeats 4000000 in
theorem rArm_c (G : Nat → Prop) (r : Nat) (v : Vs) (plan : List Flt) (pv : Value) (w : World) (h : RV G r v w) (hp : RowP w pv plan) (hl : plan.length ≤ 4194304) :
    Calls Tryz.prog 12 #[.pointer (some ⟨r, 0, none⟩), pv] w fun e w' => e = .returned (.tuple #[]) ∧ RDid G r (v.arm plan) w w' := by
  obtain ⟨i0, hi, hz0, hz1, hz2⟩ := info_parts infoF
  obtain ⟨ao, cp, hv⟩ := hp.form
  have HF : Hid (∀ k, k < plan.length → ∃ f, plan[k]? = some f ∧ ∃ b off, ao = some ⟨b, off, none⟩ ∧ ∀ W, Below w.heap.size w W → W.cell? ⟨b, off + k * 3, none⟩ = some (.int .i64 f.at_) ∧ W.cell? ⟨b, off + k * 3 + 1, none⟩ = some (.int .i64 f.kind) ∧ W.cell? ⟨b, off + k * 3 + 2, none⟩ = some (.int .i64 f.n)) := fun k hk => by
    have hne : plan ≠ [] := fun e => by rw [e] at hk; simp at hk
    refine ⟨plan[k], List.getElem?_eq_getElem hk, ?_⟩
    rcases hp with ⟨h0, _⟩ | ⟨b, off, cap, hv', hb, hc⟩
    · exact absurd h0 hne
    · rw [hv] at hv'; cases hv'
      refine ⟨b, off, rfl, fun W hkp => ?_⟩
      have hbb := hkp.block b hb
      obtain ⟨h1, h2, h3⟩ := hc k _ (List.getElem?_eq_getElem hk)
      exact ⟨(World.cell?_of_block (a := ⟨b, _, none⟩) hbb).trans h1, (World.cell?_of_block (a := ⟨b, _, none⟩) hbb).trans h2, (World.cell?_of_block (a := ⟨b, _, none⟩) hbb).trans h3⟩
  have HEnd : Hid (∀ W ao' cp', W.ownsRow w.heap.size 86 3 (.slice ao' plan.length cp') plan.length (plV plan) → Below w.heap.size w W → (∃ u, W.cell? ⟨r, 1, none⟩ = some u) ∧ (∃ u, W.cell? ⟨r, 2, none⟩ = some u) ∧ W.frozen? ⟨r, 1, none⟩ = false ∧ W.frozen? ⟨r, 2, none⟩ = false ∧ RDid G r (v.arm plan) w ((W.setCell ⟨r, 1, none⟩ (.slice ao' plan.length cp')).setCell ⟨r, 2, none⟩ (.int .i64 0))) := fun W ao' cp' hown hb => by
    obtain ⟨d, pv0, Fd, O⟩ := h
    have hs := hb.size
    have O1 := O.below hb
    obtain ⟨_, k1, k2, _, _, kf⟩ := O1.cells
    have O2 : RVo (ext G w W) r v W d pv0 Fd := O1.mono (fun k hk => .inl hk) (fun k hk => by
      rcases hk with hk | hk
      · exact O1.low k hk
      · exact hk.2)
    obtain ⟨O3, k3⟩ := O2.armed (RowP.of_own hown) (fun hne b hbb => by
      obtain ⟨l1, l2⟩ := hown.lt b hbb
      have := O.lt
      exact ⟨.inr ⟨l1, l2⟩, fun h' => by have := O.low _ (O.sub _ h'); omega, by omega⟩) hl
    obtain ⟨O4, k4⟩ := O3.set (v' := v.arm plan) 2 (.int .i64 0) rfl rfl rfl
    have hs3 : ((W.setCell ⟨r, 1, none⟩ (.slice ao' plan.length cp')).setCell ⟨r, 2, none⟩ (.int .i64 0)).heap.size = W.heap.size := by simp [World.setCell]
    refine ⟨⟨_, k1⟩, ⟨_, k2⟩, kf 1, kf 2, ⟨d, _, Fd, O4.mono (fun k hk => ?_) (fun k hk => ?_)⟩, ?_⟩
    · unfold ext; rw [hs3]; exact hk
    · unfold ext at hk; rw [hs3] at hk ⊢
      rcases hk with hk | hk
      · exact O1.low k hk
      · exact hk.2
    · have kk : Kp (ext G w W) W ((W.setCell ⟨r, 1, none⟩ (.slice ao' plan.length cp')).setCell ⟨r, 2, none⟩ (.int .i64 0)) := k3.trans k4
      exact (Kp.of_below hb).then kk
  obtain ⟨n, hn⟩ : ∃ n, n = plan.length := ⟨_, rfl⟩
  have HN : Hid (n = plan.length) := hn
  rw [← hn] at hv HF hl HEnd
  subst hv
  clear hp h hn
  go_enter Tryz.func12, Tryz.ntmps12
  go_wp2
  go_loopw [4, 5] (fun o i wr => ∃ k : Nat, i = .int .i64 k ∧ k ≤ n ∧ wr.ownsRow w.heap.size 86 3 o k (plV (plan.take k)) ∧ Below w.heap.size w wr) (fun _ i _ => n - (intOf i).toNat)
  case atStart => exact ⟨0, rfl, Nat.zero_le _, World.ownsRow_nil _ _ _ _, Below.refl _ _⟩
  case round =>
    obtain ⟨k, rfl, hkm, hown, hbw⟩ := hrel
    have hbs := hbw.size
    by_cases hk : k < n
    · obtain ⟨f, hf, b, off, rfl, hc⟩ := HF.out k hk
      obtain ⟨e0, e1, e2⟩ := hc wr hbw
      obtain ⟨fa, fk, fn⟩ := f
      simp only at e0 e1 e2
      have HG : Hid (plV (plan.take (k + 1)) = plV (plan.take k) ++ [.int .i64 fa, .int .i64 fk, .int .i64 fn]) := by
        show _ = _
        rw [take_snoc plan k _ hf, plV_append]; rfl
      obtain ⟨L, hL⟩ : ∃ L, L = plV (plan.take k) := ⟨_, rfl⟩
      rw [← hL] at hown HG
      have b1 : decide ((k : Int) < (n : Int)) = true := by simp; omega
      have i1 : (k : Int) < (n : Int) := by omega
      have i2 : (0 : Int) ≤ (k : Int) := by omega
      clear hL hf hc
      go_wp2_with (at_builtin; refine wpList_append_own _ rfl _ _ 31 rfl w.heap.size 86 i0 (.agg #[.int .i64 0, .int .i64 0, .int .i64 0]) 3 24 Tryz.underlying31 hi hz0 hz1 hz2 rfl (by decide) _ _ _ rfl (hown.alloc _) ⟨wr.heap.size, 0, none⟩ 1 1 [.int .i64 fa, .int .i64 fk, .int .i64 fn] rfl rfl (flt_new _ _ _ _ _) (three_one _ _ _) ?c3 ?c4 ?c5 ?_)
      case c3 => unfold maxLen; omega
      case c4 => omega
      case c5 => first | omega | (simp; omega)
      intro v' w2 hown' hgrow _
      have hb2 := (hbw.alloc hbs (.cells #[.int .i64 fa, .int .i64 fk, .int .i64 fn] 86)).grown hgrow (by simp; omega) (fun k hk => (hown.lt k hk).1)
      clear hgrow hown hbw
      go_wp2
      exact ⟨⟨k + 1, rfl, by omega, by rw [HG.out]; exact hown', hb2⟩, by simp [intOf]; omega⟩
    · obtain rfl : k = n := by omega
      have b1 : decide ((k : Int) < (k : Int)) = false := by simp
      rw [show plan.take k = plan by rw [HN.out, List.take_length]] at hown
      obtain ⟨ao', cp', rfl⟩ := own_shape hown
      obtain ⟨⟨u1, x1⟩, ⟨u2, x2⟩, f1, f2, hE⟩ := HEnd.out wr ao' cp' hown hbw
      have HE : Hid (RDid G r (v.arm plan) w ((wr.setCell ⟨r, 1, none⟩ (.slice ao' k cp')).setCell ⟨r, 2, none⟩ (.int .i64 0))) := hE
      clear hown hbw hE
      go_wp2
      go_returns
      exact ⟨rfl, HE.out⟩
set_option maxHeartbeats 4000000 in
theorem rRestart_c (G : Nat → Prop) (r : Nat) (v : Vs) (n : Int) (cv : Value) (cuts : List Int) (w : World) (h : RV G r v w) (hw : Wf v.st) (hr : v.round ≤ 4194304) (hc : RowI w cv cuts) (hcf : cuts ≠ [] → ∀ k, cv.ownBlock = some k → ¬ G k) (hcl : cuts.length ≤ 4194304) :
    Calls Tryz.prog 14 #[.pointer (some ⟨r, 0, none⟩), .int .i64 n, cv] w fun e w' => e = .returned (.tuple #[]) ∧ RDid G r (v.restart n cuts) w w' := by
  obtain ⟨d, pv, Fd, O⟩ := h
  have c0 := O.cell0
  obtain ⟨ao, cl, cp, hv⟩ : ∃ ao cl cp, cv = .slice ao cl cp := by
    rcases hc with ⟨_, ao, c, h⟩ | ⟨b, off, cap, h, _⟩
    · exact ⟨_, _, _, h⟩
    · exact ⟨_, _, _, h⟩
  have HC : Hid (Calls Tryz.prog 38 #[.pointer (some ⟨d, 0, none⟩), .int .i64 n, cv] w fun e w' => e = .returned (.tuple #[]) ∧ w'.cell? ⟨r, 4, none⟩ = some (.int .i64 v.round) ∧ (∃ u, w'.cell? ⟨r, 1, none⟩ = some u) ∧ (∃ u, w'.cell? ⟨r, 2, none⟩ = some u) ∧ (∃ u, w'.cell? ⟨r, 3, none⟩ = some u) ∧ (∀ j, w'.frozen? ⟨r, j, none⟩ = false) ∧ RDid G r (v.restart n cuts) w ((((w'.setCell ⟨r, 3, none⟩ (.bool false)).setCell ⟨r, 1, none⟩ (.slice none 0 0)).setCell ⟨r, 2, none⟩ (.int .i64 0)).setCell ⟨r, 4, none⟩ (.int .i64 ((v.round : Int) + 1)))) := by
    obtain ⟨bv, dv, dvs, hd⟩ := O.disk
    refine (crash_c Fd d v.st bv dv dvs n cv cuts w hd hw hc (fun h0 k hk hF => hcf h0 k hk (O.sub k hF)) hcl).mono ?_
    rintro e w' ⟨rfl, h1⟩
    obtain ⟨O1, k1⟩ := O.did h1
    obtain ⟨_, y1, y2, y3, y4, yf⟩ := O1.cells
    obtain ⟨O2, k2⟩ := O1.set (v' := { v.on (v.st.crash n cuts) with off := false }) 3 (.bool false) rfl rfl rfl
    obtain ⟨O3, k3⟩ := O2.armed (pv' := .slice none 0 0) (plan := []) (.inl ⟨rfl, _, _, rfl⟩) (fun h => absurd rfl h) (by simp)
    obtain ⟨O4, k4⟩ := O3.set (v' := { v.on (v.st.crash n cuts) with off := false, plan := [], cnt := 0 }) 2 (.int .i64 0) rfl rfl rfl
    obtain ⟨O5, k5⟩ := O4.set (v' := v.restart n cuts) 4 (.int .i64 ((v.round : Int) + 1)) rfl rfl rfl
    have kk := k1.then (((k2.trans k3).trans k4).trans k5)
    have hs5 : ((((w'.setCell ⟨r, 3, none⟩ (.bool false)).setCell ⟨r, 1, none⟩ (.slice none 0 0)).setCell ⟨r, 2, none⟩ (.int .i64 0)).setCell ⟨r, 4, none⟩ (.int .i64 ((v.round : Int) + 1))).heap.size = w'.heap.size := by simp [World.setCell]
    refine ⟨rfl, y4, ⟨_, y1⟩, ⟨_, y2⟩, ⟨_, y3⟩, yf, ⟨d, _, _, O5.mono (fun k hk => ?_) (fun k hk => ?_)⟩, kk⟩
    · unfold ext; rw [hs5]; exact hk
    · unfold ext at hk; rw [hs5] at hk ⊢; exact O1.low k hk
  subst hv
  clear hc hcf hcl hw O
  go_enter Tryz.func14, Tryz.ntmps14
  go_wp2_with (go_at_call 38; refine HC.out.mono ?_; rintro e w1 ⟨rfl, y4, ⟨u1, y1⟩, ⟨u2, y2⟩, ⟨u3, y3⟩, yf, hR⟩; have f1 := yf 1; have f2 := yf 2; have f3 := yf 3; have f4 := yf 4; clear yf)
  go_returns
  exact ⟨rfl, hR⟩
end Go.Proofs.YtofmiaaglbcebaaGreatDoor
