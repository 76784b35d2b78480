import Derived.Test.YtofmiaaglbcebaaGreatDoorM2
import Derived.Test.YtofmiaaglbcebaaGreatDoorU13
import Derived.Deep.QuietTactic
import Derived.BigQuiet

-- The document's volume with its calls, in memory; what a call meets.
namespace Go.Proofs.YtofmiaaglbcebaaGreatDoor
open Go.RowKit
set_option linter.unusedVariables false
theorem refSt_same {F : Nat → Prop} {p : Nat} {st : St} {w w' : World} (h : RefSt F p st w) (hk : ∀ k, F k → k < w.heap.size → w'.heap[k]? = w.heap[k]?) : RefSt F p st w' := by
  obtain ⟨bv, dv, dvs, h⟩ := h
  exact ⟨bv, dv, dvs, h.same hk⟩
def rfV (d : Nat) (pv : Value) (v : Vs) : Array Value := #[.pointer (some ⟨d, 0, none⟩), pv, .int .i64 v.cnt, .bool v.off, .int .i64 v.round]
structure RVo (G : Nat → Prop) (r : Nat) (v : Vs) (w : World) (d : Nat) (pv : Value) (Fd : Nat → Prop) : Prop where
  disk : RefSt Fd d v.st w
  sub : ∀ k, Fd k → G k
  nq : ¬ Fd r
  own : G r
  map : v.plan ≠ [] → ∀ b, pv.ownBlock = some b → G b ∧ ¬ Fd b ∧ b ≠ r
  blk : w.heap[r]? = some (.cells (rfV d pv v) 54 (0, 0))
  plan : RowP w pv v.plan
  few : v.plan.length ≤ 4194304
  low : ∀ k, G k → k < w.heap.size
/-- The document's volume with its calls. -/
def RV (G : Nat → Prop) (r : Nat) (v : Vs) (w : World) : Prop := ∃ d pv Fd, RVo G r v w d pv Fd
theorem RowP.eq {w w' : World} {v : Value} {l : List Flt} (h : RowP w v l) (hs : w.heap.size ≤ w'.heap.size) (hk : l ≠ [] → ∀ b, v.ownBlock = some b → b < w.heap.size → w'.heap[b]? = w.heap[b]?) : RowP w' v l := by
  rcases h with h | ⟨b, off, cap, rfl, hb, hc⟩
  · exact .inl h
  · refine .inr ⟨b, off, cap, rfl, Nat.lt_of_lt_of_le hb hs, fun j f hj => ?_⟩
    have hne : l ≠ [] := fun e => by rw [e] at hj; simp at hj
    have hbb := hk hne b rfl hb
    obtain ⟨h1, h2, h3⟩ := hc j f hj
    exact ⟨(World.cell?_of_block (a := ⟨b, _, none⟩) hbb).trans h1, (World.cell?_of_block (a := ⟨b, _, none⟩) hbb).trans h2, (World.cell?_of_block (a := ⟨b, _, none⟩) hbb).trans h3⟩
section
variable {G Fd : Nat → Prop} {r d : Nat} {pv : Value} {v : Vs} {w w' : World}
theorem RVo.lt (O : RVo G r v w d pv Fd) : r < w.heap.size := (Array.getElem?_eq_some_iff.1 O.blk).1
theorem RVo.same (O : RVo G r v w d pv Fd) (hs : w.heap.size ≤ w'.heap.size) (hk : ∀ k, G k → k < w.heap.size → w'.heap[k]? = w.heap[k]?) : RVo G r v w' d pv Fd where
  disk := refSt_same O.disk fun k h1 h2 => hk k (O.sub k h1) h2
  sub := O.sub
  nq := O.nq
  own := O.own
  map := O.map
  blk := (hk r O.own O.lt).trans O.blk
  plan := O.plan.eq hs fun hne b hb hl => hk b (O.map hne b hb).1 hl
  few := O.few
  low := fun k h => Nat.lt_of_lt_of_le (O.low k h) hs
theorem RVo.below (O : RVo G r v w d pv Fd) (hb : Below w.heap.size w w') : RVo G r v w' d pv Fd := O.same hb.size fun k _ hk => hb.block k hk
theorem RVo.mono {G' : Nat → Prop} (O : RVo G r v w d pv Fd) (hG : ∀ k, G k → G' k) (hl : ∀ k, G' k → k < w.heap.size) : RVo G' r v w d pv Fd where
  disk := O.disk
  sub := fun k hk => hG k (O.sub k hk)
  nq := O.nq
  own := hG r O.own
  map := fun hne b hb => ⟨hG b (O.map hne b hb).1, (O.map hne b hb).2⟩
  blk := O.blk
  plan := O.plan
  few := O.few
  low := hl
theorem RVo.did {st : St} (O : RVo G r v w d pv Fd) (h : Did Fd d st w w') : RVo (ext G w w') r (v.on st) w' d pv (ext Fd w w') ∧ Kp G w w' := by
  have hq := O.lt
  have hs := h.2.size
  have hkp : Kp G w w' := ⟨h.2.os, h.2.tape, h.2.output, h.2.size, fun k h1 h2 => h.2.block k h1 fun h3 => h2 (O.sub k h3)⟩
  have no : ∀ k, k < w.heap.size → ¬ Fd k → ¬ ext Fd w w' k := fun k h1 h2 h3 => by
    rcases h3 with h3 | h3
    · exact h2 h3
    · omega
  refine ⟨⟨h.1, fun k hk => ?_, no r hq O.nq, .inl O.own, fun hne b hb => ?_, (h.2.block r hq O.nq).trans O.blk, O.plan.eq hs fun hne b hb hl => h.2.block b hl (O.map hne b hb).2.1, O.few, fun k hk => ?_⟩, hkp⟩
  · rcases hk with hk | hk
    · exact .inl (O.sub k hk)
    · exact .inr hk
  · obtain ⟨h1, h2, h3⟩ := O.map hne b hb
    exact ⟨.inl h1, no b (O.low b h1) h2, h3⟩
  · rcases hk with hk | hk
    · have := O.low k hk; omega
    · exact hk.2
/-- A cell of the volume's block is written. -/
theorem RVo.set {v' : Vs} (O : RVo G r v w d pv Fd) (j : Nat) (x : Value) (hst : v'.st = v.st) (hpl : v'.plan = v.plan) (hx : (rfV d pv v).setIfInBounds j x = rfV d pv v') : RVo G r v' (w.setCell ⟨r, j, none⟩ x) d pv Fd ∧ Kp G w (w.setCell ⟨r, j, none⟩ x) := by
  have oth : ∀ k, k ≠ r → (w.setCell ⟨r, j, none⟩ x).heap[k]? = w.heap[k]? := fun k hk => Below.heap_setCell _ _ _ _ hk
  have hs : w.heap.size ≤ (w.setCell ⟨r, j, none⟩ x).heap.size := by simp [World.setCell]
  refine ⟨⟨?_, O.sub, O.nq, O.own, by rw [hpl]; exact O.map, ?_, ?_, by rw [hpl]; exact O.few, fun k hk => Nat.lt_of_lt_of_le (O.low k hk) hs⟩, ⟨rfl, rfl, rfl, hs, fun k _ hk => oth k fun e => hk (e ▸ O.own)⟩⟩
  · rw [hst]; exact refSt_same O.disk fun k hk _ => oth k fun e => O.nq (e ▸ hk)
  · rw [blk_set O.blk, hx]
  · rw [hpl]; exact O.plan.eq hs fun hne b hb _ => oth b (O.map hne b hb).2.2
theorem RVo.cells (O : RVo G r v w d pv Fd) : w.cell? ⟨r, 0, none⟩ = some (.pointer (some ⟨d, 0, none⟩)) ∧ w.cell? ⟨r, 1, none⟩ = some pv ∧ w.cell? ⟨r, 2, none⟩ = some (.int .i64 v.cnt) ∧ w.cell? ⟨r, 3, none⟩ = some (.bool v.off) ∧ w.cell? ⟨r, 4, none⟩ = some (.int .i64 v.round) ∧ ∀ j, w.frozen? ⟨r, j, none⟩ = false := by
  refine ⟨?_, ?_, ?_, ?_, ?_, fun j => Lib.frozen_of_heap O.blk j⟩ <;> (rw [Lib.cell_of_heap O.blk]; rfl)
theorem RV.below (h : RV G r v w) (hb : Below w.heap.size w w') : RV G r v w' := by
  obtain ⟨d, pv, Fd, O⟩ := h
  exact ⟨d, pv, Fd, O.below hb⟩
theorem RV.same (h : RV G r v w) (hs : w.heap.size ≤ w'.heap.size) (hk : ∀ k, G k → k < w.heap.size → w'.heap[k]? = w.heap[k]?) : RV G r v w' := by
  obtain ⟨d, pv, Fd, O⟩ := h
  exact ⟨d, pv, Fd, O.same hs hk⟩
theorem RV.mono {G' : Nat → Prop} (h : RV G r v w) (hG : ∀ k, G k → G' k) (hl : ∀ k, G' k → k < w.heap.size) : RV G' r v w := by
  obtain ⟨d, pv, Fd, O⟩ := h
  exact ⟨d, pv, Fd, O.mono hG hl⟩
theorem RV.low (h : RV G r v w) : ∀ k, G k → k < w.heap.size := by
  obtain ⟨d, pv, Fd, O⟩ := h
  exact O.low
end
/-- What a call on it has done. -/
def RDid (G : Nat → Prop) (r : Nat) (v : Vs) (w w' : World) : Prop := RV (ext G w w') r v w' ∧ Kp G w w'
theorem RDid.of {G : Nat → Prop} {r : Nat} {v : Vs} {w w' : World} (h : RV G r v w') (hk : Kp G w w') : RDid G r v w w' :=
  ⟨h.mono (fun k hk => .inl hk) (fun k hk' => by
    rcases hk' with hk' | hk'
    · exact h.low k hk'
    · exact hk'.2), hk⟩
theorem RDid.below {G : Nat → Prop} {r : Nat} {v : Vs} {w w' w'' : World} (h : RDid G r v w w') (hb : Below w'.heap.size w' w'') : RDid G r v w w'' := by
  have hs := hb.size
  refine ⟨(h.1.below hb).mono (fun k hk => ?_) (fun k hk => ?_), h.2.kept hb⟩
  · rcases hk with hk | hk
    · exact .inl hk
    · exact .inr ⟨hk.1, by omega⟩
  · rcases hk with hk | hk
    · have := h.1.low k (.inl hk); omega
    · exact hk.2
theorem RDid.after {G : Nat → Prop} {r : Nat} {v v' : Vs} {w w1 w2 : World} (h : RV G r v w1) (hk : Kp G w w1) (hd : RDid G r v' w1 w2) : RDid G r v' w w2 := by
  have h1 := hk.size
  have h2 := hd.2.size
  refine ⟨hd.1.mono (fun i hi => ?_) (fun i hi => ?_), hk.trans hd.2⟩
  · rcases hi with hi | hi
    · exact .inl hi
    · exact .inr ⟨by omega, hi.2⟩
  · rcases hi with hi | hi
    · exact hd.1.low i (.inl hi)
    · exact hi.2
theorem hit_first {plan : List Flt} {c : Int} {k : Nat} {f : Flt} (hb : ∀ j g, j < k → plan[j]? = some g → g.at_ ≠ c) (hk : plan[k]? = some f) (hf : f.at_ = c) : hit plan c = some f := by
  induction plan generalizing k with
  | nil => simp at hk
  | cons x rest ih =>
    cases k with
    | zero =>
      simp at hk; subst hk
      simp [hit, hf]
    | succ k =>
      have hx := hb 0 x (by omega) rfl
      have := ih (k := k) (fun j g hj hg => hb (j + 1) g (by omega) (by simpa using hg)) (by simpa using hk)
      unfold hit at this ⊢
      rw [List.find?_cons_of_neg (by simpa using hx)]; exact this
theorem hit_none {plan : List Flt} {c : Int} (hb : ∀ j g, j < plan.length → plan[j]? = some g → g.at_ ≠ c) : hit plan c = none := by
  unfold hit
  rw [List.find?_eq_none]
  intro x hx
  obtain ⟨j, hj⟩ := List.getElem?_of_mem hx
  have : j < plan.length := (List.getElem?_eq_some_iff.1 hj).1
  simpa using hb j x this hj
set_option maxHeartbeats 4000000 in
theorem struck_c (G : Nat → Prop) (r : Nat) (v : Vs) (w : World) (h : RV G r v w) :
    Calls Tryz.prog 77 #[.pointer (some ⟨r, 0, none⟩)] w fun e w' => ((∃ (j : Nat) (f : Flt), e = .returned (.int .i64 j) ∧ v.plan[j]? = some f ∧ hit v.plan v.cnt = some f) ∨ (e = .returned (.int .i64 (-1)) ∧ hit v.plan v.cnt = none)) ∧ Below w.heap.size w w' := by
  obtain ⟨d, pv, Fd, O⟩ := h
  obtain ⟨ao, cp, hv⟩ := O.plan.form
  have HC : Hid (∀ W, Below w.heap.size w W → W.cell? ⟨r, 1, none⟩ = some (.slice ao v.plan.length cp) ∧ W.cell? ⟨r, 2, none⟩ = some (.int .i64 v.cnt)) := fun W hb => by
    obtain ⟨_, k1, k2, _⟩ := (O.below hb).cells
    rw [hv] at k1; exact ⟨k1, k2⟩
  have HF : Hid (∀ k, k < v.plan.length → ∃ f, v.plan[k]? = some f ∧ ∃ b off, ao = some ⟨b, off, none⟩ ∧ ∀ W, Below w.heap.size w W → W.cell? ⟨b, off + k * 3, none⟩ = some (.int .i64 f.at_)) := fun k hk => by
    refine ⟨v.plan[k], List.getElem?_eq_getElem hk, ?_⟩
    rcases O.plan with ⟨h0, _⟩ | ⟨b, off, cap, hv', hb, hc⟩
    · rw [h0] at hk; simp at hk
    · rw [hv] at hv'; cases hv'
      exact ⟨b, off, rfl, fun W hb' => cell_below hb' (hc k _ (List.getElem?_eq_getElem hk)).1⟩
  have hfew := O.few
  obtain ⟨n, hn⟩ : ∃ n, n = v.plan.length := ⟨_, rfl⟩
  have HN : Hid (n = v.plan.length) := hn
  rw [← hn] at HC HF hfew
  obtain ⟨cn, hcn⟩ : ∃ cn, cn = v.cnt := ⟨_, rfl⟩
  rw [← hcn] at HC
  rw [← hcn]
  clear O hv hn hcn
  go_enter Tryz.func77, Tryz.ntmps77
  go_wp2
  go_loopw [3] (fun i wr => ∃ k : Nat, i = .int .i64 k ∧ k ≤ n ∧ (∀ j g, j < k → v.plan[j]? = some g → g.at_ ≠ (cn : Int)) ∧ Below w.heap.size w wr) (fun i _ => n - (intOf i).toNat)
  case atStart => exact ⟨0, rfl, Nat.zero_le _, fun j g hj => by omega, Below.refl _ _⟩
  case round =>
    obtain ⟨k, rfl, hkn, hno, hbw⟩ := hrel
    obtain ⟨c1, c2⟩ := HC.out wr hbw
    by_cases hk : k < n
    · obtain ⟨f, hf, b, off, rfl, hcell⟩ := HF.out k hk
      have e0 := hcell wr hbw
      have b1 : decide ((k : Int) < (n : Int)) = true := by simp; omega
      have i1 : (k : Int) < (n : Int) := by omega
      have i2 : (0 : Int) ≤ (k : Int) := by omega
      have HNO : Hid (∀ j g, j < k → v.plan[j]? = some g → g.at_ ≠ (cn : Int)) := hno
      have HBW : Hid (Below w.heap.size w wr) := hbw
      have HFF : Hid (v.plan[k]? = some f) := hf
      obtain ⟨fa, fk, fn⟩ := f
      simp only at e0
      clear hno hbw hf hcell
      by_cases he : fa = (cn : Int)
      · have b2 : (fa == (cn : Int)) = true := by simpa using he
        go_wp2
        go_quiet (fail)
        go_wp2
        go_returns
        exact ⟨.inl ⟨k, _, rfl, HFF.out, hit_first HNO.out HFF.out he⟩, below_drewN HBW.out nq⟩
      · have b2 : (fa == (cn : Int)) = false := by simpa using he
        go_wp2
        go_quiet (fail)
        go_wp2
        refine ⟨⟨k + 1, rfl, by omega, fun j g hj hg => ?_, below_drewN HBW.out nq⟩, by simp [intOf]; omega⟩
        rcases Nat.lt_or_ge j k with h' | h'
        · exact HNO.out j g h' hg
        · have : j = k := by omega
          subst this
          rw [HFF.out] at hg; cases hg; exact he
    · obtain rfl : k = n := by omega
      have b1 : decide ((k : Int) < (k : Int)) = false := by simp
      have HR : Hid (hit v.plan (cn : Int) = none) := hit_none fun j g hj hg => hno j g (by rw [HN.out]; exact hj) hg
      clear hno
      go_wp2
      go_returns
      exact ⟨.inr ⟨rfl, HR.out⟩, hbw⟩
end Go.Proofs.YtofmiaaglbcebaaGreatDoor

-- What a call of the document's volume meets.
namespace Go.Proofs.YtofmiaaglbcebaaGreatDoor
open Go.RowKit
set_option linter.unusedVariables false
/-- How many bytes a short write is to write; -1: it is none. -/
def Vs.sh (v : Vs) : Int := match v.short with | none => -1 | some n => if n < 0 then 0 else n
theorem met_all (v : Vs) (hoff : v.off = false) (f : Flt) (hf : f = (hit v.plan ((v.cnt : Int) + 1)).getD noFlt) :
    (f.kind = 1 → v.met = (40, v.tick) ∧ v.sh = -1) ∧ (f.kind = 2 → v.met = (40, v.tick) ∧ v.sh = if f.n < 0 then 0 else f.n) ∧ (f.kind = 3 → v.met = (41, v.cut) ∧ v.sh = -1) ∧ (f.kind ≠ 1 → f.kind ≠ 2 → f.kind ≠ 3 → v.met = (0, v.tick) ∧ v.sh = -1) := by
  cases hh : hit v.plan ((v.cnt : Int) + 1) with
  | none =>
    rw [hh] at hf; simp at hf; subst hf
    refine ⟨fun h => absurd h (by decide), fun h => absurd h (by decide), fun h => absurd h (by decide), fun _ _ _ => ?_⟩
    simp [Vs.met, Vs.sh, Vs.short, Vs.strikes, hoff, hh]
  | some g =>
    rw [hh] at hf; simp at hf; subst hf
    refine ⟨fun h => ?_, fun h => ?_, fun h => ?_, fun h1 h2 h3 => ?_⟩
    · simp [Vs.met, Vs.sh, Vs.short, Vs.strikes, hoff, hh, h]
    · simp [Vs.met, Vs.sh, Vs.short, Vs.strikes, hoff, hh, h]
    · simp [Vs.met, Vs.sh, Vs.short, Vs.strikes, hoff, hh, h]
    · simp [Vs.met, Vs.sh, Vs.short, Vs.strikes, hoff, hh, h1, h2, h3]
set_option maxHeartbeats 4000000 in
theorem meets_c (G : Nat → Prop) (r : Nat) (v : Vs) (w : World) (h : RV G r v w) (hn : v.cnt ≤ 4194304) :
    Calls Tryz.prog 56 #[.pointer (some ⟨r, 0, none⟩)] w fun e w' => e = .returned (.tuple #[.int .i64 v.met.1, .int .i64 v.sh]) ∧ RV G r v.met.2 w' ∧ Kp G w w' := by
  obtain ⟨d, pv, Fd, O⟩ := h
  obtain ⟨c0, c1, c2, c3, c4, cf⟩ := O.cells
  rcases hoff : v.off with _ | _
  · obtain ⟨T, hT⟩ : ∃ T, T = w.setCell ⟨r, 2, none⟩ (.int .i64 ((v.cnt : Int) + 1)) := ⟨_, rfl⟩
    have O1 := O.set (v' := v.tick) 2 (.int .i64 ((v.cnt : Int) + 1)) rfl rfl rfl
    rw [← hT] at O1
    obtain ⟨ao, cp, hv⟩ := O.plan.form
    have HS : Hid (Calls Tryz.prog 77 #[.pointer (some ⟨r, 0, none⟩)] T fun e w' => ((∃ (j : Nat) (f : Flt), e = .returned (.int .i64 j) ∧ v.plan[j]? = some f ∧ hit v.plan ((v.cnt : Int) + 1) = some f) ∨ (e = .returned (.int .i64 (-1)) ∧ hit v.plan ((v.cnt : Int) + 1) = none)) ∧ Below T.heap.size T w') := struck_c G r v.tick T ⟨d, pv, Fd, O1.1⟩
    have HO1 : Hid (∀ W, Below T.heap.size T W → RVo G r v.tick W d pv Fd ∧ Kp G w W ∧ W.cell? ⟨r, 1, none⟩ = some (.slice ao v.plan.length cp) ∧ (W.cell? ⟨r, 3, none⟩ = some (.bool v.off)) ∧ W.frozen? ⟨r, 3, none⟩ = false) := fun W hb => by
      have OW := O1.1.below hb
      obtain ⟨_, k1, _, k3, _, kf⟩ := OW.cells
      rw [hv] at k1
      exact ⟨OW, O1.2.kept hb, k1, k3, kf 3⟩
    have HF : Hid (∀ (k : Nat) f, v.plan[k]? = some f → ∃ b off, ao = some ⟨b, off, none⟩ ∧ k < v.plan.length ∧ ∀ W, Below T.heap.size T W → W.cell? ⟨b, off + k * 3 + 1, none⟩ = some (.int .i64 f.kind) ∧ W.cell? ⟨b, off + k * 3 + 2, none⟩ = some (.int .i64 f.n)) := fun k f hk => by
      have hkl : k < v.plan.length := (List.getElem?_eq_some_iff.1 hk).1
      rcases O1.1.plan with ⟨h0, _⟩ | ⟨b, off, cap, hv', hb, hc⟩
      · have h0' : v.plan = [] := h0
        rw [h0'] at hkl; simp at hkl
      · rw [hv] at hv'; cases hv'
        exact ⟨b, off, rfl, hkl, fun W hb' => ⟨cell_below hb' (hc k _ hk).2.1, cell_below hb' (hc k _ hk).2.2⟩⟩
    have HK : Hid (∀ f, f = (hit v.plan ((v.cnt : Int) + 1)).getD noFlt → (f.kind = 1 → v.met = (40, v.tick) ∧ v.sh = -1) ∧ (f.kind = 2 → v.met = (40, v.tick) ∧ v.sh = if f.n < 0 then 0 else f.n) ∧ (f.kind = 3 → v.met = (41, v.cut) ∧ v.sh = -1) ∧ (f.kind ≠ 1 → f.kind ≠ 2 → f.kind ≠ 3 → v.met = (0, v.tick) ∧ v.sh = -1)) := fun f hf => met_all v hoff f hf
    have f2 := cf 2
    rw [hoff] at c3
    obtain ⟨n, hnn⟩ : ∃ n, n = v.plan.length := ⟨_, rfl⟩
    rw [← hnn] at HO1 HF
    have hfew : n ≤ 4194304 := by rw [hnn]; exact O.few
    obtain ⟨cn, hcn⟩ : ∃ cn, cn = v.cnt := ⟨_, rfl⟩
    rw [← hcn] at c2 hn hT HS HK
    have HT : Hid (T = w.setCell ⟨r, 2, none⟩ (.int .i64 ((cn : Int) + 1))) := hT
    clear O O1 c0 c1 c4 cf hoff hv hnn hcn hT
    go_enter Tryz.func56, Tryz.ntmps56
    go_wp2_with fail
    rw [← HT.out]
    go_at_call 77
    refine HS.out.mono ?_
    rintro e w1 ⟨hres, hb1⟩
    obtain ⟨OW, kW, x1, x3, z3⟩ := HO1.out w1 hb1
    have HW : Hid (RVo G r v.tick w1 d pv Fd ∧ Kp G w w1) := ⟨OW, kW⟩
    rcases hres with ⟨j, f, rfl, hj, hh⟩ | ⟨rfl, hh⟩
    · obtain ⟨b, off, rfl, hjl, hcell⟩ := HF.out j f hj
      obtain ⟨y1, y2⟩ := hcell w1 hb1
      have hk := HK.out f (by rw [hh]; rfl)
      obtain ⟨fa, fk, fn⟩ := f
      simp only at y1 y2 hk
      have HKK : Hid ((fk = 1 → v.met = (40, v.tick) ∧ v.sh = -1) ∧ (fk = 2 → v.met = (40, v.tick) ∧ v.sh = if fn < 0 then 0 else fn) ∧ (fk = 3 → v.met = (41, v.cut) ∧ v.sh = -1) ∧ (fk ≠ 1 → fk ≠ 2 → fk ≠ 3 → v.met = (0, v.tick) ∧ v.sh = -1)) := hk
      have i1 : (j : Int) < (n : Int) := by omega
      have i2 : (0 : Int) ≤ (j : Int) := by omega
      have b0 : decide ((j : Int) < 0) = false := decide_eq_false (by omega)
      clear hk hcell hh hj OW kW hb1
      by_cases h1 : fk = 1
      · have HE : Hid (v.met = (40, v.tick) ∧ v.sh = -1) := HKK.out.1 h1
        subst h1
        go_wp2
        go_returns
        rw [HE.out.1, HE.out.2]
        exact ⟨rfl, ⟨d, pv, Fd, HW.out.1⟩, HW.out.2⟩
      · by_cases h2 : fk = 2
        · have HE : Hid (v.met = (40, v.tick) ∧ v.sh = if fn < 0 then 0 else fn) := HKK.out.2.1 h2
          subst h2
          by_cases hf : fn < 0
          · have b1 : decide (fn < 0) = true := decide_eq_true hf
            have HE2 : Hid (v.sh = 0) := by show _ = _; rw [HE.out.2, if_pos hf]
            go_wp2
            go_returns
            rw [HE.out.1, HE2.out]
            exact ⟨rfl, ⟨d, pv, Fd, HW.out.1⟩, HW.out.2⟩
          · have b1 : decide (fn < 0) = false := decide_eq_false hf
            have HE2 : Hid (v.sh = fn) := by show _ = _; rw [HE.out.2, if_neg hf]
            go_wp2
            go_returns
            rw [HE.out.1, HE2.out]
            exact ⟨rfl, ⟨d, pv, Fd, HW.out.1⟩, HW.out.2⟩
        · by_cases h3 : fk = 3
          · have HE : Hid (v.met = (41, v.cut) ∧ v.sh = -1) := HKK.out.2.2.1 h3
            subst h3
            have HC : Hid (RVo G r v.cut (w1.setCell ⟨r, 3, none⟩ (.bool true)) d pv Fd ∧ Kp G w (w1.setCell ⟨r, 3, none⟩ (.bool true))) := by
              have := HW.out.1.set (v' := v.cut) 3 (.bool true) rfl rfl rfl
              exact ⟨this.1, HW.out.2.trans this.2⟩
            go_wp2
            go_returns
            rw [HE.out.1, HE.out.2]
            exact ⟨rfl, ⟨d, pv, Fd, HC.out.1⟩, HC.out.2⟩
          · have HE : Hid (v.met = (0, v.tick) ∧ v.sh = -1) := HKK.out.2.2.2 h1 h2 h3
            have b1 : (fk == (1 : Int)) = false := by simpa using h1
            have b2 : (fk == (2 : Int)) = false := by simpa using h2
            have b3 : (fk == (3 : Int)) = false := by simpa using h3
            go_wp2
            go_returns
            rw [HE.out.1, HE.out.2]
            exact ⟨rfl, ⟨d, pv, Fd, HW.out.1⟩, HW.out.2⟩
    · have hk := HK.out noFlt (by rw [hh]; rfl)
      have HE : Hid (v.met = (0, v.tick) ∧ v.sh = -1) := hk.2.2.2 (by decide) (by decide) (by decide)
      clear hk hh OW kW hb1 HF HK
      go_wp2
      go_returns
      rw [HE.out.1, HE.out.2]
      exact ⟨rfl, ⟨d, pv, Fd, HW.out.1⟩, HW.out.2⟩
  · have HM : Hid (v.met = (41, v) ∧ v.sh = -1) := ⟨met_off hoff, by simp [Vs.sh, Vs.short, hoff]⟩
    have HO : Hid (RVo G r v w d pv Fd) := O
    rw [hoff] at c3
    clear O c0 c1 c2 c4 cf hoff
    go_enter Tryz.func56, Tryz.ntmps56
    go_wp2
    go_returns
    rw [HM.out.1, HM.out.2]
    exact ⟨rfl, ⟨d, pv, Fd, HO.out⟩, Kp.of_below (Below.refl _ _)⟩
end Go.Proofs.YtofmiaaglbcebaaGreatDoor
