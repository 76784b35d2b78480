import Derived.Test.YtggnjgmjfenibaaGreatDoorM1
import Derived.Deep.QuietTactic
import Derived.BigQuiet

-- The document's volume with its calls, in memory; what a call meets.
namespace Go.Proofs.YtggnjgmjfenibaaGreatDoor
open Go.RowKit
set_option linter.unusedVariables false
theorem refSt_same {F : Nat → Prop} {p : Nat} {st : St} {w w' : World} (h : RefSt F p st w) (hk : ∀ k, F k → k < w.heap.size → w'.heap[k]? = w.heap[k]?) : RefSt F p st w' := by
  obtain ⟨bv, dv, dvs, h⟩ := h
  exact ⟨bv, dv, dvs, h.same hk⟩
def rfV (d : Nat) (pv : Value) (v : Vs) : Array Value := #[.pointer (some ⟨d, 0, none⟩), pv, .int .i64 v.cnt, .bool v.off, .int .i64 v.round]
structure RVo (G : Nat → Prop) (r : Nat) (v : Vs) (w : World) (d : Nat) (pv : Value) (Fd : Nat → Prop) : Prop where
  disk : RefSt Fd d v.st w
  sub : ∀ k, Fd k → G k
  nq : ¬ Fd r
  own : G r
  map : v.plan ≠ [] → ∀ b, pv.ownBlock = some b → G b ∧ ¬ Fd b ∧ b ≠ r
  blk : w.heap[r]? = some (.cells (rfV d pv v) 54 (0, 0))
  plan : RowP w pv v.plan
  few : v.plan.length ≤ 4194304
  low : ∀ k, G k → k < w.heap.size
/-- The document's volume with its calls. -/
def RV (G : Nat → Prop) (r : Nat) (v : Vs) (w : World) : Prop := ∃ d pv Fd, RVo G r v w d pv Fd
theorem RowP.eq {w w' : World} {v : Value} {l : List Flt} (h : RowP w v l) (hs : w.heap.size ≤ w'.heap.size) (hk : l ≠ [] → ∀ b, v.ownBlock = some b → b < w.heap.size → w'.heap[b]? = w.heap[b]?) : RowP w' v l := by
  rcases h with h | ⟨b, off, cap, rfl, hb, hc⟩
  · exact .inl h
  · refine .inr ⟨b, off, cap, rfl, Nat.lt_of_lt_of_le hb hs, fun j f hj => ?_⟩
    have hne : l ≠ [] := fun e => by rw [e] at hj; simp at hj
    have hbb := hk hne b rfl hb
    obtain ⟨h1, h2, h3⟩ := hc j f hj
    exact ⟨(World.cell?_of_block (a := ⟨b, _, none⟩) hbb).trans h1, (World.cell?_of_block (a := ⟨b, _, none⟩) hbb).trans h2, (World.cell?_of_block (a := ⟨b, _, none⟩) hbb).trans h3⟩
section
variable {G Fd : Nat → Prop} {r d : Nat} {pv : Value} {v : Vs} {w w' : World}
theorem RVo.lt (O : RVo G r v w d pv Fd) : r < w.heap.size := (Array.getElem?_eq_some_iff.1 O.blk).1
theorem RVo.same (O : RVo G r v w d pv Fd) (hs : w.heap.size ≤ w'.heap.size) (hk : ∀ k, G k → k < w.heap.size → w'.heap[k]? = w.heap[k]?) : RVo G r v w' d pv Fd where
  disk := refSt_same O.disk fun k h1 h2 => hk k (O.sub k h1) h2
  sub := O.sub
  nq := O.nq
  own := O.own
  map := O.map
  blk := (hk r O.own O.lt).trans O.blk
  plan := O.plan.eq hs fun hne b hb hl => hk b (O.map hne b hb).1 hl
  few := O.few
  low := fun k h => Nat.lt_of_lt_of_le (O.low k h) hs
theorem RVo.below (O : RVo G r v w d pv Fd) (hb : Below w.heap.size w w') : RVo G r v w' d pv Fd := O.same hb.size fun k _ hk => hb.block k hk
theorem RVo.mono {G' : Nat → Prop} (O : RVo G r v w d pv Fd) (hG : ∀ k, G k → G' k) (hl : ∀ k, G' k → k < w.heap.size) : RVo G' r v w d pv Fd where
  disk := O.disk
  sub := fun k hk => hG k (O.sub k hk)
  nq := O.nq
  own := hG r O.own
  map := fun hne b hb => ⟨hG b (O.map hne b hb).1, (O.map hne b hb).2⟩
  blk := O.blk
  plan := O.plan
  few := O.few
  low := hl
theorem RVo.did {st : St} (O : RVo G r v w d pv Fd) (h : Did Fd d st w w') : RVo (ext G w w') r (v.on st) w' d pv (ext Fd w w') ∧ Kp G w w' := by
  have hq := O.lt
  have hs := h.2.size
  have hkp : Kp G w w' := ⟨h.2.os, h.2.tape, h.2.output, h.2.size, fun k h1 h2 => h.2.block k h1 fun h3 => h2 (O.sub k h3)⟩
  have no : ∀ k, k < w.heap.size → ¬ Fd k → ¬ ext Fd w w' k := fun k h1 h2 h3 => by
    rcases h3 with h3 | h3
    · exact h2 h3
    · omega
  refine ⟨⟨h.1, fun k hk => ?_, no r hq O.nq, .inl O.own, fun hne b hb => ?_, (h.2.block r hq O.nq).trans O.blk, O.plan.eq hs fun hne b hb hl => h.2.block b hl (O.map hne b hb).2.1, O.few, fun k hk => ?_⟩, hkp⟩
  · rcases hk with hk | hk
    · exact .inl (O.sub k hk)
    · exact .inr hk
  · obtain ⟨h1, h2, h3⟩ := O.map hne b hb
    exact ⟨.inl h1, no b (O.low b h1) h2, h3⟩
  · rcases hk with hk | hk
    · have := O.low k hk; omega
    · exact hk.2
/-- A cell of the volume's block is written. -/
theorem RVo.set {v' : Vs} (O : RVo G r v w d pv Fd) (j : Nat) (x : Value) (hst : v'.st = v.st) (hpl : v'.plan = v.plan) (hx : (rfV d pv v).setIfInBounds j x = rfV d pv v') : RVo G r v' (w.setCell ⟨r, j, none⟩ x) d pv Fd ∧ Kp G w (w.setCell ⟨r, j, none⟩ x) := by
  have oth : ∀ k, k ≠ r → (w.setCell ⟨r, j, none⟩ x).heap[k]? = w.heap[k]? := fun k hk => Below.heap_setCell _ _ _ _ hk
  have hs : w.heap.size ≤ (w.setCell ⟨r, j, none⟩ x).heap.size := by simp [World.setCell]
  refine ⟨⟨?_, O.sub, O.nq, O.own, by rw [hpl]; exact O.map, ?_, ?_, by rw [hpl]; exact O.few, fun k hk => Nat.lt_of_lt_of_le (O.low k hk) hs⟩, ⟨rfl, rfl, rfl, hs, fun k _ hk => oth k fun e => hk (e ▸ O.own)⟩⟩
  · rw [hst]; exact refSt_same O.disk fun k hk _ => oth k fun e => O.nq (e ▸ hk)
  · rw [blk_set O.blk, hx]
  · rw [hpl]; exact O.plan.eq hs fun hne b hb _ => oth b (O.map hne b hb).2.2
theorem RVo.cells (O : RVo G r v w d pv Fd) : w.cell? ⟨r, 0, none⟩ = some (.pointer (some ⟨d, 0, none⟩)) ∧ w.cell? ⟨r, 1, none⟩ = some pv ∧ w.cell? ⟨r, 2, none⟩ = some (.int .i64 v.cnt) ∧ w.cell? ⟨r, 3, none⟩ = some (.bool v.off) ∧ w.cell? ⟨r, 4, none⟩ = some (.int .i64 v.round) ∧ ∀ j, w.frozen? ⟨r, j, none⟩ = false := by
  refine ⟨?_, ?_, ?_, ?_, ?_, fun j => Lib.frozen_of_heap O.blk j⟩ <;> (rw [Lib.cell_of_heap O.blk]; rfl)
theorem RV.below (h : RV G r v w) (hb : Below w.heap.size w w') : RV G r v w' := by
  obtain ⟨d, pv, Fd, O⟩ := h
  exact ⟨d, pv, Fd, O.below hb⟩
theorem RV.same (h : RV G r v w) (hs : w.heap.size ≤ w'.heap.size) (hk : ∀ k, G k → k < w.heap.size → w'.heap[k]? = w.heap[k]?) : RV G r v w' := by
  obtain ⟨d, pv, Fd, O⟩ := h
  exact ⟨d, pv, Fd, O.same hs hk⟩
theorem RV.mono {G' : Nat → Prop} (h : RV G r v w) (hG : ∀ k, G k → G' k) (hl : ∀ k, G' k → k < w.heap.size) : RV G' r v w := by
  obtain ⟨d, pv, Fd, O⟩ := h
  exact ⟨d, pv, Fd, O.mono hG hl⟩
theorem RV.low (h : RV G r v w) : ∀ k, G k → k < w.heap.size := by
  obtain ⟨d, pv, Fd, O⟩ := h
  exact O.low
end
/-- What a call on it has done. -/
def RDid (G : Nat → Prop) (r : Nat) (v : Vs) (w w' : World) : Prop := RV (ext G w w') r v w' ∧ Kp G w w'
theorem RDid.of {G : Nat → Prop} {r : Nat} {v : Vs} {w w' : World} (h : RV G r v w') (hk : Kp G w w') : RDid G r v w w' :=
  ⟨h.mono (fun k hk => .inl hk) (fun k hk' => by
    rcases hk' with hk' | hk'
    · exact h.low k hk'
    · exact hk'.2), hk⟩
theorem RDid.below {G : Nat → Prop} {r : Nat} {v : Vs} {w w' w'' : World} (h : RDid G r v w w') (hb : Below w'.heap.size w' w'') : RDid G r v w w'' := by
  have hs := hb.size
  refine ⟨(h.1.below hb).mono (fun k hk => ?_) (fun k hk => ?_), h.2.kept hb⟩
  · rcases hk with hk | hk
    · exact .inl hk
    · exact .inr ⟨hk.1, by omega⟩
  · rcases hk with hk | hk
    · have := h.1.low k (.inl hk); omega
    · exact hk.2
theorem RDid.after {G : Nat → Prop} {r : Nat} {v v' : Vs} {w w1 w2 : World} (h : RV G r v w1) (hk : Kp G w w1) (hd : RDid G r v' w1 w2) : RDid G r v' w w2 := by
  have h1 := hk.size
  have h2 := hd.2.size
  refine ⟨hd.1.mono (fun i hi => ?_) (fun i hi => ?_), hk.trans hd.2⟩
  · rcases hi with hi | hi
    · exact .inl hi
    · exact .inr ⟨by omega, hi.2⟩
  · rcases hi with hi | hi
    · exact hd.1.low i (.inl hi)
    · exact hi.2
theorem hit_first {plan : List Flt} {c : Int} {k : Nat} {f : Flt} (hb : ∀ j g, j < k → plan[j]? = some g → g.at_ ≠ c) (hk : plan[k]? = some f) (hf : f.at_ = c) : hit plan c = some f := by
  induction plan generalizing k with
  | nil => simp at hk
  | cons x rest ih =>
    cases k with
    | zero =>
      simp at hk; subst hk
      simp [hit, hf]
    | succ k =>
      have hx := hb 0 x (by omega) rfl
      have := ih (k := k) (fun j g hj hg => hb (j + 1) g (by omega) (by simpa using hg)) (by simpa using hk)
      unfold hit at this ⊢
      rw [List.find?_cons_of_neg (by simpa using hx)]; exact this
theorem hit_none {plan : List Flt} {c : Int} (hb : ∀ j g, j < plan.length → plan[j]? = some g → g.at_ ≠ c) : hit plan c = none := by
  unfold hit
  rw [List.find?_eq_none]
  intro x hx
  obtain ⟨j, hj⟩ := List.getElem?_of_mem hx
  have : j < plan.length := (List.getElem?_eq_some_iff.1 hj).1
  simpa using hb j x this hj
set_option maxHeartbeats 4000000 in
theorem struck_c (G : Nat → Prop) (r : Nat) (v : Vs) (w : World) (h : RV G r v w) :
    Calls Tryz.prog 77 #[.pointer (some ⟨r, 0, none⟩)] w fun e w' => ((∃ (j : Nat) (f : Flt), e = .returned (.int .i64 j) ∧ v.plan[j]? = some f ∧ hit v.plan v.cnt = some f) ∨ (e = .returned (.int .i64 (-1)) ∧ hit v.plan v.cnt = none)) ∧ Below w.heap.size w w' := by
  obtain ⟨d, pv, Fd, O⟩ := h
  obtain ⟨ao, cp, hv⟩ := O.plan.form
  have HC : Hid (∀ W, Below w.heap.size w W → W.cell? ⟨r, 1, none⟩ = some (.slice ao v.plan.length cp) ∧ W.cell? ⟨r, 2, none⟩ = some (.int .i64 v.cnt)) := fun W hb => by
    obtain ⟨_, k1, k2, _⟩ := (O.below hb).cells
    rw [hv] at k1; exact ⟨k1, k2⟩
  have HF : Hid (∀ k, k < v.plan.length → ∃ f, v.plan[k]? = some f ∧ ∃ b off, ao = some ⟨b, off, none⟩ ∧ ∀ W, Below w.heap.size w W → W.cell? ⟨b, off + k * 3, none⟩ = some (.int .i64 f.at_)) := fun k hk => by
    refine ⟨v.plan[k], List.getElem?_eq_getElem hk, ?_⟩
    rcases O.plan with ⟨h0, _⟩ | ⟨b, off, cap, hv', hb, hc⟩
    · rw [h0] at hk; simp at hk
    · rw [hv] at hv'; cases hv'
      exact ⟨b, off, rfl, fun W hb' => cell_below hb' (hc k _ (List.getElem?_eq_getElem hk)).1⟩
  have hfew := O.few
  obtain ⟨n, hn⟩ : ∃ n, n = v.plan.length := ⟨_, rfl⟩
  have HN : Hid (n = v.plan.length) := hn
  rw [← hn] at HC HF hfew
  obtain ⟨cn, hcn⟩ : ∃ cn, cn = v.cnt := ⟨_, rfl⟩
  rw [← hcn] at HC
  rw [← hcn]
  clear O hv hn hcn
  go_enter Tryz.func77, Tryz.ntmps77
  go_wp2
  go_loopw [3] (fun i wr => ∃ k : Nat, i = .int .i64 k ∧ k ≤ n ∧ (∀ j g, j < k → v.plan[j]? = some g → g.at_ ≠ (cn : Int)) ∧ Below w.heap.size w wr) (fun i _ => n - (intOf i).toNat)
  case atStart => exact ⟨0, rfl, Nat.zero_le _, fun j g hj => by omega, Below.refl _ _⟩
  case round =>
    obtain ⟨k, rfl, hkn, hno, hbw⟩ := hrel
    obtain ⟨c1, c2⟩ := HC.out wr hbw
    by_cases hk : k < n
    · obtain ⟨f, hf, b, off, rfl, hcell⟩ := HF.out k hk
      have e0 := hcell wr hbw
      have b1 : decide ((k : Int) < (n : Int)) = true := by simp; omega
      have i1 : (k : Int) < (n : Int) := by omega
      have i2 : (0 : Int) ≤ (k : Int) := by omega
      have HNO : Hid (∀ j g, j < k → v.plan[j]? = some g → g.at_ ≠ (cn : Int)) := hno
      have HBW : Hid (Below w.heap.size w wr) := hbw
      have HFF : Hid (v.plan[k]? = some f) := hf
      obtain ⟨fa, fk, fn⟩ := f
      simp only at e0
      clear hno hbw hf hcell
      by_cases he : fa = (cn : Int)
      · have b2 : (fa == (cn : Int)) = true := by simpa using he
        go_wp2
        go_quiet (fail)
        go_wp2
        go_returns
        exact ⟨.inl ⟨k, _, rfl, HFF.out, hit_first HNO.out HFF.out he⟩, below_drewN HBW.out nq⟩
      · have b2 : (fa == (cn : Int)) = false := by simpa using he
        go_wp2
        go_quiet (fail)
        go_wp2
        refine ⟨⟨k + 1, rfl, by omega, fun j g hj hg => ?_, below_drewN HBW.out nq⟩, by simp [intOf]; omega⟩
        rcases Nat.lt_or_ge j k with h' | h'
        · exact HNO.out j g h' hg
        · have : j = k := by omega
          subst this
          rw [HFF.out] at hg; cases hg; exact he
    · obtain rfl : k = n := by omega
      have b1 : decide ((k : Int) < (k : Int)) = false := by simp
      have HR : Hid (hit v.plan (cn : Int) = none) := hit_none fun j g hj hg => hno j g (by rw [HN.out]; exact hj) hg
      clear hno
      go_wp2
      go_returns
      exact ⟨.inr ⟨rfl, HR.out⟩, hbw⟩
end Go.Proofs.YtggnjgmjfenibaaGreatDoor
