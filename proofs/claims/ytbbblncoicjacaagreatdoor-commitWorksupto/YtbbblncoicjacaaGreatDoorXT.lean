
-- What Replace answers, by the plan and the room; what is seen behind it.
import Derived.Test.YtbbblncoicjacaaGreatDoorXS
namespace Go.Proofs.YtbbblncoicjacaaGreatDoor
open Go
set_option linter.unusedVariables false
theorem ctlFill_room (U cap : Nat) (data : ByteArray) (h : U + data.size ≤ cap) (n : Nat) : ∀ (k : Nat) (c : Vs), c.calm → k + n = nP data → Vs.ctlFill U cap data n k c = (0, c.ticks (n + 1)) := by
  induction n with
  | zero => intro k c hc hk; unfold Vs.ctlFill; rw [calm_met hc]; rfl
  | succ n ih =>
    intro k c hc hk
    have h1 := nP_lt (data := data) (k := k) (by omega)
    have h2 : (pieceOf data k).size ≤ data.size - k * 512 := by rw [piece_size]; omega
    unfold Vs.ctlFill
    rw [calm_met hc, if_pos rfl, if_neg (by omega)]
    have := ih (k + 1) c.tick hc (by omega)
    rw [this]
    show (0, (c.ticks 1).ticks (n + 1)) = _
    unfold Vs.ticks
    simp only
    rw [show c.cnt + 1 + (n + 1) = c.cnt + (n + 1 + 1) by omega]
theorem ticks_ticks (c : Vs) (a b : Nat) : (c.ticks a).ticks b = c.ticks (a + b) := by
  unfold Vs.ticks; simp only; rw [Nat.add_assoc]
theorem ctl_room (U cap : Nat) (data : ByteArray) (c : Vs) (hc : c.calm) (h : U + data.size ≤ cap) : Vs.ctl U cap false data c = (0, c.ticks (5 + nP data)) := by
  have hw : ∀ c : Vs, c.calm → Vs.ctlWritten U cap false data c = (0, c.ticks (2 + nP data)) := fun c hc => by
    unfold Vs.ctlWritten
    rw [calm_met hc, if_neg (by simp), if_neg (by simp)]
    show Vs.ctlFill U cap data (nP data) 0 (c.ticks 1) = _
    rw [ctlFill_room U cap data h (nP data) 0 _ (calm_ticks hc 1) (by omega), ticks_ticks]
    rw [show 1 + (nP data + 1) = 2 + nP data by omega]
  have he : ∀ c : Vs, c.calm → Vs.ctlExch U cap false data c = (0, c.ticks (3 + nP data)) := fun c hc => by
    unfold Vs.ctlExch
    rw [hw c hc, if_neg (by simp)]
    simp only
    rw [calm_met (calm_ticks hc _), if_neg (by simp)]
    simp only
    rw [tick_ticks, show 2 + nP data + 1 = 3 + nP data by omega]
  unfold Vs.ctl
  rw [calm_met hc, if_neg (by simp)]
  simp only
  rw [tick_one, he _ (calm_ticks hc 1), if_neg (by simp)]
  simp only
  rw [ticks_ticks, calm_met (calm_ticks hc _), if_neg (by simp)]
  simp only
  rw [tick_ticks, show 1 + (3 + nP data) + 1 = 5 + nP data by omega]
/-- No room: some piece is refused. -/
theorem ctlFill_no (U cap : Nat) (data : ByteArray) (h : cap < U + data.size) (n : Nat) : ∀ (k : Nat) (c : Vs), k + (n + 1) = nP data → (Vs.ctlFill U cap data (n + 1) k c).1 ≠ 0 := by
  induction n with
  | zero =>
    intro k c hk
    have h1 := nP_lt (data := data) (k := k) (by omega)
    have h2 : data.size ≤ (k + 1) * 512 := nP_ge (by omega)
    have h3 : (pieceOf data k).size = data.size - k * 512 := by rw [piece_size]; omega
    unfold Vs.ctlFill
    split
    · rw [if_pos (by omega)]; exact (show (31 : Nat) ≠ 0 by decide)
    · rename_i hm
      split
      · exact hm
      · show (if _ then 31 else c.met.1) ≠ 0
        split
        · decide
        · exact hm
  | succ n ih =>
    intro k c hk
    unfold Vs.ctlFill
    split
    · split
      · exact (show (31 : Nat) ≠ 0 by decide)
      · exact ih (k + 1) _ (by omega)
    · rename_i hm
      split
      · exact hm
      · show (if _ then 31 else c.met.1) ≠ 0
        split
        · decide
        · exact hm
theorem ctl_no (U cap : Nat) (full : Bool) (data : ByteArray) (c : Vs) (hd : data ≠ ⟨#[]⟩) (h : cap < U + data.size) : (Vs.ctl U cap full data c).1 ≠ 0 := by
  have hn : 0 < nP data := by
    have : data.size ≠ 0 := fun e => hd (by cases data with | mk d => have e2 : d = #[] := Array.eq_empty_of_size_eq_zero e; rw [e2])
    unfold nP; omega
  obtain ⟨n, hn'⟩ : ∃ n, nP data = n + 1 := ⟨nP data - 1, by omega⟩
  have hw : ∀ c : Vs, (Vs.ctlWritten U cap full data c).1 ≠ 0 := fun c => by
    unfold Vs.ctlWritten
    split
    · rename_i hm; exact hm
    · split
      · exact (show (33 : Nat) ≠ 0 by decide)
      · rw [hn']; exact ctlFill_no U cap data h n 0 _ (by omega)
  have he : ∀ c : Vs, (Vs.ctlExch U cap full data c).1 ≠ 0 := fun c => by
    unfold Vs.ctlExch; rw [if_pos (hw c)]; exact hw c
  unfold Vs.ctl
  split
  · rename_i hm; exact hm
  · rw [if_pos (he _)]; exact he _
/-- Without faults that cut the power it stays on. -/
def noCut (p : List Flt) : Prop := ∀ f ∈ p, f.kind ≠ 3
theorem hit_mem {p : List Flt} {k : Int} {f : Flt} (h : hit p k = some f) : f ∈ p := List.mem_of_find?_eq_some h
theorem met_on_off {c : Vs} (hp : noCut c.plan) : c.met.2.off = c.off ∧ c.met.2.plan = c.plan := by
  unfold Vs.met
  split
  · exact ⟨rfl, rfl⟩
  · split
    · exact ⟨rfl, rfl⟩
    · rename_i f hf
      have hk : f.kind ≠ 3 := by
        unfold Vs.strikes at hf
        split at hf
        · cases hf
        · rename_i g hg
          split at hf
          · cases hf; exact hp _ (hit_mem hg)
          · cases hf
      rw [if_neg hk]; exact ⟨rfl, rfl⟩
theorem ctlFill_on (U cap : Nat) (data : ByteArray) (n : Nat) : ∀ (k : Nat) (c : Vs), noCut c.plan → (Vs.ctlFill U cap data n k c).2.off = c.off ∧ (Vs.ctlFill U cap data n k c).2.plan = c.plan := by
  induction n with
  | zero => intro k c hp; unfold Vs.ctlFill; exact met_on_off hp
  | succ n ih =>
    intro k c hp
    have hm := met_on_off hp
    unfold Vs.ctlFill
    split
    · split
      · exact hm
      · have := ih (k + 1) c.met.2 (by rw [hm.2]; exact hp)
        exact ⟨this.1.trans hm.1, this.2.trans hm.2⟩
    · split <;> exact hm
theorem ctl_on (U cap : Nat) (full : Bool) (data : ByteArray) (c : Vs) (hp : noCut c.plan) : (Vs.ctl U cap full data c).2.off = c.off := by
  have st : ∀ c' : Vs, c'.off = c.off ∧ c'.plan = c.plan → c'.met.2.off = c.off ∧ c'.met.2.plan = c.plan := fun c' h => by
    have := met_on_off (c := c') (by rw [h.2]; exact hp)
    exact ⟨this.1.trans h.1, this.2.trans h.2⟩
  have hw : ∀ c' : Vs, c'.off = c.off ∧ c'.plan = c.plan → (Vs.ctlWritten U cap full data c').2.off = c.off ∧ (Vs.ctlWritten U cap full data c').2.plan = c.plan := fun c' h => by
    unfold Vs.ctlWritten
    split
    · exact st c' h
    · split
      · exact st c' h
      · have h1 := st c' h
        have := ctlFill_on U cap data (nP data) 0 c'.met.2 (by rw [h1.2]; exact hp)
        exact ⟨this.1.trans h1.1, this.2.trans h1.2⟩
  have he : ∀ c' : Vs, c'.off = c.off ∧ c'.plan = c.plan → (Vs.ctlExch U cap full data c').2.off = c.off ∧ (Vs.ctlExch U cap full data c').2.plan = c.plan := fun c' h => by
    unfold Vs.ctlExch
    split
    · exact st _ (hw c' h)
    · split
      · exact st _ (st _ (hw c' h))
      · exact st _ (hw c' h)
  unfold Vs.ctl
  have h1 := st c ⟨rfl, rfl⟩
  split
  · exact h1.1
  · split
    · exact (he _ h1).1
    · split <;> exact (st _ (he _ h1)).1
/-- Behind a replacement, and behind a restart: what is seen. -/
def nowSeen (e : Nat) (L : List Fil) (x : Fil) : List Fil := if e = 0 ∨ e = 160 then newF L x else L
def pickS (e : Nat) (n : Int) (L : List Fil) (x : Fil) : List Fil := if e = 0 then newF L x else if e = 160 then ([L, L, newF L x][(within n 0 2).toNat]?).getD [] else L
theorem all_last {S : List (List Fil)} {L : List Fil} (hne : S ≠ []) (h : ∀ l ∈ S, l = L) : lastS S = L := by
  unfold lastS
  cases hg : S.getLast? with
  | none => exact absurd (List.getLast?_eq_none_iff.1 hg) hne
  | some y => exact h y (List.mem_of_getLast? hg)
theorem left_now {e : Nat} {s' : St} {L : List Fil} {x : Fil} (h : Left e s' L x) : seen s'.bodies s'.now = nowSeen e L x ∧ Wf s' ∧ DW s' := by
  rcases h with ⟨h0, h1⟩ | ⟨h0, h1⟩ | ⟨h0, h2, S', h1, h3, h4⟩
  · refine ⟨?_, h1.wf, h1.dw⟩; rw [h1.now]; unfold nowSeen; rw [if_pos (.inl h0)]; rfl
  · refine ⟨?_, h1.wf, h1.dw⟩; rw [h1.now]; unfold nowSeen; rw [if_pos (.inr h0)]; rfl
  · refine ⟨?_, h1.wf, h1.dw⟩; rw [h1.now]; unfold nowSeen; rw [if_neg (by omega)]; exact all_last h3 h4
theorem left_crash {e : Nat} {s' : St} {L : List Fil} {x : Fil} (h : Left e s' L x) (n : Int) (cuts : List Int) : Sc (s'.crash n cuts) [pickS e n L x] := by
  rcases h with ⟨h0, h1⟩ | ⟨h0, h1⟩ | ⟨h0, h2, S', h1, h3, h4⟩
  · have := sc_crash h1 n cuts
    obtain ⟨m, hm, hm2⟩ := within_nat n 0
    have e1 : ([newF L x][(within n 0 (([newF L x].length - 1 : Nat) : Int)).toNat]?).getD [] = newF L x := by
      show ([newF L x][(within n 0 ((0 : Nat) : Int)).toNat]?).getD [] = _
      rw [hm, Int.toNat_natCast, show m = 0 by omega]; rfl
    rw [e1] at this
    unfold pickS; rw [if_pos h0]; exact this
  · have := sc_crash h1 n cuts
    unfold pickS; rw [if_neg (by omega), if_pos h0]; exact this
  · have := sc_crash h1 n cuts
    obtain ⟨m, hm, hm2⟩ := within_nat n (S'.length - 1)
    have hp : 0 < S'.length := List.length_pos_iff.2 h3
    have e1 : (S'[(within n 0 ((S'.length - 1 : Nat) : Int)).toNat]?).getD [] = L := by
      rw [hm, Int.toNat_natCast, List.getElem?_eq_getElem (by omega)]
      exact h4 _ (List.getElem_mem _)
    rw [e1] at this
    unfold pickS; rw [if_neg h0, if_neg h2]; exact this
theorem pick_or (e : Nat) (n : Int) (L : List Fil) (x : Fil) : pickS e n L x = L ∨ pickS e n L x = newF L x := by
  unfold pickS
  split
  · exact .inr rfl
  · split
    · obtain ⟨m, hm, hm2⟩ := within_nat n 2
      rw [show (2 : Int) = ((2 : Nat) : Int) from rfl, hm, Int.toNat_natCast]
      match m, hm2 with
      | 0, _ => exact .inl rfl
      | 1, _ => exact .inl rfl
      | 2, _ => exact .inr rfl
    · exact .inl rfl
theorem fill_round (x : Hd) (data : ByteArray) (n : Nat) : ∀ (k : Nat) (v : Vs), (Vs.fillN x data n k v).2.round = v.round := by
  have hs : ∀ v : Vs, (v.sync x).2.round = v.round := fun v => by
    unfold Vs.sync Vs.syncB
    split
    · rfl
    · split
      · exact met_round v
      · exact met_round v
  have hw : ∀ (v : Vs) d, (v.write x d).2.round = v.round := fun v d => by
    unfold Vs.write Vs.writeB
    split
    · rfl
    · split
      · split <;> exact met_round v
      · split
        · exact met_round v
        · split <;> exact met_round v
  induction n with
  | zero => intro k v; exact hs v
  | succ n ih =>
    intro k v
    unfold Vs.fillN
    split
    · exact hw v _
    · rw [ih, hw]
theorem repl_round (v : Vs) (nm da : ByteArray) (m0 m1 m2 m3 : Int) : (v.replace nm da m0 m1 m2 m3).2.round = v.round := by
  have hc : ∀ v : Vs, (v.create tmpB m0 m1 m2 m3).2.round = v.round := fun v => by
    unfold Vs.create; split <;> exact met_round v
  have hsd : ∀ v : Vs, v.syncDir.2.round = v.round := fun v => by unfold Vs.syncDir; split <;> exact met_round v
  have hrn : ∀ v : Vs, (v.rename tmpB nm).2.round = v.round := fun v => by unfold Vs.rename; split <;> exact met_round v
  have hrm : ∀ v : Vs, (v.remove tmpB).2.round = v.round := fun v => by unfold Vs.remove; split <;> exact met_round v
  have hwr : ∀ v : Vs, (v.written da m0 m1 m2 m3).2.round = v.round := fun v => by
    unfold Vs.written
    split
    · exact hc v
    · rw [fill_round]; exact hc v
  have hnm : ∀ a : (Nat × Nat) × Vs, (Vs.named a nm).2.round = a.2.round := fun a => by
    unfold Vs.named; split
    · rfl
    · exact hrn a.2
  have hun : ∀ a : (Nat × Nat) × Vs, (Vs.undone a).2.round = a.2.round := fun a => by
    unfold Vs.undone; split
    · exact hrm a.2
    · rfl
  have hla : ∀ a : (Nat × Nat) × Vs, (Vs.lastly a).2.round = a.2.round := fun a => by
    unfold Vs.lastly; split
    · rfl
    · split <;> exact hsd a.2
  unfold Vs.replace
  split
  · rfl
  · split
    · rfl
    · split
      · exact hsd v
      · rw [hla]; unfold Vs.exch; rw [hun, hnm, hwr, hsd]
theorem newF_has (L : List Fil) (x : Fil) : decide (thatF (newF L x) x.1 = [x]) = true := decide_eq_true (newF_that L x)
/-- Replace on a scene that was armed: whatever the name. -/
theorem rep_any (c : Vs) (s : St) (L : List Fil) (h : Sc s [L]) (hb : s.bodies.length < 2097151) (name data : ByteArray) (m0 m1 m2 m3 : Int) :
    ∃ s' a e c', (c.on s).replace name data m0 m1 m2 m3 = ((e, a), c'.on s') ∧ Left e s' L (name, (m0, m1, m2, m3), data) ∧ (name ≠ tmpB → okName name = true → (e, c') = Vs.ctl (sizeF L) s.cap (isFull s) data c) ∧ ((name = tmpB ∨ okName name = false) → (e = 161 ∨ e = 32) ∧ c' = c) := by
  by_cases h1 : name = tmpB
  · refine ⟨s, 1, 161, c, ?_, .inr (.inr ⟨by decide, by decide, [L], h, by simp, fun l hl => by simpa using hl⟩), fun hn => absurd h1 hn, fun _ => ⟨.inl rfl, rfl⟩⟩
    unfold Vs.replace; rw [if_pos h1]
  · by_cases h2 : okName name = false
    · refine ⟨s, 1, 32, c, ?_, .inr (.inr ⟨by decide, by decide, [L], h, by simp, fun l hl => by simpa using hl⟩), (fun _ hn => by rw [h2] at hn; cases hn), fun _ => ⟨.inr rfl, rfl⟩⟩
      unfold Vs.replace; rw [if_neg h1, if_pos h2]
    · have h3 : okName name = true := by simpa using h2
      obtain ⟨s', a, r1, r2⟩ := rep_all c s L h hb name data m0 m1 m2 m3 h1 h3
      refine ⟨s', a, _, _, r1, r2, fun _ _ => rfl, fun hn => ?_⟩
      rcases hn with hn | hn
      · exact absurd hn h1
      · exact absurd hn h2
theorem notFull {s : St} {L : List Fil} (h : Sc s [L]) (hl : L.length < 64) : isFull s = false := by
  unfold isFull
  refine decide_eq_false fun hh => ?_
  have hs : seen s.bodies s.now = L := h.now
  have hno : without s.now tmpB = s.now := without_self fun e he hn => by
    have hp : ∀ f ∈ s.now, f.2 ≠ 0 := fun f hf => by have := (h.wf.led _ (now_mem h.wf) f hf).1; omega
    have := leads_ne s.now e he hp
    rw [hn] at this
    exact this hh.1
  have : L.length = s.now.length := by rw [← hs]; unfold seen; rw [hno, List.length_map]
  omega
theorem first_io {c : Vs} {f : Flt} {r : List Flt} (hp : c.plan = f :: r) (hc : c.cnt = 0) (ho : c.off = false) (h1 : f.at_ = 1) (h2 : f.kind = 1) (U cap : Nat) (full : Bool) (data : ByteArray) : (Vs.ctl U cap full data c).1 = 40 := by
  have hh : hit c.plan ((c.cnt : Int) + 1) = some f := by
    unfold hit; rw [hp, hc]; simp [h1]
  have hs : c.strikes = some f := by unfold Vs.strikes; rw [hh]; simp [h2]
  have hm : c.met = (40, c.tick) := by unfold Vs.met; rw [ho, hs]; simp [h2]
  unfold Vs.ctl
  rw [hm, if_pos (show (40 : Nat) ≠ 0 by decide)]
end Go.Proofs.YtbbblncoicjacaaGreatDoor
