
-- CommitEveryCut, plainly: the power goes at the k-th call.
import Derived.Test.YtbbblncoicjacaaGreatXT
namespace Go.Proofs.YtbbblncoicjacaaGreat
open Go
set_option linter.unusedVariables false
/-- The control behind j calls, and behind the cut. -/
def cutAt (c : Vs) (k : Nat) : Vs := { c with cnt := k, off := true }
structure Cuts (c : Vs) (k : Nat) : Prop where
  plan : ∃ m, c.plan = [⟨(k : Int), 3, m⟩]
  off : c.off = false
  cnt : c.cnt = 0
theorem cut_met {c : Vs} {k : Nat} (h : Cuts c k) (j : Nat) : (c.ticks j).met = if j + 1 = k then (41, cutAt c k) else (0, c.ticks (j + 1)) := by
  obtain ⟨⟨m, h1⟩, h2, h3⟩ := h
  obtain ⟨st, plan, cnt, off, rd⟩ := c
  simp only at h1 h2 h3
  subst h1; subst h2; subst h3
  have ht : Vs.ticks ⟨st, [⟨(k : Int), 3, m⟩], 0, false, rd⟩ j = ⟨st, [⟨(k : Int), 3, m⟩], j, false, rd⟩ := by unfold Vs.ticks; simp
  rw [ht]
  by_cases hj : j + 1 = k
  · have hh : hit [⟨(k : Int), 3, m⟩] ((j : Int) + 1) = some ⟨(k : Int), 3, m⟩ := by
      unfold hit
      rw [List.find?_cons_of_pos]
      simp; omega
    have hs : Vs.strikes ⟨st, [⟨(k : Int), 3, m⟩], j, false, rd⟩ = some ⟨(k : Int), 3, m⟩ := by
      unfold Vs.strikes
      show (match hit [⟨(k : Int), 3, m⟩] ((j : Int) + 1) with | none => none | some f => _) = _
      rw [hh]; simp
    rw [if_pos hj]
    unfold Vs.met
    rw [hs]
    simp [Vs.cut, cutAt, hj]
  · have hh : hit [⟨(k : Int), 3, m⟩] ((j : Int) + 1) = none := by
      unfold hit
      rw [List.find?_cons_of_neg (by simp; omega)]; rfl
    have hs : Vs.strikes ⟨st, [⟨(k : Int), 3, m⟩], j, false, rd⟩ = none := by
      unfold Vs.strikes
      show (match hit [⟨(k : Int), 3, m⟩] ((j : Int) + 1) with | none => none | some f => _) = _
      rw [hh]
    rw [if_neg hj]
    unfold Vs.met
    rw [hs]
    simp [Vs.tick, Vs.ticks]
theorem cut_off {c : Vs} (k : Nat) : (cutAt c k).met = (41, cutAt c k) := met_off rfl
theorem ctlFill_cut (U cap : Nat) (data : ByteArray) (h : U + data.size ≤ cap) {c : Vs} {k : Nat} (hc : Cuts c k) (n : Nat) : ∀ (i j : Nat), i + n = nP data → Vs.ctlFill U cap data n i (c.ticks j) = if j < k ∧ k ≤ j + n + 1 then (41, cutAt c k) else (0, c.ticks (j + n + 1)) := by
  induction n with
  | zero =>
    intro i j hi
    unfold Vs.ctlFill
    rw [cut_met hc]
    by_cases hj : j + 1 = k
    · rw [if_pos hj, if_pos (by omega)]
    · rw [if_neg hj, if_neg (by omega)]
  | succ n ih =>
    intro i j hi
    have h1 := nP_lt (data := data) (k := i) (by omega)
    have h2 : (pieceOf data i).size ≤ data.size - i * 512 := by rw [piece_size]; omega
    unfold Vs.ctlFill
    rw [cut_met hc]
    by_cases hj : j + 1 = k
    · rw [if_pos hj, if_neg (show ¬ ((41 : Nat) = 0) by decide), if_pos (by omega)]
      have hs : (c.ticks j).short = none := by
        obtain ⟨⟨m, h1⟩, h2, h3⟩ := hc
        unfold Vs.short
        rw [if_neg (by show ¬ c.off = true; rw [h2]; decide)]
        have : (c.ticks j).strikes = some ⟨(k : Int), 3, m⟩ := by
          unfold Vs.strikes hit
          show (match List.find? _ c.plan with | none => none | some f => _) = _
          rw [h1]
          have e : (k : Int) = ((c.cnt + j : Nat) : Int) + 1 := by omega
          simp [Vs.ticks, e]
        rw [this]
        simp
      rw [hs]
    · rw [if_neg hj, if_pos rfl, if_neg (by omega)]
      simp only
      rw [ih (i + 1) (j + 1) (by omega)]
      by_cases hk : j < k ∧ k ≤ j + (n + 1) + 1
      · rw [if_pos hk, if_pos (by omega)]
      · rw [if_neg hk, if_neg (by omega), show j + 1 + n + 1 = j + (n + 1) + 1 by omega]
theorem ticks_zero (c : Vs) : c.ticks 0 = c := rfl
/-- What Replace answers where the power goes at the k-th call, and there is room. -/
theorem ctl_cut (U cap : Nat) (data : ByteArray) (h : U + data.size ≤ cap) {c : Vs} {k : Nat} (hc : Cuts c k) (hk : 1 ≤ k) :
    Vs.ctl U cap false data c = if k < 5 + nP data then (41, cutAt c k) else if k = 5 + nP data then (160, cutAt c k) else (0, c.ticks (5 + nP data)) := by
  have hw : ∀ j, j < k → Vs.ctlWritten U cap false data (c.ticks j) = if k ≤ j + nP data + 2 then (41, cutAt c k) else (0, c.ticks (j + nP data + 2)) := fun j hj => by
    unfold Vs.ctlWritten
    rw [cut_met hc]
    by_cases hj1 : j + 1 = k
    · rw [if_pos hj1, if_pos (show (41 : Nat) ≠ 0 by decide), if_pos (by omega)]
    · rw [if_neg hj1, if_neg (show ¬ ((0 : Nat) ≠ 0) by simp), if_neg (by simp)]
      simp only
      rw [ctlFill_cut U cap data h hc (nP data) 0 (j + 1) (by omega)]
      by_cases hk2 : k ≤ j + nP data + 2
      · rw [if_pos (by omega), if_pos hk2]
      · rw [if_neg (by omega), if_neg hk2, show j + 1 + nP data + 1 = j + nP data + 2 by omega]
  have he : ∀ j, j < k → Vs.ctlExch U cap false data (c.ticks j) = if k ≤ j + nP data + 3 then (41, cutAt c k) else (0, c.ticks (j + nP data + 3)) := fun j hj => by
    unfold Vs.ctlExch
    rw [hw j hj]
    by_cases hk1 : k ≤ j + nP data + 2
    · rw [if_pos hk1, if_pos (show (41 : Nat) ≠ 0 by decide), if_pos (by omega)]
      simp only
      rw [cut_off]
    · rw [if_neg hk1, if_neg (show ¬ ((0 : Nat) ≠ 0) by simp)]
      simp only
      rw [cut_met hc]
      by_cases hk2 : j + nP data + 2 + 1 = k
      · rw [if_pos hk2, if_pos (show (41 : Nat) ≠ 0 by decide), if_pos (by omega)]
        simp only
        rw [cut_off]
      · rw [if_neg hk2, if_neg (show ¬ ((0 : Nat) ≠ 0) by simp), if_neg (by omega)]
  unfold Vs.ctl
  have h0 := cut_met hc 0
  rw [ticks_zero] at h0
  rw [h0]
  by_cases hk1 : 0 + 1 = k
  · rw [if_pos hk1, if_pos (show (41 : Nat) ≠ 0 by decide), if_pos (by omega)]
  · rw [if_neg hk1, if_neg (show ¬ ((0 : Nat) ≠ 0) by simp)]
    simp only
    rw [he (0 + 1) (by omega)]
    by_cases hk2 : k ≤ 0 + 1 + nP data + 3
    · rw [if_pos hk2, if_pos (show (41 : Nat) ≠ 0 by decide), if_pos (by omega)]
    · rw [if_neg hk2, if_neg (show ¬ ((0 : Nat) ≠ 0) by simp)]
      simp only
      rw [cut_met hc]
      by_cases hk3 : 0 + 1 + nP data + 3 + 1 = k
      · rw [if_pos hk3, if_pos (show (41 : Nat) ≠ 0 by decide), if_neg (by omega), if_pos (by omega)]
      · rw [if_neg hk3, if_neg (show ¬ ((0 : Nat) ≠ 0) by simp), if_neg (by omega), if_neg (by omega), show 0 + 1 + nP data + 3 + 1 = 5 + nP data by omega]
theorem everyCut_plain (s : St) (cap : Nat) (L : List Fil) (hsc : Sc s [L]) (hcap : s.cap = cap) (hb : s.bodies.length < 2097151) (hlen : s.now.length < 64) (nm da : ByteArray) (hda : sizeF L + da.size ≤ cap) (hne : nm ≠ tmpB) (hok : okName nm = true) (m0 m1 m2 m3 : Int) (k : Nat) (hk : 1 ≤ k) (n : Int) (cuts : List Int) :
    ∃ E v2 A, (⟨s, [⟨(k : Int), 3, 0⟩], 0, false, 0⟩ : Vs).replace nm da m0 m1 m2 m3 = ((E, ((⟨s, [⟨(k : Int), 3, 0⟩], 0, false, 0⟩ : Vs).replace nm da m0 m1 m2 m3).1.2), v2) ∧ Wf v2.st ∧ v2.round = 0 ∧ Sc (v2.st.crash n cuts) [A] ∧
      v2.off = decide (k ≤ 5 + nP da) ∧ E = (if k < 5 + nP da then 41 else if k = 5 + nP da then 160 else 0) ∧ (A = L ∨ A = newF L (nm, (m0, m1, m2, m3), da)) ∧ (5 + nP da < k → A = newF L (nm, (m0, m1, m2, m3), da)) ∧ (k < 5 + nP da → A = L) := by
  obtain ⟨s', a, e, c', h1, h2, h3, h4⟩ := rep_any ⟨s, [⟨(k : Int), 3, 0⟩], 0, false, 0⟩ s L hsc hb nm da m0 m1 m2 m3
  have h1' : (⟨s, [⟨(k : Int), 3, 0⟩], 0, false, 0⟩ : Vs).replace nm da m0 m1 m2 m3 = ((e, a), c'.on s') := h1
  have hrd : (c'.on s').round = 0 := by
    have := repl_round (⟨s, [⟨(k : Int), 3, 0⟩], 0, false, 0⟩ : Vs) nm da m0 m1 m2 m3
    rw [h1'] at this; exact this
  have hfull : isFull s = false := by unfold isFull; exact decide_eq_false fun h => by have := h.2; omega
  have hctl := h3 hne hok
  rw [hfull, hcap, ctl_cut (sizeF L) cap da hda (c := ⟨s, [⟨(k : Int), 3, 0⟩], 0, false, 0⟩) (k := k) ⟨⟨0, rfl⟩, rfl, rfl⟩ hk] at hctl
  have hE : e = (if k < 5 + nP da then 41 else if k = 5 + nP da then 160 else 0) := by
    have := congrArg Prod.fst hctl
    simp only at this
    rw [this]; split
    · rfl
    · split <;> rfl
  have hoff : c'.off = decide (k ≤ 5 + nP da) := by
    have := congrArg Prod.snd hctl
    simp only at this
    rw [this]; split
    · rw [decide_eq_true (by omega)]; rfl
    · split
      · rw [decide_eq_true (by omega)]; rfl
      · rw [decide_eq_false (by omega)]; rfl
  refine ⟨e, c'.on s', pickS e n L (nm, (m0, m1, m2, m3), da), by rw [h1'], (left_now h2).2.1, hrd, left_crash h2 n cuts, hoff, hE, pick_or _ _ _ _, fun hh => ?_, fun hh => ?_⟩
  · have : e = 0 := by rw [hE, if_neg (by omega), if_neg (by omega)]
    unfold pickS; rw [if_pos this]
  · have : e = 41 := by rw [hE, if_pos hh]
    unfold pickS; rw [if_neg (by omega), if_neg (by omega)]
end Go.Proofs.YtbbblncoicjacaaGreat
