
-- A replacement for which there is room, plainly.
import Derived.Test.YtbbblncoicjacaaGreatDoorXT
import Derived.Test.YtbbblncoicjacaaGreatDoorFH
namespace Go.Proofs.YtbbblncoicjacaaGreatDoor
open Go
set_option linter.unusedVariables false
theorem rename_clean {v : Vs} {nm : ByteArray} (hne : nm ≠ tmpB) (h : (v.rename tmpB nm).1 = 0) : ∀ e ∈ (v.rename tmpB nm).2.st.now, e.1 ≠ tmpB := by
  unfold Vs.rename at h ⊢
  by_cases h1 : v.met.1 ≠ 0
  · rw [if_pos h1] at h; exact absurd h h1
  · rw [if_neg h1] at h ⊢
    show ∀ e ∈ (v.st.rename tmpB nm).2.now, e.1 ≠ tmpB
    have h' : (v.st.rename tmpB nm).1 = 0 := h
    unfold St.rename at h' ⊢
    by_cases h2 : okName tmpB = false ∨ okName nm = false
    · rw [if_pos h2] at h'; exact absurd h' (by simp)
    · rw [if_neg h2] at h' ⊢
      by_cases h3 : leads v.st.now tmpB = 0
      · rw [if_pos h3] at h'; exact absurd h' (by simp)
      · rw [if_neg h3, if_neg (fun e => hne e.symm)]
        show ∀ e ∈ St.now ⟨v.st.cap, v.st.bodies, v.st.dirs ++ [with_ (without v.st.now tmpB) nm (leads v.st.now tmpB)]⟩, e.1 ≠ tmpB
        rw [now_snoc]
        intro e he
        rcases ins_mem _ _ _ _ he with rfl | he
        · exact hne
        · have h5 := without_mem _ _ _ he
          unfold without at h5
          simpa using (List.mem_filter.1 h5).2
theorem repl_clean {v : Vs} {nm da : ByteArray} {m0 m1 m2 m3 : Int} (hne : nm ≠ tmpB) (h : (v.replace nm da m0 m1 m2 m3).1.1 = 0) : ∀ e ∈ (v.replace nm da m0 m1 m2 m3).2.st.now, e.1 ≠ tmpB := by
  unfold Vs.replace at h ⊢
  rw [if_neg hne] at h ⊢
  by_cases h1 : okName nm = false
  · rw [if_pos h1] at h; exact absurd h (by simp)
  rw [if_neg h1] at h ⊢
  by_cases h2 : v.syncDir.1 ≠ 0
  · rw [if_pos h2] at h; exact absurd h h2
  rw [if_neg h2] at h ⊢
  obtain ⟨c, hc⟩ : ∃ c, c = v.syncDir.2.written da m0 m1 m2 m3 := ⟨_, rfl⟩
  unfold Vs.exch at h ⊢
  rw [← hc] at h ⊢
  obtain ⟨a, ha⟩ : ∃ a, a = Vs.named c nm := ⟨_, rfl⟩
  rw [← ha] at h ⊢
  have hb1 : (Vs.undone a).1.1 = a.1.1 := by unfold Vs.undone; split <;> rfl
  unfold Vs.lastly at h ⊢
  by_cases h3 : (Vs.undone a).1.1 ≠ 0
  · rw [if_pos h3] at h; exact absurd h h3
  rw [if_neg h3] at h ⊢
  by_cases h4 : (Vs.undone a).2.syncDir.1 ≠ 0
  · rw [if_pos h4] at h; exact absurd h (by simp)
  rw [if_neg h4]
  have h5 : a.1.1 = 0 := by rw [← hb1]; exact Decidable.not_not.1 h3
  have h6 : Vs.undone a = a := by unfold Vs.undone; rw [if_neg (fun h => h h5)]
  rw [h6] at h4 ⊢
  have h7 : a.2.syncDir.2.st.now = a.2.st.now := by
    unfold Vs.syncDir at h4 ⊢
    by_cases h8 : a.2.met.1 ≠ 0
    · rw [if_pos h8] at h4; exact absurd h8 h4
    · rw [if_neg h8]; rfl
  show ∀ e ∈ a.2.syncDir.2.st.now, e.1 ≠ tmpB
  rw [h7]
  unfold Vs.named at ha
  by_cases h9 : c.1.1 ≠ 0
  · rw [if_pos h9] at ha; rw [ha] at h5; exact absurd h5 h9
  · rw [if_neg h9] at ha
    rw [ha] at h5 ⊢
    exact rename_clean hne h5
theorem works_plain (s : St) (c : Nat) (L : List Fil) (hsc : Sc s [L]) (hcap : s.cap = c) (hb : s.bodies.length < 2097151) (nm da : ByteArray) (m0 m1 m2 m3 : Int) (hne : nm ≠ tmpB) (hok : okName nm = true) (hroom : sizeF L + da.size ≤ c) (hfew : L.length < 64) :
    ∃ s' a, (⟨s, [], 0, false, 0⟩ : Vs).replace nm da m0 m1 m2 m3 = ((0, a), ⟨s', [], 5 + nP da, false, 0⟩) ∧ Sc s' [newF L (nm, (m0, m1, m2, m3), da)] ∧ (∀ k, (⟨s', [], k, false, 0⟩ : Vs).read nm = ((da, 0), ⟨s', [], k + 1, false, 0⟩)) ∧ (∀ k, (⟨s', [], k, false, 0⟩ : Vs).stat tmpB = (((⟨#[]⟩, noBd), 30), ⟨s', [], k + 1, false, 0⟩)) := by
  obtain ⟨s', a, r1, r2⟩ := rep_all ⟨s, [], 0, false, 0⟩ s L hsc hb nm da m0 m1 m2 m3 hne hok
  rw [notFull hsc hfew, hcap, ctl_room (sizeF L) c da _ ⟨rfl, rfl⟩ hroom] at r1 r2
  have r1' : (⟨s, [], 0, false, 0⟩ : Vs).replace nm da m0 m1 m2 m3 = ((0, a), ⟨s', [], 5 + nP da, false, 0⟩) := by
    have e : (((⟨s, [], 0, false, 0⟩ : Vs).ticks (5 + nP da)).on s') = ⟨s', [], 5 + nP da, false, 0⟩ := by
      show Vs.mk s' [] (0 + (5 + nP da)) false 0 = _
      rw [Nat.zero_add]
    rw [← e]; exact r1
  have hS : Sc s' [newF L (nm, (m0, m1, m2, m3), da)] := by
    rcases r2 with ⟨_, h⟩ | ⟨h0, _⟩ | ⟨h0, _⟩
    · exact h
    · exact absurd h0 (by simp)
    · exact absurd rfl h0
  have hcl := repl_clean (v := ⟨s, [], 0, false, 0⟩) (nm := nm) (da := da) (m0 := m0) (m1 := m1) (m2 := m2) (m3 := m3) hne (by rw [r1'])
  rw [r1'] at hcl
  have hcl' : ∀ e ∈ s'.now, e.1 ≠ tmpB := hcl
  refine ⟨s', a, r1', hS, fun k => ?_, fun k => ?_⟩
  · have hm : (nm, (m0, m1, m2, m3), da) ∈ newF L (nm, (m0, m1, m2, m3), da) := by
      have : (nm, (m0, m1, m2, m3), da) ∈ thatF (newF L (nm, (m0, m1, m2, m3), da)) nm := by rw [newF_that L (nm, (m0, m1, m2, m3), da)]; simp
      exact (List.mem_filter.1 this).1
    have hn : seen s'.bodies s'.now = newF L (nm, (m0, m1, m2, m3), da) := hS.now
    rw [← hn] at hm
    unfold seen at hm
    obtain ⟨e, he, hx⟩ := List.mem_map.1 hm
    have he' := without_mem _ _ _ he
    unfold filOf filB at hx
    injection hx with x1 x2
    injection x2 with x3 x4
    have := readf_at (v := ⟨s', [], k, false, 0⟩) ⟨rfl, rfl⟩ hS.wf hS.dw he'
    rw [x1, x4] at this
    exact this
  · unfold Vs.stat
    rw [calm_met (v := ⟨s', [], k, false, 0⟩) ⟨rfl, rfl⟩, if_neg (by simp)]
    have hl : leads s'.now tmpB = 0 := by
      rcases Nat.eq_zero_or_pos (leads s'.now tmpB) with h | h
      · exact h
      · exact absurd rfl (hcl' _ (leads_mem s'.now tmpB (by omega)))
    have hf : s'.find tmpB = ((⟨#[]⟩, noBd), (0, 30)) := by
      unfold St.find; rw [if_neg (by rw [tmp_ok]; decide), if_pos hl]
    show (((s'.find tmpB).1, (s'.find tmpB).2.2), (⟨s', [], k, false, 0⟩ : Vs).tick) = _
    rw [hf]; rfl
end Go.Proofs.YtbbblncoicjacaaGreatDoor
