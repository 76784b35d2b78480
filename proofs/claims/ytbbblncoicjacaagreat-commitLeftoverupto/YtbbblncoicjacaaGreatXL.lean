
-- What is left over under TempName, plainly: it changes nothing that is seen, and no answer.
import Derived.Test.YtbbblncoicjacaaGreatXT
import Derived.Test.YtbbblncoicjacaaGreatFH
namespace Go.Proofs.YtbbblncoicjacaaGreat
open Go
set_option linter.unusedVariables false
theorem put_tmp {v : Vs} (hc : v.calm) (hw : Wf v.st) (x : Fil) (hx : x.1 = tmpB) (hb : v.st.bodies.length < 2097152) (hl : v.st.dirs.length < 2097152) : seen (v.putF x).st.bodies (v.putF x).st.now = seen v.st.bodies v.st.now := by
  rcases put_parts hc hw x hb hl with ⟨k, hk⟩ | ⟨hok, k, b, hk, hb1, hb2⟩
  · rw [hk]; rfl
  · rw [hk]
    have hnow : ((v.ticks k).on { v.st with bodies := v.st.bodies ++ [b], dirs := v.st.dirs ++ [with_ v.st.now x.1 (v.st.bodies.length + 1)] }).st.now = with_ v.st.now x.1 (v.st.bodies.length + 1) := now_snoc _ _ _ _
    rw [hnow, hx]
    show seen (v.st.bodies ++ [b]) _ = _
    unfold seen
    rw [without_with]
    apply List.map_congr_left
    intro e he
    have he' := without_mem _ _ _ he
    have := hw.led _ (now_mem hw) e he'
    unfold filOf
    rw [look_append this.1 this.2]
theorem all_snoc (v : Vs) (l : List Fil) (x : Fil) : v.all (l ++ [x]) = (v.all l).putF x := by
  unfold Vs.all; rw [List.foldl_append]; rfl
theorem two_scenes (c : Nat) (hc : c ≤ 1073741824) (l : List Fil) (x : Fil) (hx : x.1 = tmpB) (hl : 3 * (l.length + 1) ≤ 1048600) : ∃ s s2 L, IsScene c l s L ∧ IsScene c (l ++ [x]) s2 L := by
  have hv := Vf.new c hc
  have hva := hv.all l (by omega)
  have hp := (Pg.new c).all hv l (by omega)
  obtain ⟨s, L, h1⟩ := is_scene c hc l (by omega)
  obtain ⟨s2, L2, h2⟩ := is_scene c hc (l ++ [x]) (by simp; omega)
  have e1 := h1.eq
  rw [scene_eq hp.calm hp.round] at e1
  injection e1 with e1
  have hp2 := (Pg.new c).all hv (l ++ [x]) (by simp; omega)
  have e2 := h2.eq
  rw [scene_eq hp2.calm hp2.round] at e2
  injection e2 with e2
  have n1 : seen s.bodies s.now = L := h1.sc.now
  have n2 : seen s2.bodies s2.now = L2 := h2.sc.now
  have hq := put_tmp hp.calm hva.wf x hx (by have := hva.bodies; omega) (by have := hva.dirs; omega)
  rw [← all_snoc] at hq
  have : L2 = L := by
    rw [← n1, ← n2, ← e1, ← e2]; exact hq
  subst this
  exact ⟨s, s2, L2, h1, h2⟩
/-- Both replacements answer alike. -/
theorem rep_two (c : Vs) (s s2 : St) (L : List Fil) (h : Sc s [L]) (h2 : Sc s2 [L]) (hcap : s.cap = s2.cap) (hf : L.length < 64) (hb : s.bodies.length < 2097151) (hb2 : s2.bodies.length < 2097151) (name data : ByteArray) (m0 m1 m2 m3 : Int) :
    ∃ (s' : St) (a : Nat) (s2' : St) (a2 e : Nat) (c' : Vs), (c.on s).replace name data m0 m1 m2 m3 = ((e, a), c'.on s') ∧ (c.on s2).replace name data m0 m1 m2 m3 = ((e, a2), c'.on s2') ∧ Left e s' L (name, (m0, m1, m2, m3), data) ∧ Left e s2' L (name, (m0, m1, m2, m3), data) := by
  have same : ∀ (e : Nat), e = 161 ∨ e = 32 → ∀ t : St, Sc t [L] → Left e t L (name, (m0, m1, m2, m3), data) := fun e he t ht => .inr (.inr ⟨by omega, by omega, [L], ht, by simp, fun l hl => by simpa using hl⟩)
  by_cases h1 : name = tmpB
  · have : ∀ t : St, (c.on t).replace name data m0 m1 m2 m3 = ((161, 1), c.on t) := fun t => by unfold Vs.replace; rw [if_pos h1]
    exact ⟨s, 1, s2, 1, 161, c, this s, this s2, same _ (.inl rfl) s h, same _ (.inl rfl) s2 h2⟩
  · by_cases h3 : okName name = false
    · have : ∀ t : St, (c.on t).replace name data m0 m1 m2 m3 = ((32, 1), c.on t) := fun t => by unfold Vs.replace; rw [if_neg h1, if_pos h3]
      exact ⟨s, 1, s2, 1, 32, c, this s, this s2, same _ (.inr rfl) s h, same _ (.inr rfl) s2 h2⟩
    · have h4 : okName name = true := by simpa using h3
      obtain ⟨s', a, r1, r2⟩ := rep_all c s L h hb name data m0 m1 m2 m3 h1 h4
      obtain ⟨s2', a2, q1, q2⟩ := rep_all c s2 L h2 hb2 name data m0 m1 m2 m3 h1 h4
      rw [notFull h hf] at r1 r2
      rw [notFull h2 hf, ← hcap] at q1 q2
      exact ⟨s', a, s2', a2, _, _, r1, q1, r2, q2⟩
/-- What the statement asks of the plain volumes. -/
theorem leftover_plain (s s2 : St) (L : List Fil) (h : Sc s [L]) (h2 : Sc s2 [L]) (hcap : s.cap = s2.cap) (hf : L.length < 64) (hb : s.bodies.length < 2097151) (hb2 : s2.bodies.length < 2097151) (plan : List Flt) (nm da : ByteArray) (m0 m1 m2 m3 : Int) (n : Int) (cuts : List Int) :
    ∃ (E : Nat) (v v2 : Vs) (N A : List Fil), ((⟨s, plan, 0, false, 0⟩ : Vs).replace nm da m0 m1 m2 m3).1.1 = E ∧ ((⟨s, plan, 0, false, 0⟩ : Vs).replace nm da m0 m1 m2 m3).2 = v ∧ ((⟨s2, plan, 0, false, 0⟩ : Vs).replace nm da m0 m1 m2 m3).1.1 = E ∧ ((⟨s2, plan, 0, false, 0⟩ : Vs).replace nm da m0 m1 m2 m3).2 = v2 ∧
      v.off = v2.off ∧ v.cnt = v2.cnt ∧ v.round = 0 ∧ v2.round = 0 ∧ Wf v.st ∧ DW v.st ∧ Wf v2.st ∧ DW v2.st ∧ seen v.st.bodies v.st.now = N ∧ seen v2.st.bodies v2.st.now = N ∧ (E = 0 → hasF N (nm, (m0, m1, m2, m3), da) = true) ∧ Sc (v.st.crash n cuts) [A] ∧ Sc (v2.st.crash n cuts) [A] := by
  obtain ⟨s', a, s2', a2, e, c', r1, r2, l1, l2⟩ := rep_two ⟨s, plan, 0, false, 0⟩ s s2 L h h2 hcap hf hb hb2 nm da m0 m1 m2 m3
  have r1' : (⟨s, plan, 0, false, 0⟩ : Vs).replace nm da m0 m1 m2 m3 = ((e, a), c'.on s') := r1
  have r2' : (⟨s2, plan, 0, false, 0⟩ : Vs).replace nm da m0 m1 m2 m3 = ((e, a2), c'.on s2') := r2
  have d1 := repl_round (⟨s, plan, 0, false, 0⟩ : Vs) nm da m0 m1 m2 m3
  have d2 := repl_round (⟨s2, plan, 0, false, 0⟩ : Vs) nm da m0 m1 m2 m3
  rw [r1'] at d1
  rw [r2'] at d2
  have n1 := left_now l1
  have n2 := left_now l2
  refine ⟨e, c'.on s', c'.on s2', nowSeen e L (nm, (m0, m1, m2, m3), da), pickS e n L (nm, (m0, m1, m2, m3), da), by rw [r1'], by rw [r1'], by rw [r2'], by rw [r2'], rfl, rfl, d1, d2, n1.2.1, n1.2.2, n2.2.1, n2.2.2, n1.1, n2.1, fun he => ?_, left_crash l1 n cuts, left_crash l2 n cuts⟩
  unfold nowSeen; rw [if_pos (.inl he)]; exact newF_has L _
end Go.Proofs.YtbbblncoicjacaaGreat
