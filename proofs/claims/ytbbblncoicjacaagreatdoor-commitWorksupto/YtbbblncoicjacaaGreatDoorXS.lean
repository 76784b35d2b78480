
-- Scenes, plainly.
import Derived.Test.YtbbblncoicjacaaGreatDoorX2
import Derived.Test.YtbbblncoicjacaaGreatDoorFE
import Derived.Test.YtbbblncoicjacaaGreatDoorFG
namespace Go.Proofs.YtbbblncoicjacaaGreatDoor
open Go
set_option linter.unusedVariables false
theorem used_withN (bs : List Bd) (d : Dr) (n : ByteArray) (b : Nat) : usedIn bs (with_ d n b) = szOf bs b + usedIn bs (without d n) := by
  unfold with_
  rw [used_perm bs (ins_perm n b (without d n))]
  simp [usedIn]
theorem used_without (bs : List Bd) (d : Dr) (n : ByteArray) : usedIn bs (without d n) ≤ usedIn bs d := by
  induction d with
  | nil => exact Nat.le_refl _
  | cons e r ih =>
    have h1 : usedIn bs (e :: r) = szOf bs e.2 + usedIn bs r := by simp [usedIn]
    rw [h1]
    unfold without at ih ⊢
    rw [List.filter_cons]
    split
    · have h2 : usedIn bs (e :: r.filter fun e => decide (e.1 ≠ n)) = szOf bs e.2 + usedIn bs (r.filter fun e => decide (e.1 ≠ n)) := by simp [usedIn]
      rw [h2]; omega
    · omega
/-- A volume on which files are being put. -/
structure Pg (v : Vs) (U n : Nat) : Prop where
  calm : v.calm
  dw : DW v.st
  firm : ∀ e ∈ v.st.now, firmN v.st.bodies e.2
  used : usedIn v.st.bodies v.st.now ≤ U
  len : v.st.now.length ≤ n
  round : v.round = 0
theorem Pg.new (c : Nat) : Pg (Vs.new c) 0 0 := ⟨⟨rfl, rfl⟩, new_DW c, fun e he => by simp [Vs.new, St.new, St.now] at he, Nat.le_refl _, Nat.le_refl _, rfl⟩
theorem calm_on {v : Vs} (h : v.calm) (s : St) : (v.on s).calm := h
/-- What is there behind a file that was put, in the volume's parts. -/
theorem put_parts {v : Vs} (hc : v.calm) (hw : Wf v.st) (x : Fil) (hb : v.st.bodies.length < 2097152) (hl : v.st.dirs.length < 2097152) :
    (∃ k, v.putF x = v.ticks k) ∨ (okName x.1 = true ∧ ∃ k b, v.putF x = (v.ticks k).on { v.st with bodies := v.st.bodies ++ [b], dirs := v.st.dirs ++ [with_ v.st.now x.1 (v.st.bodies.length + 1)] } ∧ b.safe = b.data.size ∧ b.data.size ≤ x.2.2.size) := by
  obtain ⟨nm, ⟨m0, m1, m2, m3⟩, dt⟩ := x
  have hcr : v.crF (nm, (m0, m1, m2, m3), dt) = ((v.st.create nm m0 m1 m2 m3).1, (v.ticks 1).on (v.st.create nm m0 m1 m2 m3).2) := by
    show v.create nm m0 m1 m2 m3 = _
    unfold Vs.create
    rw [calm_met hc, if_neg (by simp)]; rfl
  unfold Vs.putF
  rw [hcr]
  by_cases hok : okName nm = false
  · left
    have e : v.st.create nm m0 m1 m2 m3 = ((0, 32), v.st) := by unfold St.create; rw [if_pos hok]
    rw [e, if_pos (show (32 : Nat) ≠ 0 by decide)]
    exact ⟨1, rfl⟩
  · by_cases hf : leads v.st.now nm = 0 ∧ 64 ≤ v.st.now.length
    · left
      have e : v.st.create nm m0 m1 m2 m3 = ((0, 33), v.st) := by unfold St.create; rw [if_neg hok, if_pos hf]
      rw [e, if_pos (show (33 : Nat) ≠ 0 by decide)]
      exact ⟨1, rfl⟩
    · right
      have hok' : okName nm = true := by simpa using hok
      refine ⟨hok', ?_⟩
      obtain ⟨s1, hs1⟩ : ∃ s1 : St, s1 = { v.st with bodies := v.st.bodies ++ [⟨m0, m1, m2, m3, ⟨#[]⟩, 0⟩], dirs := v.st.dirs ++ [with_ v.st.now nm (v.st.bodies.length + 1)] } := ⟨_, rfl⟩
      have e : v.st.create nm m0 m1 m2 m3 = ((v.st.bodies.length + 1, 0), s1) := by unfold St.create; rw [if_neg hok, if_neg hf, hs1]
      have hfine := create_fine hw nm m0 m1 m2 m3 hb hl
      rw [e] at hfine
      rw [e, if_neg (show ¬ ((0 : Nat) ≠ 0) by simp)]
      have hh : v.hdl (nm, (m0, m1, m2, m3), dt) = ⟨nm, v.st.bodies.length + 1, v.round, false⟩ := by
        have h2 : v.create nm m0 m1 m2 m3 = ((v.st.bodies.length + 1, 0), (v.ticks 1).on s1) := by
          have := hcr; rw [e] at this; exact this
        unfold Vs.hdl
        show (⟨nm, (v.create nm m0 m1 m2 m3).1.1, v.round, false⟩ : Hd) = _
        rw [h2]
      rw [hh]
      have hnow : s1.now = with_ v.st.now nm (v.st.bodies.length + 1) := by rw [hs1]; exact now_snoc _ _ _ _
      have hmem : (nm, v.st.bodies.length + 1) ∈ s1.now := by rw [hnow]; exact (ins_perm _ _ _).mem_iff.2 (by simp)
      have hthere : ∀ s : St, s.now = s1.now → there s.now ((v.st.bodies.length + 1 : Nat) : Int) = true := fun s h => by
        unfold there; rw [List.any_eq_true, h]; exact ⟨_, hmem, by simp⟩
      have hat : s1.at_ ((v.st.bodies.length + 1 : Nat) : Int) = some ⟨m0, m1, m2, m3, ⟨#[]⟩, 0⟩ := by
        unfold St.at_
        rw [if_pos (hthere s1 rfl), Int.toNat_natCast, hs1]
        simp
      have hcl : ∀ (s : St) (k : Nat), (⟨nm, v.st.bodies.length + 1, v.round, false⟩ : Hd).closed ((v.ticks k).on s) = false := fun s k => by
        unfold Hd.closed
        show (false || decide (v.round ≠ v.round)) = false
        simp
      -- the write
      have hwr : ∃ d : ByteArray, d.size ≤ dt.size ∧ (((v.ticks 1).on s1).write ⟨nm, v.st.bodies.length + 1, v.round, false⟩ dt).2 = (v.ticks 2).on { s1 with bodies := v.st.bodies ++ [⟨m0, m1, m2, m3, d, 0⟩] } := by
        unfold Vs.write
        rw [if_neg (by rw [hcl]; decide)]
        unfold Vs.writeB
        rw [calm_met (calm_on (calm_ticks hc 1) s1), if_pos rfl]
        show ∃ d : ByteArray, d.size ≤ dt.size ∧ (if (s1.append _ dt).1 ≠ 0 then ((0, (s1.append _ dt).1), (v.ticks 2).on (s1.append _ dt).2) else ((dt.size, 0), (v.ticks 2).on (s1.append _ dt).2)).2 = _
        have e2 : ∀ (c : Prop) [Decidable c] (a b : Nat × Nat) (y : Vs), (if c then (a, y) else (b, y)).2 = y := fun c _ a b y => by split <;> rfl
        rw [e2]
        unfold St.append
        rw [hat]
        simp only
        split
        · refine ⟨⟨#[]⟩, Nat.zero_le _, ?_⟩
          rw [hs1]
        · refine ⟨dt, Nat.le_refl _, ?_⟩
          have e3 : (⟨#[]⟩ : ByteArray) ++ dt = dt := ByteArray.empty_append
          rw [e3]
          unfold St.put
          rw [hs1]
          simp
      obtain ⟨d, hd1, hd2⟩ := hwr
      rw [hd2]
      refine ⟨3, ⟨m0, m1, m2, m3, d, d.size⟩, ?_, rfl, hd1⟩
      unfold Vs.sync
      rw [if_neg (by rw [hcl]; decide)]
      unfold Vs.syncB
      rw [calm_met (calm_on (calm_ticks hc 2) _), if_neg (by simp)]
      have hat2 : ({ s1 with bodies := v.st.bodies ++ [⟨m0, m1, m2, m3, d, 0⟩] } : St).at_ ((v.st.bodies.length + 1 : Nat) : Int) = some ⟨m0, m1, m2, m3, d, 0⟩ := by
        unfold St.at_
        rw [if_pos (hthere { s1 with bodies := v.st.bodies ++ [⟨m0, m1, m2, m3, d, 0⟩] } rfl), Int.toNat_natCast]
        simp
      show ((v.ticks 2).tick.on (St.sync { s1 with bodies := v.st.bodies ++ [⟨m0, m1, m2, m3, d, 0⟩] } _).2) = _
      unfold St.sync
      rw [hat2]
      simp only
      unfold St.put
      rw [hs1]
      simp [tick_ticks]
theorem Pg.put {v : Vs} {U n : Nat} (h : Pg v U n) (hw : Wf v.st) (x : Fil) (hb : v.st.bodies.length < 2097152) (hl : v.st.dirs.length < 2097152) : Pg (v.putF x) (U + x.2.2.size) (n + 1) := by
  rcases put_parts h.calm hw x hb hl with ⟨k, hk⟩ | ⟨hok, k, b, hk, hb1, hb2⟩
  · rw [hk]
    exact ⟨h.calm, h.dw, h.firm, Nat.le_trans h.used (by omega), Nat.le_trans h.len (by omega), h.round⟩
  · rw [hk]
    have hlow : ∀ d ∈ v.st.dirs, ∀ e ∈ d, 1 ≤ e.2 ∧ e.2 ≤ v.st.bodies.length := fun d hd e he => hw.led d hd e he
    have hdn := h.dw.now hw
    have hnow : ((v.ticks k).on { v.st with bodies := v.st.bodies ++ [b], dirs := v.st.dirs ++ [with_ v.st.now x.1 (v.st.bodies.length + 1)] }).st.now = with_ v.st.now x.1 (v.st.bodies.length + 1) := now_snoc _ _ _ _
    have hlook : ∀ e ∈ v.st.now, lookB (v.st.bodies ++ [b]) e.2 = lookB v.st.bodies e.2 := fun e he => look_append (hlow _ (now_mem hw) e he).1 (hlow _ (now_mem hw) e he).2
    refine ⟨h.calm, ?_, ?_, ?_, ?_, h.round⟩
    · intro d hd
      rcases List.mem_append.1 hd with hd | hd
      · exact h.dw d hd
      · simp at hd; subst hd
        exact dw_with hdn x.1 _ hok fun e he _ => by have := (hlow _ (now_mem hw) e he).2; omega
    · rw [hnow]
      intro e he
      show firmN (v.st.bodies ++ [b]) e.2
      rcases ins_mem _ _ _ _ he with rfl | he
      · unfold firmN; rw [look_new]; exact hb1
      · have he' := without_mem _ _ _ he
        unfold firmN; rw [hlook e he']; exact h.firm e he'
    · rw [hnow]
      show usedIn (v.st.bodies ++ [b]) _ ≤ _
      rw [used_withN, szOf_look, look_new]
      have h1 : usedIn (v.st.bodies ++ [b]) (without v.st.now x.1) = usedIn v.st.bodies (without v.st.now x.1) := by
        unfold usedIn
        congr 1
        apply List.map_congr_left
        intro e he
        rw [szOf_look, szOf_look, hlook e (without_mem _ _ _ he)]
      have h2 := used_without v.st.bodies v.st.now x.1
      have h3 := h.used
      omega
    · rw [hnow]
      unfold with_
      rw [ins_len]
      have := without_len v.st.now x.1
      have := h.len
      omega
theorem Pg.all {v : Vs} {U n kk : Nat} (h : Pg v U n) (hv : Vf v kk) (l : List Fil) (hk : kk + 3 * l.length < 2097151) : Pg (v.all l) (U + sizeF l) (n + l.length) := by
  induction l generalizing v U n kk with
  | nil => exact h
  | cons x r ih =>
    rw [List.length_cons] at hk ⊢
    have h1 := h.put hv.wf x (by have := hv.bodies; omega) (by have := hv.dirs; omega)
    have := ih h1 (hv.putF (by omega) x) (by omega)
    have e : sizeF (x :: r) = x.2.2.size + sizeF r := by simp [sizeF]
    rw [e, show U + (x.2.2.size + sizeF r) = U + x.2.2.size + sizeF r by omega, show n + (r.length + 1) = n + 1 + r.length by omega]
    exact this
theorem Pg.sc {v : Vs} {U n : Nat} (h : Pg v U n) (hw : Wf v.st) : Sc v.st.syncDir [seen v.st.bodies v.st.now] where
  wf := (syncDir_fine hw).wf
  dw := fun d hd => by simp [St.syncDir] at hd; subst hd; exact h.dw _ (now_mem hw)
  firm := fun d hd e he _ => by simp [St.syncDir] at hd; subst hd; exact h.firm e he
  sees := rfl
theorem scene_eq {c : Nat} {l : List Fil} (h : ((Vs.new c).all l).calm) (hr : ((Vs.new c).all l).round = 0) : Vs.scene c l = ⟨((Vs.new c).all l).st.syncDir, [], 0, false, 0⟩ := by
  obtain ⟨V, hV⟩ : ∃ V, V = (Vs.new c).all l := ⟨_, rfl⟩
  unfold Vs.scene
  rw [← hV] at h hr ⊢
  unfold Vs.syncDir
  rw [calm_met h, if_neg (by simp)]
  obtain ⟨st, plan, cnt, off, rd⟩ := V
  obtain ⟨h1, h2⟩ := h
  simp only at h1 h2 hr
  subst h1; subst h2; subst hr
  rfl
theorem putF_cap {v : Vs} (hc : v.calm) (hw : Wf v.st) (x : Fil) (hb : v.st.bodies.length < 2097152) (hl : v.st.dirs.length < 2097152) : (v.putF x).st.cap = v.st.cap := by
  rcases put_parts hc hw x hb hl with ⟨k, hk⟩ | ⟨hok, k, b, hk, hb1, hb2⟩ <;> rw [hk] <;> rfl
theorem all_cap {v : Vs} {U n kk : Nat} (h : Pg v U n) (hv : Vf v kk) (l : List Fil) (hk : kk + 3 * l.length < 2097151) : (v.all l).st.cap = v.st.cap := by
  induction l generalizing v U n kk with
  | nil => rfl
  | cons x r ih =>
    rw [List.length_cons] at hk
    have hb : v.st.bodies.length < 2097152 := by have := hv.bodies; omega
    have hl : v.st.dirs.length < 2097152 := by have := hv.dirs; omega
    have := ih (h.put hv.wf x hb hl) (hv.putF (by omega) x) (by omega)
    show ((v.putF x).all r).st.cap = _
    rw [this, putF_cap h.calm hv.wf x hb hl]
/-- The scene, in one word. -/
structure IsScene (c : Nat) (l : List Fil) (s : St) (L : List Fil) : Prop where
  eq : Vs.scene c l = ⟨s, [], 0, false, 0⟩
  sc : Sc s [L]
  cap : s.cap = c
  size : sizeF L ≤ sizeF l
  len : s.now.length ≤ l.length
  few : L.length ≤ 64
theorem is_scene (c : Nat) (hc : c ≤ 1073741824) (l : List Fil) (hl : 3 * l.length ≤ 1048600) : ∃ s L, IsScene c l s L := by
  have hv := Vf.new c hc
  have hva := hv.all l (by omega)
  have hp := (Pg.new c).all hv l (by omega)
  refine ⟨_, _, scene_eq hp.calm hp.round, hp.sc hva.wf, ?_, ?_, ?_, ?_⟩
  · show ((Vs.new c).all l).st.cap = c
    rw [all_cap (Pg.new c) hv l (by omega)]; rfl
  · rw [← used_seen]
    exact Nat.le_trans (used_without _ _ _) (by have := hp.used; omega)
  · show ((Vs.new c).all l).st.now.length ≤ _
    have := hp.len; omega
  · unfold seen; rw [List.length_map]
    have := without_len ((Vs.new c).all l).st.now tmpB
    have := now_len hva.wf
    omega
end Go.Proofs.YtbbblncoicjacaaGreatDoor
