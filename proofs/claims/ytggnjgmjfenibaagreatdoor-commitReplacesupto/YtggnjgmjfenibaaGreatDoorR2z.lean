import Derived.Test.YtggnjgmjfenibaaGreatDoorR1z

-- What a call of the document's volume meets.
namespace Go.Proofs.YtggnjgmjfenibaaGreatDoor
open Go.RowKit
set_option linter.unusedVariables false
/-- How many bytes a short write is to write; -1: it is none. -/
def Vs.sh (v : Vs) : Int := match v.short with | none => -1 | some n => if n < 0 then 0 else n
theorem met_all (v : Vs) (hoff : v.off = false) (f : Flt) (hf : f = (hit v.plan ((v.cnt : Int) + 1)).getD noFlt) :
    (f.kind = 1 → v.met = (40, v.tick) ∧ v.sh = -1) ∧ (f.kind = 2 → v.met = (40, v.tick) ∧ v.sh = if f.n < 0 then 0 else f.n) ∧ (f.kind = 3 → v.met = (41, v.cut) ∧ v.sh = -1) ∧ (f.kind ≠ 1 → f.kind ≠ 2 → f.kind ≠ 3 → v.met = (0, v.tick) ∧ v.sh = -1) := by
  cases hh : hit v.plan ((v.cnt : Int) + 1) with
  | none =>
    rw [hh] at hf; simp at hf; subst hf
    refine ⟨fun h => absurd h (by decide), fun h => absurd h (by decide), fun h => absurd h (by decide), fun _ _ _ => ?_⟩
    simp [Vs.met, Vs.sh, Vs.short, Vs.strikes, hoff, hh]
  | some g =>
    rw [hh] at hf; simp at hf; subst hf
    refine ⟨fun h => ?_, fun h => ?_, fun h => ?_, fun h1 h2 h3 => ?_⟩
    · simp [Vs.met, Vs.sh, Vs.short, Vs.strikes, hoff, hh, h]
    · simp [Vs.met, Vs.sh, Vs.short, Vs.strikes, hoff, hh, h]
    · simp [Vs.met, Vs.sh, Vs.short, Vs.strikes, hoff, hh, h]
    · simp [Vs.met, Vs.sh, Vs.short, Vs.strikes, hoff, hh, h1, h2, h3]
set_option maxHeartbeats 4000000 in
theorem meets_c (G : Nat → Prop) (r : Nat) (v : Vs) (w : World) (h : RV G r v w) (hn : v.cnt ≤ 4194304) :
    Calls Tryz.prog 56 #[.pointer (some ⟨r, 0, none⟩)] w fun e w' => e = .returned (.tuple #[.int .i64 v.met.1, .int .i64 v.sh]) ∧ RV G r v.met.2 w' ∧ Kp G w w' := by
  obtain ⟨d, pv, Fd, O⟩ := h
  obtain ⟨c0, c1, c2, c3, c4, cf⟩ := O.cells
  rcases hoff : v.off with _ | _
  · obtain ⟨T, hT⟩ : ∃ T, T = w.setCell ⟨r, 2, none⟩ (.int .i64 ((v.cnt : Int) + 1)) := ⟨_, rfl⟩
    have O1 := O.set (v' := v.tick) 2 (.int .i64 ((v.cnt : Int) + 1)) rfl rfl rfl
    rw [← hT] at O1
    obtain ⟨ao, cp, hv⟩ := O.plan.form
    have HS : Hid (Calls Tryz.prog 77 #[.pointer (some ⟨r, 0, none⟩)] T fun e w' => ((∃ (j : Nat) (f : Flt), e = .returned (.int .i64 j) ∧ v.plan[j]? = some f ∧ hit v.plan ((v.cnt : Int) + 1) = some f) ∨ (e = .returned (.int .i64 (-1)) ∧ hit v.plan ((v.cnt : Int) + 1) = none)) ∧ Below T.heap.size T w') := struck_c G r v.tick T ⟨d, pv, Fd, O1.1⟩
    have HO1 : Hid (∀ W, Below T.heap.size T W → RVo G r v.tick W d pv Fd ∧ Kp G w W ∧ W.cell? ⟨r, 1, none⟩ = some (.slice ao v.plan.length cp) ∧ (W.cell? ⟨r, 3, none⟩ = some (.bool v.off)) ∧ W.frozen? ⟨r, 3, none⟩ = false) := fun W hb => by
      have OW := O1.1.below hb
      obtain ⟨_, k1, _, k3, _, kf⟩ := OW.cells
      rw [hv] at k1
      exact ⟨OW, O1.2.kept hb, k1, k3, kf 3⟩
    have HF : Hid (∀ (k : Nat) f, v.plan[k]? = some f → ∃ b off, ao = some ⟨b, off, none⟩ ∧ k < v.plan.length ∧ ∀ W, Below T.heap.size T W → W.cell? ⟨b, off + k * 3 + 1, none⟩ = some (.int .i64 f.kind) ∧ W.cell? ⟨b, off + k * 3 + 2, none⟩ = some (.int .i64 f.n)) := fun k f hk => by
      have hkl : k < v.plan.length := (List.getElem?_eq_some_iff.1 hk).1
      rcases O1.1.plan with ⟨h0, _⟩ | ⟨b, off, cap, hv', hb, hc⟩
      · have h0' : v.plan = [] := h0
        rw [h0'] at hkl; simp at hkl
      · rw [hv] at hv'; cases hv'
        exact ⟨b, off, rfl, hkl, fun W hb' => ⟨cell_below hb' (hc k _ hk).2.1, cell_below hb' (hc k _ hk).2.2⟩⟩
    have HK : Hid (∀ f, f = (hit v.plan ((v.cnt : Int) + 1)).getD noFlt → (f.kind = 1 → v.met = (40, v.tick) ∧ v.sh = -1) ∧ (f.kind = 2 → v.met = (40, v.tick) ∧ v.sh = if f.n < 0 then 0 else f.n) ∧ (f.kind = 3 → v.met = (41, v.cut) ∧ v.sh = -1) ∧ (f.kind ≠ 1 → f.kind ≠ 2 → f.kind ≠ 3 → v.met = (0, v.tick) ∧ v.sh = -1)) := fun f hf => met_all v hoff f hf
    have f2 := cf 2
    rw [hoff] at c3
    obtain ⟨n, hnn⟩ : ∃ n, n = v.plan.length := ⟨_, rfl⟩
    rw [← hnn] at HO1 HF
    have hfew : n ≤ 4194304 := by rw [hnn]; exact O.few
    obtain ⟨cn, hcn⟩ : ∃ cn, cn = v.cnt := ⟨_, rfl⟩
    rw [← hcn] at c2 hn hT HS HK
    have HT : Hid (T = w.setCell ⟨r, 2, none⟩ (.int .i64 ((cn : Int) + 1))) := hT
    clear O O1 c0 c1 c4 cf hoff hv hnn hcn hT
    go_enter Tryz.func56, Tryz.ntmps56
    go_wp2_with fail
    rw [← HT.out]
    go_at_call 77
    refine HS.out.mono ?_
    rintro e w1 ⟨hres, hb1⟩
    obtain ⟨OW, kW, x1, x3, z3⟩ := HO1.out w1 hb1
    have HW : Hid (RVo G r v.tick w1 d pv Fd ∧ Kp G w w1) := ⟨OW, kW⟩
    rcases hres with ⟨j, f, rfl, hj, hh⟩ | ⟨rfl, hh⟩
    · obtain ⟨b, off, rfl, hjl, hcell⟩ := HF.out j f hj
      obtain ⟨y1, y2⟩ := hcell w1 hb1
      have hk := HK.out f (by rw [hh]; rfl)
      obtain ⟨fa, fk, fn⟩ := f
      simp only at y1 y2 hk
      have HKK : Hid ((fk = 1 → v.met = (40, v.tick) ∧ v.sh = -1) ∧ (fk = 2 → v.met = (40, v.tick) ∧ v.sh = if fn < 0 then 0 else fn) ∧ (fk = 3 → v.met = (41, v.cut) ∧ v.sh = -1) ∧ (fk ≠ 1 → fk ≠ 2 → fk ≠ 3 → v.met = (0, v.tick) ∧ v.sh = -1)) := hk
      have i1 : (j : Int) < (n : Int) := by omega
      have i2 : (0 : Int) ≤ (j : Int) := by omega
      have b0 : decide ((j : Int) < 0) = false := decide_eq_false (by omega)
      clear hk hcell hh hj OW kW hb1
      by_cases h1 : fk = 1
      · have HE : Hid (v.met = (40, v.tick) ∧ v.sh = -1) := HKK.out.1 h1
        subst h1
        go_wp2
        go_returns
        rw [HE.out.1, HE.out.2]
        exact ⟨rfl, ⟨d, pv, Fd, HW.out.1⟩, HW.out.2⟩
      · by_cases h2 : fk = 2
        · have HE : Hid (v.met = (40, v.tick) ∧ v.sh = if fn < 0 then 0 else fn) := HKK.out.2.1 h2
          subst h2
          by_cases hf : fn < 0
          · have b1 : decide (fn < 0) = true := decide_eq_true hf
            have HE2 : Hid (v.sh = 0) := by show _ = _; rw [HE.out.2, if_pos hf]
            go_wp2
            go_returns
            rw [HE.out.1, HE2.out]
            exact ⟨rfl, ⟨d, pv, Fd, HW.out.1⟩, HW.out.2⟩
          · have b1 : decide (fn < 0) = false := decide_eq_false hf
            have HE2 : Hid (v.sh = fn) := by show _ = _; rw [HE.out.2, if_neg hf]
            go_wp2
            go_returns
            rw [HE.out.1, HE2.out]
            exact ⟨rfl, ⟨d, pv, Fd, HW.out.1⟩, HW.out.2⟩
        · by_cases h3 : fk = 3
          · have HE : Hid (v.met = (41, v.cut) ∧ v.sh = -1) := HKK.out.2.2.1 h3
            subst h3
            have HC : Hid (RVo G r v.cut (w1.setCell ⟨r, 3, none⟩ (.bool true)) d pv Fd ∧ Kp G w (w1.setCell ⟨r, 3, none⟩ (.bool true))) := by
              have := HW.out.1.set (v' := v.cut) 3 (.bool true) rfl rfl rfl
              exact ⟨this.1, HW.out.2.trans this.2⟩
            go_wp2
            go_returns
            rw [HE.out.1, HE.out.2]
            exact ⟨rfl, ⟨d, pv, Fd, HC.out.1⟩, HC.out.2⟩
          · have HE : Hid (v.met = (0, v.tick) ∧ v.sh = -1) := HKK.out.2.2.2 h1 h2 h3
            have b1 : (fk == (1 : Int)) = false := by simpa using h1
            have b2 : (fk == (2 : Int)) = false := by simpa using h2
            have b3 : (fk == (3 : Int)) = false := by simpa using h3
            go_wp2
            go_returns
            rw [HE.out.1, HE.out.2]
            exact ⟨rfl, ⟨d, pv, Fd, HW.out.1⟩, HW.out.2⟩
    · have hk := HK.out noFlt (by rw [hh]; rfl)
      have HE : Hid (v.met = (0, v.tick) ∧ v.sh = -1) := hk.2.2.2 (by decide) (by decide) (by decide)
      clear hk hh OW kW hb1 HF HK
      go_wp2
      go_returns
      rw [HE.out.1, HE.out.2]
      exact ⟨rfl, ⟨d, pv, Fd, HW.out.1⟩, HW.out.2⟩
  · have HM : Hid (v.met = (41, v) ∧ v.sh = -1) := ⟨met_off hoff, by simp [Vs.sh, Vs.short, hoff]⟩
    have HO : Hid (RVo G r v w d pv Fd) := O
    rw [hoff] at c3
    clear O c0 c1 c2 c4 cf hoff
    go_enter Tryz.func56, Tryz.ntmps56
    go_wp2
    go_returns
    rw [HM.out.1, HM.out.2]
    exact ⟨rfl, ⟨d, pv, Fd, HO.out⟩, Kp.of_below (Below.refl _ _)⟩
end Go.Proofs.YtggnjgmjfenibaaGreatDoor
