import Derived.Test.YtofmiaaglbcebaaGreatDoorR4z
import Derived.Deep.RegionWith
import Derived.Deep.DrawnRows

-- The document's handles.
namespace Go.Proofs.YtofmiaaglbcebaaGreatDoor
open Go.RowKit
set_option linter.unusedVariables false
attribute [local go_sem ↓] Go.wp_at_zero Go.wp_at_succ
set_option maxHeartbeats 4000000 in
theorem rClosed_c (G : Nat → Prop) (r : Nat) (v : Vs) (b : Nat) (x : Hd) (w : World) (h : RV G r v w) (hb : RFileAt w b r x) :
    Calls Tryz.prog 65 #[.pointer (some ⟨b, 0, none⟩)] w fun e w' => e = .returned (.bool (x.closed v)) ∧ Alike w w' := by
  obtain ⟨p, m, Fd, O⟩ := h
  obtain ⟨c0, c1, c2, c3, c4, cf⟩ := O.cells
  obtain ⟨d0, d1, d2, d3, d4, df⟩ := hb.cells
  rcases hs : x.shut with _ | _
  · rw [hs] at d4
    have HE : Hid (x.closed v = ((x.round : Int) != (v.round : Int))) := by
      show _ = _
      unfold Hd.closed; rw [hs]
      by_cases hr : x.round = v.round
      · simp [hr]
      · have : (x.round : Int) ≠ v.round := by omega
        simp [hr, this]
    clear O c0 c1 c2 c3 cf d1 d2 df hs
    go_enter Tryz.func65, Tryz.ntmps65
    go_wp2
    go_quiet (fail)
    go_wp2
    go_returns
    rw [HE.out]
    exact ⟨rfl, Alike.drewN w nq⟩
  · rw [hs] at d4
    have HE : Hid (x.closed v = true) := by show _ = _; unfold Hd.closed; rw [hs]; rfl
    clear O c0 c1 c2 c3 cf d1 d2 df hs
    go_enter Tryz.func65, Tryz.ntmps65
    go_wp2
    go_quiet (fail)
    go_wp2
    go_returns
    rw [HE.out]
    exact ⟨rfl, Alike.drewN w nq⟩
set_option maxHeartbeats 4000000 in
theorem rSync_c (G : Nat → Prop) (r : Nat) (v : Vs) (b : Nat) (x : Hd) (w : World) (h : RV G r v w) (hb : RFileAt w b r x) (hG : ¬ G b) (hw : Wf v.st) (hn : v.cnt ≤ 4194304) :
    Calls Tryz.prog 45 #[.pointer (some ⟨b, 0, none⟩)] w fun e w' => e = .returned (.int .i64 (v.sync x).1) ∧ RDid G r (v.sync x).2 w w' := by
  have HCl : Hid (Calls Tryz.prog 65 #[.pointer (some ⟨b, 0, none⟩)] w fun e w' => e = .returned (.bool (x.closed v)) ∧ Alike w w') := rClosed_c G r v b x w h hb
  rcases hc : x.closed v with _ | _
  · have HE : Hid (v.sync x = v.syncB x.body) := by show _ = _; unfold Vs.sync; rw [hc]; rfl
    rw [hc] at HCl
    have HA : Hid (∀ W, Alike w W → W.cell? ⟨b, 0, none⟩ = some (.pointer (some ⟨r, 0, none⟩))) := fun W hA => (hb.below hA.below).cells.1
    have HRef : Hid (∀ W, Alike w W → Calls Tryz.prog 56 #[.pointer (some ⟨r, 0, none⟩)] W fun e w' => e = .returned (.tuple #[.int .i64 v.met.1, .int .i64 v.sh]) ∧ RV G r v.met.2 w' ∧ Kp G w w' ∧ w'.cell? ⟨b, 0, none⟩ = some (.pointer (some ⟨r, 0, none⟩)) ∧ w'.cell? ⟨b, 1, none⟩ = some (.int .i64 x.body)) := fun W hA => (meets_c G r v W (h.below hA.below) hn).mono (by
      rintro e w' ⟨rfl, h1, h2⟩
      have hk : Kp G w w' := (Kp.of_below hA.below).trans h2
      have hf := (hb.kept hk hG).cells
      exact ⟨rfl, h1, hk, hf.1, hf.2.1⟩)
    have hs := met_st v
    by_cases hm : v.met.1 = 0
    · have HE2 : Hid (v.syncB x.body = ((v.st.sync x.body).1, v.met.2.on (v.st.sync x.body).2)) := by show _ = _; unfold Vs.syncB; rw [if_neg (by simp [hm])]
      have HV : Hid (∀ d pv Fd w1, RVo G r v.met.2 w1 d pv Fd → Kp G w w1 → ∀ W, Alike w1 W → Calls Tryz.prog 67 #[.pointer (some ⟨d, 0, none⟩), .int .i64 x.body] W fun e w' => e = .returned (.int .i64 (v.st.sync x.body).1) ∧ RDid G r (v.met.2.on (v.st.sync x.body).2) w w') := fun d pv Fd w1 O hk W hA => by
        have OW := O.below hA.below
        obtain ⟨bv, dv, dvs, hd⟩ := OW.disk
        refine (sync_c Fd d v.met.2.st bv dv dvs x.body W hd (by rw [hs]; exact hw)).mono ?_
        rintro e w' ⟨rfl, h1⟩
        rw [hs] at h1 ⊢
        exact ⟨rfl, RDid.after ⟨d, pv, Fd, OW⟩ (hk.kept hA.below) (OW.did0 h1)⟩
      rw [hm] at HRef
      clear h hw hn hm hs hb hc
      go_enter Tryz.func45, Tryz.ntmps45
      go_wp2_with (first
        | (go_at_call 65; refine HCl.out.mono ?_; rintro e w0 ⟨rfl, hA0⟩; have d0 := HA.out w0 hA0)
        | (go_at_call 56; refine (HRef.out w0 hA0).mono ?_; rintro e w1 ⟨rfl, ⟨d, pv, Fd, O1⟩, hk1, b0, b1⟩; have c0 := O1.cell0))
      have HV2 : Hid (∀ W, Alike w1 W → Calls Tryz.prog 67 #[.pointer (some ⟨d, 0, none⟩), .int .i64 x.body] W fun e w' => e = .returned (.int .i64 (v.st.sync x.body).1) ∧ RDid G r (v.met.2.on (v.st.sync x.body).2) w w') := HV.out d pv Fd w1 O1 hk1
      clear O1 hk1 d0 hA0
      go_region_with (go_at_call 67; refine (HV2.out _ (Alike.mk ?_ ?_ ?_ ?_)).mono ?_; rfl; rfl; rfl; rfl; rintro e w2 ⟨rfl, hd⟩)
      all_goals
        go_wp2
        go_returns
        rw [HE.out, HE2.out]
        exact ⟨rfl, hd.below (Alike.below ⟨rfl, rfl, rfl, rfl⟩)⟩
    · have HE2 : Hid (v.syncB x.body = (v.met.1, v.met.2)) := by show _ = _; unfold Vs.syncB; rw [if_pos hm]
      have HOf : Hid (∀ W, RV G r v.met.2 W → Kp G w W → RDid G r v.met.2 w W) := fun W h1 h2 => RDid.of h1 h2
      have b1 : ((v.met.1 : Int) == 0) = false := by simp; omega
      obtain ⟨E, hE⟩ : ∃ E, E = v.met.1 := ⟨_, rfl⟩
      rw [← hE] at HRef HE2 b1
      have b2 : ((E : Int) != 0) = true := by simp [bne, b1]
      clear hm hE h hn hw hs hb hc
      go_enter Tryz.func45, Tryz.ntmps45
      go_wp2_with (first
        | (go_at_call 65; refine HCl.out.mono ?_; rintro e w0 ⟨rfl, hA0⟩; have d0 := HA.out w0 hA0)
        | (go_at_call 56; refine (HRef.out w0 hA0).mono ?_; rintro e w1 ⟨rfl, hv1, hk1, _, _⟩))
      go_returns
      rw [HE.out, HE2.out]
      exact ⟨rfl, HOf.out _ hv1 hk1⟩
  · have HE : Hid (v.sync x = (42, v)) := by show _ = _; unfold Vs.sync; rw [hc]; rfl
    have HO : Hid (∀ W, Below w.heap.size w W → RDid G r v w W) := fun W hb => RDid.of (h.below hb) (Kp.of_below hb)
    rw [hc] at HCl
    clear h hb hc hG
    go_enter Tryz.func45, Tryz.ntmps45
    go_wp2_with (go_at_call 65; refine HCl.out.mono ?_; rintro e w0 ⟨rfl, hA0⟩)
    go_returns
    rw [HE.out]
    exact ⟨rfl, HO.out _ hA0.below⟩
end Go.Proofs.YtofmiaaglbcebaaGreatDoor
