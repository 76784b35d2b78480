import Derived.Test.YtofmiaaglbcebaaGreatDoorR5z
import Derived.Deep.RegionWith
import Derived.Deep.DrawnRows

-- The document's volume: Write, Restart.
namespace Go.Proofs.YtofmiaaglbcebaaGreatDoor
open Go.RowKit
set_option linter.unusedVariables false
attribute [local go_sem ↓] Go.wp_at_zero Go.wp_at_succ
theorem part_some (data : ByteArray) (k : Int) : ∃ n : Nat, (if k < 0 then (0 : Int) else k) = n ∧ ((n < data.size ∧ part data k = data.extract 0 n) ∨ (data.size ≤ n ∧ part data k = data)) := by
  refine ⟨(max k 0).toNat, ?_, ?_⟩
  · split <;> omega
  · unfold part
    by_cases h : (max k 0).toNat < data.size
    · exact .inl ⟨h, by rw [Nat.min_eq_left (by omega)]⟩
    · refine .inr ⟨by omega, ?_⟩
      rw [Nat.min_eq_right (by omega)]
      exact ByteArray.extract_zero_size
theorem part_size (data : ByteArray) (k : Int) : (part data k).size ≤ data.size := by
  obtain ⟨n, _, h | h⟩ := part_some data k
  · rw [h.2]; simp; omega
  · rw [h.2]; exact Nat.le_refl _
theorem sh_some {v : Vs} {k : Int} (h : v.short = some k) : v.sh = if k < 0 then 0 else k := by unfold Vs.sh; rw [h]
theorem sh_none {v : Vs} (h : v.short = none) : v.sh = -1 := by unfold Vs.sh; rw [h]
set_option maxHeartbeats 4000000 in
theorem rWrite_c (G : Nat → Prop) (r : Nat) (v : Vs) (b : Nat) (x : Hd) (data : ByteArray) (w : World) (h : RV G r v w) (hb : RFileAt w b r x) (hG : ¬ G b) (hw : Wf v.st) (hn : v.cnt ≤ 4194304) (hdl : data.size ≤ 140737488355328) :
    Calls Tryz.prog 44 #[.pointer (some ⟨b, 0, none⟩), .string data] w fun e w' => e = .returned (.tuple #[.int .i64 (v.write x data).1.1, .int .i64 (v.write x data).1.2]) ∧ RDid G r (v.write x data).2 w w' := by
  have HCl : Hid (Calls Tryz.prog 65 #[.pointer (some ⟨b, 0, none⟩)] w fun e w' => e = .returned (.bool (x.closed v)) ∧ Alike w w') := rClosed_c G r v b x w h hb
  rcases hc : x.closed v with _ | _
  · have HE : Hid (v.write x data = v.writeB x.body data) := by show _ = _; unfold Vs.write; rw [hc]; rfl
    rw [hc] at HCl
    have HA : Hid (∀ W, Alike w W → W.cell? ⟨b, 0, none⟩ = some (.pointer (some ⟨r, 0, none⟩))) := fun W hA => (hb.below hA.below).cells.1
    have HRef : Hid (∀ W, Alike w W → Calls Tryz.prog 56 #[.pointer (some ⟨r, 0, none⟩)] W fun e w' => e = .returned (.tuple #[.int .i64 v.met.1, .int .i64 v.sh]) ∧ RV G r v.met.2 w' ∧ Kp G w w' ∧ w'.cell? ⟨b, 0, none⟩ = some (.pointer (some ⟨r, 0, none⟩)) ∧ w'.cell? ⟨b, 1, none⟩ = some (.int .i64 x.body)) := fun W hA => (meets_c G r v W (h.below hA.below) hn).mono (by
      rintro e w' ⟨rfl, h1, h2⟩
      have hk : Kp G w w' := (Kp.of_below hA.below).trans h2
      have hf := (hb.kept hk hG).cells
      exact ⟨rfl, h1, hk, hf.1, hf.2.1⟩)
    have hs := met_st v
    have HV : Hid (∀ (P : ByteArray), P.size ≤ data.size → ∀ d pv Fd w1, RVo G r v.met.2 w1 d pv Fd → Kp G w w1 → ∀ W, Alike w1 W → Calls Tryz.prog 66 #[.pointer (some ⟨d, 0, none⟩), .int .i64 x.body, .string P] W fun e w' => e = .returned (.int .i64 (v.st.append x.body P).1) ∧ RDid G r (v.met.2.on (v.st.append x.body P).2) w w') := fun P hP d pv Fd w1 O hk W hA => by
      have OW := O.below hA.below
      obtain ⟨bv, dv, dvs, hd⟩ := OW.disk
      refine (append_c Fd d v.met.2.st bv dv dvs x.body P W hd (by rw [hs]; exact hw) (by omega)).mono ?_
      rintro e w' ⟨rfl, h1⟩
      rw [hs] at h1 ⊢
      exact ⟨rfl, RDid.after ⟨d, pv, Fd, OW⟩ (hk.kept hA.below) (OW.did0 h1)⟩
    by_cases hm : v.met.1 = 0
    · obtain ⟨A, hA⟩ : ∃ A, A = (v.st.append x.body data).1 := ⟨_, rfl⟩
      have HE2 : Hid (v.writeB x.body data = (if A ≠ 0 then ((0, A), v.met.2.on (v.st.append x.body data).2) else ((data.size, 0), v.met.2.on (v.st.append x.body data).2))) := by show _ = _; unfold Vs.writeB; rw [if_pos hm, hA]
      have HV1 : Hid (∀ d pv Fd w1, RVo G r v.met.2 w1 d pv Fd → Kp G w w1 → ∀ W, Alike w1 W → Calls Tryz.prog 66 #[.pointer (some ⟨d, 0, none⟩), .int .i64 x.body, .string data] W fun e w' => e = .returned (.int .i64 A) ∧ RDid G r (v.met.2.on (v.st.append x.body data).2) w w') := by rw [hA]; exact HV.out data (Nat.le_refl _)
      rw [hm] at HRef
      obtain ⟨V2, hV2⟩ : ∃ V2, V2 = v.met.2.on (v.st.append x.body data).2 := ⟨_, rfl⟩
      rw [← hV2] at HV1 HE2
      clear h hw hn hm hs hb hc HV hA hV2 hdl
      by_cases h0 : A = 0
      · subst h0
        go_enter Tryz.func44, Tryz.ntmps44
        go_wp2_with (first
          | (go_at_call 65; refine HCl.out.mono ?_; rintro e w0 ⟨rfl, hA0⟩; have d0 := HA.out w0 hA0)
          | (go_at_call 56; refine (HRef.out w0 hA0).mono ?_; rintro e w1 ⟨rfl, ⟨d, pv, Fd, O1⟩, hk1, e0, e1⟩; have c0 := O1.cell0))
        have HV2 := HV1.out d pv Fd w1 O1 hk1
        have HV3 : Hid _ := HV2
        clear O1 hk1 d0 hA0 HV2
        go_region_with (go_at_call 66; refine (HV3.out _ (Alike.mk ?_ ?_ ?_ ?_)).mono ?_; rfl; rfl; rfl; rfl; rintro e w2 ⟨rfl, hd⟩)
        all_goals
          go_wp2
          go_returns
          rw [HE.out, HE2.out, if_neg (by simp)]
          exact ⟨rfl, hd.below (Alike.below ⟨rfl, rfl, rfl, rfl⟩)⟩
      · have HA0 : Hid (A ≠ 0) := h0
        have b1 : ((A : Int) == 0) = false := by simp; omega
        have b2 : ((A : Int) != 0) = true := by simp [bne, b1]
        clear h0
        go_enter Tryz.func44, Tryz.ntmps44
        go_wp2_with (first
          | (go_at_call 65; refine HCl.out.mono ?_; rintro e w0 ⟨rfl, hA0⟩; have d0 := HA.out w0 hA0)
          | (go_at_call 56; refine (HRef.out w0 hA0).mono ?_; rintro e w1 ⟨rfl, ⟨d, pv, Fd, O1⟩, hk1, e0, e1⟩; have c0 := O1.cell0))
        have HV2 := HV1.out d pv Fd w1 O1 hk1
        have HV3 : Hid _ := HV2
        clear O1 hk1 d0 hA0 HV2
        go_region_with (go_at_call 66; refine (HV3.out _ (Alike.mk ?_ ?_ ?_ ?_)).mono ?_; rfl; rfl; rfl; rfl; rintro e w2 ⟨rfl, hd⟩)
        all_goals
          go_wp2
          go_returns
          rw [HE.out, HE2.out, if_pos HA0.out]
          exact ⟨rfl, hd.below (Alike.below ⟨rfl, rfl, rfl, rfl⟩)⟩
    · have HM : Hid (v.met.1 ≠ 0) := hm
      have b1 : ((v.met.1 : Int) == 0) = false := by simp; omega
      cases hsh : v.short with
      | none =>
        have HE2 : Hid (v.writeB x.body data = ((0, v.met.1), v.met.2)) := by show _ = _; unfold Vs.writeB; rw [if_neg hm, hsh]
        have HOf : Hid (∀ W, RV G r v.met.2 W → Kp G w W → RDid G r v.met.2 w W) := fun W h1 h2 => RDid.of h1 h2
        rw [sh_none hsh] at HRef
        obtain ⟨E, hE⟩ : ∃ E, E = v.met.1 := ⟨_, rfl⟩
        rw [← hE] at HRef HE2 b1
        have b2 : ((E : Int) != 0) = true := by simp [bne, b1]
        clear hm hE h hn hw hs hb hc HV hdl hsh
        go_enter Tryz.func44, Tryz.ntmps44
        go_wp2_with (first
          | (go_at_call 65; refine HCl.out.mono ?_; rintro e w0 ⟨rfl, hA0⟩; have d0 := HA.out w0 hA0)
          | (go_at_call 56; refine (HRef.out w0 hA0).mono ?_; rintro e w1 ⟨rfl, hv1, hk1, _, _⟩))
        go_returns
        rw [HE.out, HE2.out]
        exact ⟨rfl, HOf.out _ hv1 hk1⟩
      | some k =>
        obtain ⟨n, hnk, hp⟩ := part_some data k
        rw [sh_some hsh, hnk] at HRef
        obtain ⟨P, hP⟩ : ∃ P, P = part data k := ⟨_, rfl⟩
        have hPl : P.size ≤ data.size := by rw [hP]; exact part_size data k
        obtain ⟨A, hA⟩ : ∃ A, A = (v.st.append x.body P).1 := ⟨_, rfl⟩
        have HE2 : Hid (v.writeB x.body data = (if A ≠ 0 then ((0, A), v.met.2.on (v.st.append x.body P).2) else ((P.size, v.met.1), v.met.2.on (v.st.append x.body P).2))) := by show _ = _; unfold Vs.writeB; rw [if_neg hm, hsh, hA, hP]
        have HV1 : Hid (∀ d pv Fd w1, RVo G r v.met.2 w1 d pv Fd → Kp G w w1 → ∀ W, Alike w1 W → Calls Tryz.prog 66 #[.pointer (some ⟨d, 0, none⟩), .int .i64 x.body, .string P] W fun e w' => e = .returned (.int .i64 A) ∧ RDid G r (v.met.2.on (v.st.append x.body P).2) w w') := by rw [hA]; exact HV.out P hPl
        obtain ⟨V2, hV2⟩ : ∃ V2, V2 = v.met.2.on (v.st.append x.body P).2 := ⟨_, rfl⟩
        obtain ⟨E, hE⟩ : ∃ E, E = v.met.1 := ⟨_, rfl⟩
        rw [← hV2] at HV1 HE2
        rw [← hE] at HRef HE2 b1
        have b2 : ((E : Int) != 0) = true := by simp [bne, b1]
        have b3 : decide ((n : Int) < 0) = false := by simp
        rw [← hP] at hp
        clear h hw hn hm hs hb hc HV hA hV2 hE hnk hP hPl hsh HM
        have hA0 : A = 0 ∨ (A ≠ 0 ∧ ((A : Int) == 0) = false) := by
          rcases Nat.eq_zero_or_pos A with h | h
          · exact .inl h
          · exact .inr ⟨by omega, by simp; omega⟩
        rcases hp with ⟨hlt, rfl⟩ | ⟨hle, hPd⟩
        · have b4 : decide ((n : Int) < (data.size : Int)) = true := by simp; omega
          have n0 : (0 : Int) ≤ (n : Int) := by omega
          have n1 : (n : Int) ≤ (data.size : Int) := by omega
          rcases hA0 with rfl | ⟨h0, b5⟩
          · go_enter Tryz.func44, Tryz.ntmps44
            go_wp2_with (first
              | (go_at_call 65; refine HCl.out.mono ?_; rintro e w0 ⟨rfl, hA0⟩; have d0 := HA.out w0 hA0)
              | (go_at_call 56; refine (HRef.out w0 hA0).mono ?_; rintro e w1 ⟨rfl, ⟨d, pv, Fd, O1⟩, hk1, e0, e1⟩; have c0 := O1.cell0))
            have HV2 := HV1.out d pv Fd w1 O1 hk1
            have HV3 : Hid _ := HV2
            clear O1 hk1 d0 hA0 HV2
            go_region_with (go_at_call 66; refine (HV3.out _ (Alike.mk ?_ ?_ ?_ ?_)).mono ?_; rfl; rfl; rfl; rfl; rintro e w2 ⟨rfl, hd⟩)
            all_goals
              go_wp2
              go_returns
              rw [HE.out, HE2.out, if_neg (by simp)]
              refine ⟨?_, hd.below (Alike.below ⟨rfl, rfl, rfl, rfl⟩)⟩
              show _ = Ending.returned (.tuple #[.int .i64 ((data.extract 0 n).size : Nat), .int .i64 E])
              rw [show (data.extract 0 n).size = min n data.size by simp]
              rfl
          · have HA0 : Hid (A ≠ 0) := h0
            have b6 : ((A : Int) != 0) = true := by simp [bne, b5]
            clear h0
            go_enter Tryz.func44, Tryz.ntmps44
            go_wp2_with (first
              | (go_at_call 65; refine HCl.out.mono ?_; rintro e w0 ⟨rfl, hA0⟩; have d0 := HA.out w0 hA0)
              | (go_at_call 56; refine (HRef.out w0 hA0).mono ?_; rintro e w1 ⟨rfl, ⟨d, pv, Fd, O1⟩, hk1, e0, e1⟩; have c0 := O1.cell0))
            have HV2 := HV1.out d pv Fd w1 O1 hk1
            have HV3 : Hid _ := HV2
            clear O1 hk1 d0 hA0 HV2
            go_region_with (go_at_call 66; refine (HV3.out _ (Alike.mk ?_ ?_ ?_ ?_)).mono ?_; rfl; rfl; rfl; rfl; rintro e w2 ⟨rfl, hd⟩)
            all_goals
              go_wp2
              go_returns
              rw [HE.out, HE2.out, if_pos HA0.out]
              exact ⟨rfl, hd.below (Alike.below ⟨rfl, rfl, rfl, rfl⟩)⟩
        · subst hPd
          have b4 : decide ((n : Int) < (P.size : Int)) = false := by simp; omega
          rcases hA0 with rfl | ⟨h0, b5⟩
          · go_enter Tryz.func44, Tryz.ntmps44
            go_wp2_with (first
              | (go_at_call 65; refine HCl.out.mono ?_; rintro e w0 ⟨rfl, hA0⟩; have d0 := HA.out w0 hA0)
              | (go_at_call 56; refine (HRef.out w0 hA0).mono ?_; rintro e w1 ⟨rfl, ⟨d, pv, Fd, O1⟩, hk1, e0, e1⟩; have c0 := O1.cell0))
            have HV2 := HV1.out d pv Fd w1 O1 hk1
            have HV3 : Hid _ := HV2
            clear O1 hk1 d0 hA0 HV2
            go_region_with (go_at_call 66; refine (HV3.out _ (Alike.mk ?_ ?_ ?_ ?_)).mono ?_; rfl; rfl; rfl; rfl; rintro e w2 ⟨rfl, hd⟩)
            all_goals
              go_wp2
              go_returns
              rw [HE.out, HE2.out, if_neg (by simp)]
              exact ⟨rfl, hd.below (Alike.below ⟨rfl, rfl, rfl, rfl⟩)⟩
          · have HA0 : Hid (A ≠ 0) := h0
            have b6 : ((A : Int) != 0) = true := by simp [bne, b5]
            clear h0
            go_enter Tryz.func44, Tryz.ntmps44
            go_wp2_with (first
              | (go_at_call 65; refine HCl.out.mono ?_; rintro e w0 ⟨rfl, hA0⟩; have d0 := HA.out w0 hA0)
              | (go_at_call 56; refine (HRef.out w0 hA0).mono ?_; rintro e w1 ⟨rfl, ⟨d, pv, Fd, O1⟩, hk1, e0, e1⟩; have c0 := O1.cell0))
            have HV2 := HV1.out d pv Fd w1 O1 hk1
            have HV3 : Hid _ := HV2
            clear O1 hk1 d0 hA0 HV2
            go_region_with (go_at_call 66; refine (HV3.out _ (Alike.mk ?_ ?_ ?_ ?_)).mono ?_; rfl; rfl; rfl; rfl; rintro e w2 ⟨rfl, hd⟩)
            all_goals
              go_wp2
              go_returns
              rw [HE.out, HE2.out, if_pos HA0.out]
              exact ⟨rfl, hd.below (Alike.below ⟨rfl, rfl, rfl, rfl⟩)⟩
  · have HE : Hid (v.write x data = ((0, 42), v)) := by show _ = _; unfold Vs.write; rw [hc]; rfl
    have HO : Hid (∀ W, Below w.heap.size w W → RDid G r v w W) := fun W hb => RDid.of (h.below hb) (Kp.of_below hb)
    rw [hc] at HCl
    clear h hb hc hG
    go_enter Tryz.func44, Tryz.ntmps44
    go_wp2_with (go_at_call 65; refine HCl.out.mono ?_; rintro e w0 ⟨rfl, hA0⟩)
    go_returns
    rw [HE.out]
    exact ⟨rfl, HO.out _ hA0.below⟩
end Go.Proofs.YtofmiaaglbcebaaGreatDoor
