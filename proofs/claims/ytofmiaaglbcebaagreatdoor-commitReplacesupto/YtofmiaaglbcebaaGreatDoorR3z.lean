import Derived.Test.YtofmiaaglbcebaaGreatDoorM3
import Derived.Test.YtofmiaaglbcebaaGreatDoorU16z
import Derived.Deep.RegionWith
import Derived.Deep.DrawnRows

-- The calls of the document's volume.
namespace Go.Proofs.YtofmiaaglbcebaaGreatDoor
open Go.RowKit
set_option linter.unusedVariables false
attribute [local go_sem ↓] Go.wp_at_zero Go.wp_at_succ
theorem RVo.cell0 {G Fd : Nat → Prop} {r d : Nat} {pv : Value} {v : Vs} {w : World} (O : RVo G r v w d pv Fd) : w.cell? ⟨r, 0, none⟩ = some (.pointer (some ⟨d, 0, none⟩)) := O.cells.1
theorem RVo.did0 {G Fd : Nat → Prop} {r d : Nat} {pv : Value} {v : Vs} {w w' : World} {st : St} (O : RVo G r v w d pv Fd) (h : Did Fd d st w w') : RDid G r (v.on st) w w' := ⟨⟨d, pv, _, (O.did h).1⟩, (O.did h).2⟩
set_option maxHeartbeats 4000000 in
theorem rRename_c (G : Nat → Prop) (r : Nat) (v : Vs) (old to : ByteArray) (w : World) (h : RV G r v w) (hw : Wf v.st) (hn : v.cnt ≤ 4194304) :
    Calls Tryz.prog 53 #[.pointer (some ⟨r, 0, none⟩), .string old, .string to] w fun e w' => e = .returned (.int .i64 (v.rename old to).1) ∧ RDid G r (v.rename old to).2 w w' := by
  have HRef : Hid (Calls Tryz.prog 56 #[.pointer (some ⟨r, 0, none⟩)] w fun e w' => e = .returned (.tuple #[.int .i64 v.met.1, .int .i64 v.sh]) ∧ RV G r v.met.2 w' ∧ Kp G w w') := meets_c G r v w h hn
  have hs := met_st v
  by_cases hm : v.met.1 = 0
  · have HE : Hid (v.rename old to = ((v.st.rename old to).1, v.met.2.on (v.st.rename old to).2)) := by show _ = _; unfold Vs.rename; rw [if_neg (by simp [hm])]
    have HV : Hid (∀ d pv Fd w1, RVo G r v.met.2 w1 d pv Fd → Kp G w w1 → Calls Tryz.prog 75 #[.pointer (some ⟨d, 0, none⟩), .string old, .string to] w1 fun e w' => e = .returned (.int .i64 (v.st.rename old to).1) ∧ RDid G r (v.met.2.on (v.st.rename old to).2) w w') := fun d pv Fd w1 O hk => by
      obtain ⟨bv, dv, dvs, hd⟩ := O.disk
      refine (rename_c Fd d v.met.2.st bv dv dvs old to w1 hd (by rw [hs]; exact hw)).mono ?_
      rintro e w' ⟨rfl, h1⟩
      rw [hs] at h1 ⊢
      exact ⟨rfl, RDid.after ⟨d, pv, Fd, O⟩ hk (O.did0 h1)⟩
    rw [hm] at HRef
    clear h hw hn hm hs
    go_enter Tryz.func53, Tryz.ntmps53
    go_wp2_with (first
      | (go_at_call 56; refine HRef.out.mono ?_; rintro e w1 ⟨rfl, ⟨d, pv, Fd, O1⟩, hk1⟩; have c0 := O1.cell0)
      | (go_at_call 75; refine (HV.out d pv Fd _ O1 hk1).mono ?_; rintro e w2 ⟨rfl, hd⟩))
    go_returns
    rw [HE.out]
    exact ⟨rfl, hd⟩
  · have HE : Hid (v.rename old to = (v.met.1, v.met.2)) := by show _ = _; unfold Vs.rename; rw [if_pos hm]
    have HOf : Hid (∀ W, RV G r v.met.2 W → Kp G w W → RDid G r v.met.2 w W) := fun W h1 h2 => RDid.of h1 h2
    have b1 : ((v.met.1 : Int) == 0) = false := by simp; omega
    obtain ⟨E, hE⟩ : ∃ E, E = v.met.1 := ⟨_, rfl⟩
    rw [← hE] at HRef HE b1
    have b2 : ((E : Int) != 0) = true := by simp [bne, b1]
    clear hm hE h hn hw hs
    go_enter Tryz.func53, Tryz.ntmps53
    go_wp2_with (go_at_call 56; refine HRef.out.mono ?_; rintro e w1 ⟨rfl, hv1, hk1⟩)
    go_returns
    rw [HE.out]
    exact ⟨rfl, HOf.out _ hv1 hk1⟩
set_option maxHeartbeats 4000000 in
theorem rRemove_c (G : Nat → Prop) (r : Nat) (v : Vs) (name : ByteArray) (w : World) (h : RV G r v w) (hw : Wf v.st) (hn : v.cnt ≤ 4194304) :
    Calls Tryz.prog 54 #[.pointer (some ⟨r, 0, none⟩), .string name] w fun e w' => e = .returned (.int .i64 (v.remove name).1) ∧ RDid G r (v.remove name).2 w w' := by
  have HRef : Hid (Calls Tryz.prog 56 #[.pointer (some ⟨r, 0, none⟩)] w fun e w' => e = .returned (.tuple #[.int .i64 v.met.1, .int .i64 v.sh]) ∧ RV G r v.met.2 w' ∧ Kp G w w') := meets_c G r v w h hn
  have hs := met_st v
  by_cases hm : v.met.1 = 0
  · have HE : Hid (v.remove name = ((v.st.remove name).1, v.met.2.on (v.st.remove name).2)) := by show _ = _; unfold Vs.remove; rw [if_neg (by simp [hm])]
    have HV : Hid (∀ d pv Fd w1, RVo G r v.met.2 w1 d pv Fd → Kp G w w1 → Calls Tryz.prog 76 #[.pointer (some ⟨d, 0, none⟩), .string name] w1 fun e w' => e = .returned (.int .i64 (v.st.remove name).1) ∧ RDid G r (v.met.2.on (v.st.remove name).2) w w') := fun d pv Fd w1 O hk => by
      obtain ⟨bv, dv, dvs, hd⟩ := O.disk
      refine (remove_c Fd d v.met.2.st bv dv dvs name w1 hd (by rw [hs]; exact hw)).mono ?_
      rintro e w' ⟨rfl, h1⟩
      rw [hs] at h1 ⊢
      exact ⟨rfl, RDid.after ⟨d, pv, Fd, O⟩ hk (O.did0 h1)⟩
    rw [hm] at HRef
    clear h hw hn hm hs
    go_enter Tryz.func54, Tryz.ntmps54
    go_wp2_with (first
      | (go_at_call 56; refine HRef.out.mono ?_; rintro e w1 ⟨rfl, ⟨d, pv, Fd, O1⟩, hk1⟩; have c0 := O1.cell0)
      | (go_at_call 76; refine (HV.out d pv Fd _ O1 hk1).mono ?_; rintro e w2 ⟨rfl, hd⟩))
    go_returns
    rw [HE.out]
    exact ⟨rfl, hd⟩
  · have HE : Hid (v.remove name = (v.met.1, v.met.2)) := by show _ = _; unfold Vs.remove; rw [if_pos hm]
    have HOf : Hid (∀ W, RV G r v.met.2 W → Kp G w W → RDid G r v.met.2 w W) := fun W h1 h2 => RDid.of h1 h2
    have b1 : ((v.met.1 : Int) == 0) = false := by simp; omega
    obtain ⟨E, hE⟩ : ∃ E, E = v.met.1 := ⟨_, rfl⟩
    rw [← hE] at HRef HE b1
    have b2 : ((E : Int) != 0) = true := by simp [bne, b1]
    clear hm hE h hn hw hs
    go_enter Tryz.func54, Tryz.ntmps54
    go_wp2_with (go_at_call 56; refine HRef.out.mono ?_; rintro e w1 ⟨rfl, hv1, hk1⟩)
    go_returns
    rw [HE.out]
    exact ⟨rfl, HOf.out _ hv1 hk1⟩
set_option maxHeartbeats 4000000 in
theorem rSyncDir_c (G : Nat → Prop) (r : Nat) (v : Vs)  (w : World) (h : RV G r v w) (hw : Wf v.st) (hn : v.cnt ≤ 4194304) :
    Calls Tryz.prog 46 #[.pointer (some ⟨r, 0, none⟩)] w fun e w' => e = .returned (.int .i64 v.syncDir.1) ∧ RDid G r (v.syncDir).2 w w' := by
  have HRef : Hid (Calls Tryz.prog 56 #[.pointer (some ⟨r, 0, none⟩)] w fun e w' => e = .returned (.tuple #[.int .i64 v.met.1, .int .i64 v.sh]) ∧ RV G r v.met.2 w' ∧ Kp G w w') := meets_c G r v w h hn
  have hs := met_st v
  by_cases hm : v.met.1 = 0
  · have HE : Hid (v.syncDir = (0, v.met.2.on v.st.syncDir)) := by show _ = _; unfold Vs.syncDir; rw [if_neg (by simp [hm])]
    have HV : Hid (∀ d pv Fd w1, RVo G r v.met.2 w1 d pv Fd → Kp G w w1 → Calls Tryz.prog 68 #[.pointer (some ⟨d, 0, none⟩)] w1 fun e w' => e = .returned (.tuple #[]) ∧ RDid G r (v.met.2.on v.st.syncDir) w w') := fun d pv Fd w1 O hk => by
      obtain ⟨bv, dv, dvs, hd⟩ := O.disk
      refine (syncDir_c Fd d v.met.2.st bv dv dvs w1 hd (by rw [hs]; exact hw)).mono ?_
      rintro e w' ⟨rfl, h1⟩
      rw [hs] at h1
      exact ⟨rfl, RDid.after ⟨d, pv, Fd, O⟩ hk (O.did0 h1)⟩
    rw [hm] at HRef
    clear h hw hn hm hs
    go_enter Tryz.func46, Tryz.ntmps46
    go_wp2_with (first
      | (go_at_call 56; refine HRef.out.mono ?_; rintro e w1 ⟨rfl, ⟨d, pv, Fd, O1⟩, hk1⟩; have c0 := O1.cell0)
      | (go_at_call 68; refine (HV.out d pv Fd _ O1 hk1).mono ?_; rintro e w2 ⟨rfl, hd⟩))
    go_returns
    rw [HE.out]
    exact ⟨rfl, hd⟩
  · have HE : Hid (v.syncDir = (v.met.1, v.met.2)) := by show _ = _; unfold Vs.syncDir; rw [if_pos hm]
    have HOf : Hid (∀ W, RV G r v.met.2 W → Kp G w W → RDid G r v.met.2 w W) := fun W h1 h2 => RDid.of h1 h2
    have b1 : ((v.met.1 : Int) == 0) = false := by simp; omega
    obtain ⟨E, hE⟩ : ∃ E, E = v.met.1 := ⟨_, rfl⟩
    rw [← hE] at HRef HE b1
    have b2 : ((E : Int) != 0) = true := by simp [bne, b1]
    clear hm hE h hn hw hs
    go_enter Tryz.func46, Tryz.ntmps46
    go_wp2_with (go_at_call 56; refine HRef.out.mono ?_; rintro e w1 ⟨rfl, hv1, hk1⟩)
    go_returns
    rw [HE.out]
    exact ⟨rfl, HOf.out _ hv1 hk1⟩
set_option maxHeartbeats 4000000 in
theorem rList_c (G : Nat → Prop) (r : Nat) (v : Vs) (w : World) (h : RV G r v w) (hw : Wf v.st) (hn : v.cnt ≤ 4194304) :
    Calls Tryz.prog 30 #[.pointer (some ⟨r, 0, none⟩)] w fun e w' => (∃ x, e = .returned (.tuple #[x, .int .i64 v.list.1.2]) ∧ w'.ownsRow w.heap.size 9 1 x v.list.1.1.length (strV v.list.1.1)) ∧ RDid G r v.list.2 w w' := by
  have HRef : Hid (Calls Tryz.prog 56 #[.pointer (some ⟨r, 0, none⟩)] w fun e w' => e = .returned (.tuple #[.int .i64 v.met.1, .int .i64 v.sh]) ∧ RV G r v.met.2 w' ∧ Kp G w w') := meets_c G r v w h hn
  have hs := met_st v
  by_cases hm : v.met.1 = 0
  · have HE : Hid (v.list = ((v.st.names, 0), v.met.2)) := by show _ = _; unfold Vs.list; rw [if_neg (by simp [hm])]
    have HV : Hid (∀ d pv Fd w1, RVo G r v.met.2 w1 d pv Fd → Kp G w w1 → Calls Tryz.prog 59 #[.pointer (some ⟨d, 0, none⟩)] w1 fun e w' => ∃ x, e = .returned x ∧ w'.ownsRow w.heap.size 9 1 x v.st.names.length (strV v.st.names) ∧ RDid G r v.met.2 w w') := fun d pv Fd w1 O hk => by
      obtain ⟨bv, dv, dvs, hd⟩ := O.disk
      refine (names_c Fd d v.met.2.st bv dv dvs w1 hd (by rw [hs]; exact hw)).mono ?_
      rintro e w' ⟨⟨x, rfl, hx⟩, hb⟩
      rw [hs] at hx
      exact ⟨x, rfl, own_mono hx hk.size, RDid.of ⟨d, pv, Fd, O.below hb⟩ (hk.kept hb)⟩
    rw [hm] at HRef
    clear h hw hn hm hs
    go_enter Tryz.func30, Tryz.ntmps30
    go_wp2_with (first
      | (go_at_call 56; refine HRef.out.mono ?_; rintro e w1 ⟨rfl, ⟨d, pv, Fd, O1⟩, hk1⟩; have c0 := O1.cell0)
      | (go_at_call 59; refine (HV.out d pv Fd _ O1 hk1).mono ?_; rintro e w2 ⟨x, rfl, hx, hd⟩))
    go_returns
    rw [HE.out]
    exact ⟨⟨x, rfl, hx⟩, hd⟩
  · have HE : Hid (v.list = (([], v.met.1), v.met.2)) := by show _ = _; unfold Vs.list; rw [if_pos hm]
    have HOf : Hid (∀ W, RV G r v.met.2 W → Kp G w W → RDid G r v.met.2 w W) := fun W h1 h2 => RDid.of h1 h2
    have b1 : ((v.met.1 : Int) == 0) = false := by simp; omega
    obtain ⟨E, hE⟩ : ∃ E, E = v.met.1 := ⟨_, rfl⟩
    rw [← hE] at HRef HE b1
    have b2 : ((E : Int) != 0) = true := by simp [bne, b1]
    clear hm hE h hn hw hs
    go_enter Tryz.func30, Tryz.ntmps30
    go_wp2_with (go_at_call 56; refine HRef.out.mono ?_; rintro e w1 ⟨rfl, hv1, hk1⟩)
    go_returns
    rw [HE.out]
    exact ⟨⟨_, rfl, World.ownsRow_nil _ _ _ _⟩, HOf.out _ hv1 hk1⟩
set_option maxHeartbeats 4000000 in
theorem rRead_c (G : Nat → Prop) (r : Nat) (v : Vs) (name : ByteArray) (w : World) (h : RV G r v w) (hw : Wf v.st) (hn : v.cnt ≤ 4194304) :
    Calls Tryz.prog 26 #[.pointer (some ⟨r, 0, none⟩), .string name] w fun e w' => e = .returned (.tuple #[.string (v.read name).1.1, .int .i64 (v.read name).1.2]) ∧ RDid G r (v.read name).2 w w' := by
  have HRef : Hid (Calls Tryz.prog 56 #[.pointer (some ⟨r, 0, none⟩)] w fun e w' => e = .returned (.tuple #[.int .i64 v.met.1, .int .i64 v.sh]) ∧ RV G r v.met.2 w' ∧ Kp G w w') := meets_c G r v w h hn
  have hs := met_st v
  have HAL : Hid (∀ d pv Fd w1 W, RVo G r v.met.2 w1 d pv Fd → Kp G w w1 → Below w1.heap.size w1 W → RVo G r v.met.2 W d pv Fd ∧ Kp G w W ∧ RDid G r v.met.2 w W ∧ W.cell? ⟨r, 0, none⟩ = some (.pointer (some ⟨d, 0, none⟩))) := fun d pv Fd w1 W O hk hb => ⟨O.below hb, hk.kept hb, RDid.of ⟨d, pv, Fd, O.below hb⟩ (hk.kept hb), (O.below hb).cell0⟩
  by_cases hm : v.met.1 = 0
  · have HF : Hid (∀ d pv Fd w1, RVo G r v.met.2 w1 d pv Fd → Calls Tryz.prog 57 #[.pointer (some ⟨d, 0, none⟩), .string name] w1 fun e w' => e = .returned (.tuple #[.agg #[.int .i64 (v.st.find name).1.2.date, .int .i64 (v.st.find name).1.2.uid, .int .i64 (v.st.find name).1.2.gid, .int .i64 (v.st.find name).1.2.mode, .string (v.st.find name).1.1, .int .i64 (v.st.find name).1.2.data.size], .int .i64 (v.st.find name).2.1, .int .i64 (v.st.find name).2.2]) ∧ Below w1.heap.size w1 w') := fun d pv Fd w1 O => by
      obtain ⟨bv, dv, dvs, hd⟩ := O.disk
      refine (find_c Fd d v.met.2.st bv dv dvs name w1 hd (by rw [hs]; exact hw)).mono ?_
      rintro e w' ⟨rfl, hb⟩
      rw [hs]
      exact ⟨rfl, hb⟩
    have HR : Hid (∀ d pv Fd w1, RVo G r v.met.2 w1 d pv Fd → Calls Tryz.prog 58 #[.pointer (some ⟨d, 0, none⟩), .int .i64 (v.st.find name).2.1] w1 fun e w' => e = .returned (.tuple #[.string (v.st.read (v.st.find name).2.1).1, .int .i64 (v.st.read (v.st.find name).2.1).2]) ∧ Below w1.heap.size w1 w') := fun d pv Fd w1 O => by
      obtain ⟨bv, dv, dvs, hd⟩ := O.disk
      refine (read_c Fd d v.met.2.st bv dv dvs _ w1 hd (by rw [hs]; exact hw)).mono ?_
      rintro e w' ⟨rfl, hb⟩
      rw [hs]
      exact ⟨rfl, hb⟩
    rw [hm] at HRef
    by_cases hf : (v.st.find name).2.2 = 0
    · have HE : Hid (v.read name = (v.st.read (v.st.find name).2.1, v.met.2)) := by show _ = _; unfold Vs.read; rw [if_neg (by simp [hm]), if_neg (by simp [hf])]
      rw [hf] at HF
      clear h hw hn hm hs hf
      go_enter Tryz.func26, Tryz.ntmps26
      go_wp2_with (first
        | (go_at_call 56; refine HRef.out.mono ?_; rintro e w1 ⟨rfl, ⟨d, pv, Fd, O1⟩, hk1⟩; have c0 := O1.cell0)
        | (go_at_call 57; refine (HF.out d pv Fd _ O1).mono ?_; rintro e w2 ⟨rfl, hb2⟩; obtain ⟨O2, hk2, _, c2⟩ := HAL.out d pv Fd w1 w2 O1 hk1 hb2; have hl2 := O2.lt; clear O1 hk1 hb2 c0)
        | (go_at_call 58; refine (HR.out d pv Fd _ (HAL.out d pv Fd w2 _ O2 hk2 (by go_grown)).1).mono ?_; rintro e w3 ⟨rfl, hb3⟩))
      go_returns
      rw [HE.out]
      exact ⟨rfl, (HAL.out d pv Fd w2 w3 O2 hk2 (((Below.refl _ w2).alloc (Nat.le_refl _) _).trans (hb3.mono (by simp)))).2.2.1⟩
    · have HE : Hid (v.read name = ((⟨#[]⟩, (v.st.find name).2.2), v.met.2)) := by show _ = _; unfold Vs.read; rw [if_neg (by simp [hm]), if_pos hf]
      have b1 : (((v.st.find name).2.2 : Int) == 0) = false := by simp; omega
      obtain ⟨E, hE⟩ : ∃ E, E = (v.st.find name).2.2 := ⟨_, rfl⟩
      rw [← hE] at HF HE b1
      have b2 : ((E : Int) != 0) = true := by simp [bne, b1]
      clear h hw hn hm hs hf hE HR
      go_enter Tryz.func26, Tryz.ntmps26
      go_wp2_with (first
        | (go_at_call 56; refine HRef.out.mono ?_; rintro e w1 ⟨rfl, ⟨d, pv, Fd, O1⟩, hk1⟩; have c0 := O1.cell0)
        | (go_at_call 57; refine (HF.out d pv Fd _ O1).mono ?_; rintro e w2 ⟨rfl, hb2⟩; obtain ⟨O2, hk2, _, c2⟩ := HAL.out d pv Fd w1 w2 O1 hk1 hb2; have hl2 := O2.lt; clear O1 hk1 hb2 c0))
      go_returns
      rw [HE.out]
      exact ⟨rfl, (HAL.out d pv Fd w2 _ O2 hk2 (by go_grown)).2.2.1⟩
  · have HE : Hid (v.read name = ((⟨#[]⟩, v.met.1), v.met.2)) := by show _ = _; unfold Vs.read; rw [if_pos hm]
    have HOf : Hid (∀ W, RV G r v.met.2 W → Kp G w W → RDid G r v.met.2 w W) := fun W h1 h2 => RDid.of h1 h2
    have b1 : ((v.met.1 : Int) == 0) = false := by simp; omega
    obtain ⟨E, hE⟩ : ∃ E, E = v.met.1 := ⟨_, rfl⟩
    rw [← hE] at HRef HE b1
    have b2 : ((E : Int) != 0) = true := by simp [bne, b1]
    clear hm hE h hn hw hs
    go_enter Tryz.func26, Tryz.ntmps26
    go_wp2_with (go_at_call 56; refine HRef.out.mono ?_; rintro e w1 ⟨rfl, hv1, hk1⟩)
    go_returns
    rw [HE.out]
    exact ⟨rfl, HOf.out _ hv1 hk1⟩
set_option maxHeartbeats 4000000 in
theorem rCalls_c (G : Nat → Prop) (r : Nat) (v : Vs) (w : World) (h : RV G r v w) :
    Calls Tryz.prog 33 #[.pointer (some ⟨r, 0, none⟩)] w fun e w' => e = .returned (.int .i64 v.cnt) ∧ w' = w := by
  obtain ⟨d, pv, Fd, O⟩ := h
  obtain ⟨c0, c1, c2, c3, c4, cf⟩ := O.cells
  clear O c0 c1 c3 c4 cf
  go_enter Tryz.func33, Tryz.ntmps33
  go_wp2
  go_returns
  exact ⟨rfl, rfl⟩
set_option maxHeartbeats 4000000 in
theorem rDown_c (G : Nat → Prop) (r : Nat) (v : Vs) (w : World) (h : RV G r v w) :
    Calls Tryz.prog 35 #[.pointer (some ⟨r, 0, none⟩)] w fun e w' => e = .returned (.bool v.off) ∧ w' = w := by
  obtain ⟨d, pv, Fd, O⟩ := h
  obtain ⟨c0, c1, c2, c3, c4, cf⟩ := O.cells
  clear O c0 c1 c2 c4 cf
  go_enter Tryz.func35, Tryz.ntmps35
  go_wp2
  go_returns
  exact ⟨rfl, rfl⟩
set_option maxHeartbeats 4000000 in
theorem rNew_no (c : Int) (w : World) (hc : c < 0 ∨ 1073741824 < c) : Calls Tryz.prog 8 #[.int .i64 c] w fun e w' => e = .returned (.pointer none) ∧ w' = w := by
  have HN : Hid (Calls Tryz.prog 18 #[.int .i64 c] w fun e w' => e = .returned (.pointer none) ∧ w' = w) := refNew_no c w hc
  clear hc
  go_enter Tryz.func8, Tryz.ntmps8
  go_wp2_with (go_at_call 18; refine HN.out.mono ?_; rintro e w1 ⟨rfl, hb1⟩; subst w1)
  go_returns
  exact ⟨rfl, rfl⟩
set_option maxHeartbeats 4000000 in
theorem rNew_c (c : Nat) (w : World) (hc : c ≤ 1073741824) : Calls Tryz.prog 8 #[.int .i64 c] w fun e w' => ∃ r, e = .returned (.pointer (some ⟨r, 0, none⟩)) ∧ RV (fun k => w.heap.size ≤ k ∧ k < w'.heap.size) r (Vs.new c) w' ∧ Below w.heap.size w w' := by
  have HN : Hid (Calls Tryz.prog 18 #[.int .i64 (c : Int)] w fun e w' => e = .returned (.pointer (some ⟨w.heap.size + 1, 0, none⟩)) ∧ RefSt (fun k => w.heap.size ≤ k ∧ k < w'.heap.size) (w.heap.size + 1) (St.new c) w' ∧ Below w.heap.size w w') := refNew_c c w hc
  have HE : Hid (∀ d (w1 : World), RefSt (fun k => w.heap.size ≤ k ∧ k < w1.heap.size) d (St.new c) w1 → Below w.heap.size w w1 → ∀ W, W = w1.alloc (.cells #[.pointer (some ⟨d, 0, none⟩), .slice none 0 0, .int .i64 0, .bool false, .int .i64 0] 54) → RV (fun k => w.heap.size ≤ k ∧ k < W.heap.size) w1.heap.size (Vs.new c) W ∧ Below w.heap.size w W) := fun d w1 h1 h2 W hW => by
    have hs := h2.size
    have hb : Below w1.heap.size w1 W := by rw [hW]; exact (Below.refl _ w1).alloc (Nat.le_refl _) _
    have hsW : W.heap.size = w1.heap.size + 1 := by rw [hW]; simp
    refine ⟨⟨d, .slice none 0 0, _, refSt_same h1 (fun k _ hk => hb.block k hk), fun k hk => ⟨hk.1, by have := hk.2; omega⟩, fun hk => by have := hk.2; omega, ⟨hs, by omega⟩, (fun hne => absurd rfl hne), ?_, .inl ⟨rfl, _, _, rfl⟩, Nat.zero_le _, fun k hk => hk.2⟩, h2.trans (hb.mono hs)⟩
    rw [hW]; exact heap_alloc_new _ _
  clear hc
  go_enter Tryz.func8, Tryz.ntmps8
  go_wp2_with (go_at_call 18; refine HN.out.mono ?_; rintro e w1 ⟨rfl, hp1, hb1⟩)
  go_returns
  exact ⟨_, rfl, HE.out _ w1 hp1 hb1 _ rfl⟩
end Go.Proofs.YtofmiaaglbcebaaGreatDoor
