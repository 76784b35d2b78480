
-- The calls of the device that fails.
import Derived.Test.YtjbphheojfclcaaGreatU4
import Derived.Deep.RegionHeld3
import Derived.Deep.DrawnRows
namespace Go.Proofs.YtjbphheojfclcaaGreat
open Go.RowKit
set_option linter.unusedVariables false
variable {PS : (Nat → Prop) → Nat → St → World → Prop}
theorem PVo.cell0 {G Fd : Nat → Prop} {q p : Nat} {m : Option Nat} {v : Vs} {w : World} (O : PVo PS G q v w p m Fd) : w.cell? ⟨q, 0, none⟩ = some (.iface 119 (.agg #[.pointer (some ⟨p, 0, none⟩)])) := O.cells.1
theorem VDid.after {G : Nat → Prop} {q : Nat} {v v' : Vs} {w w1 w2 : World} (h : PV PS G q v w1) (hk : Kp G w w1) (hd : VDid PS G q v' w1 w2) : VDid PS G q v' w w2 := by
  have h1 := hk.size
  have h2 := hd.2.size
  refine ⟨hd.1.mono (fun i hi => ?_) (fun i hi => ?_), hk.trans hd.2⟩
  · rcases hi with hi | hi
    · exact .inl hi
    · exact .inr ⟨by omega, hi.2⟩
  · rcases hi with hi | hi
    · exact hd.1.low i (.inl hi)
    · exact hi.2
theorem met_0 {v : Vs} (h : v.met.1 = 0) (st : St) : v.met.2.on st = v.met.2.on st := rfl
set_option maxHeartbeats 4000000 in
theorem dRead_c (C : PC PS) (G : Nat → Prop) (q : Nat) (v : Vs) (name : ByteArray) (w : World) (h : PV PS G q v w) (hw : Wf v.st) (hn : v.cnt ≤ 4194304) :
    Calls Tryz.prog 134 #[.pointer (some ⟨q, 0, none⟩), .string name] w fun e w' => e = .returned (.tuple #[.string (v.read name).1.1, .int .i64 (v.read name).1.2]) ∧ VDid PS G q (v.read name).2 w w' := by
  have HRef : Hid (Calls Tryz.prog 141 #[.pointer (some ⟨q, 0, none⟩)] w fun e w' => e = .returned (.int .i64 v.met.1) ∧ PV PS G q v.met.2 w' ∧ Kp G w w') := refusal_c C G q v w h hn
  have hs := met_st v
  by_cases hm : v.met.1 = 0
  · have HE : Hid (v.read name = (v.st.readN name, v.met.2)) := by show _ = _; unfold Vs.read St.readN; rw [if_neg (by simp [hm])]; split <;> rfl
    have HV : Hid (∀ p m Fd w1, PVo PS G q v.met.2 w1 p m Fd → Kp G w w1 → Calls Tryz.prog 127 #[.agg #[.pointer (some ⟨p, 0, none⟩)], .string name] w1 fun e w' => e = .returned (.tuple #[.string (v.st.readN name).1, .int .i64 (v.st.readN name).2]) ∧ VDid PS G q (v.met.2) w w') := fun p m Fd w1 O hk => by
      refine (vRead_c C G Fd q p m v.met.2 name w1 O (by rw [hs]; exact hw)).mono ?_
      rintro e w' ⟨rfl, O2, k2⟩
      rw [hs]
      exact ⟨rfl, VDid.of ⟨p, m, Fd, O2⟩ (hk.trans k2)⟩
    rw [hm] at HRef
    clear h hw hn hm hs
    go_enter Tryz.func134, Tryz.ntmps134
    go_wp2_with (first
      | (go_at_call 141; refine HRef.out.mono ?_; rintro e w1 ⟨rfl, ⟨p, m, Fd, O1⟩, hk1⟩; have c0 := O1.cell0)
      | (go_at_call 127; refine (HV.out p m Fd _ O1 hk1).mono ?_; rintro e w2 ⟨rfl, hd⟩))
    go_returns
    rw [HE.out]
    exact ⟨rfl, hd⟩
  · have HE : Hid (v.read name = ((⟨#[]⟩, v.met.1), v.met.2)) := by show _ = _; unfold Vs.read; rw [if_pos hm]
    have HOf : Hid (∀ W, PV PS G q v.met.2 W → Kp G w W → VDid PS G q v.met.2 w W) := fun W h1 h2 => VDid.of h1 h2
    have b1 : ((v.met.1 : Int) == 0) = false := by simp; omega
    obtain ⟨E, hE⟩ : ∃ E, E = v.met.1 := ⟨_, rfl⟩
    rw [← hE] at HRef HE b1
    have b2 : ((E : Int) != 0) = true := by simp [bne, b1]
    clear hm hE h hn hw hs
    go_enter Tryz.func134, Tryz.ntmps134
    go_wp2_with (go_at_call 141; refine HRef.out.mono ?_; rintro e w1 ⟨rfl, hv1, hk1⟩)
    go_returns
    rw [HE.out]
    exact ⟨rfl, HOf.out _ hv1 hk1⟩
set_option maxHeartbeats 4000000 in
theorem dRename_c (C : PC PS) (G : Nat → Prop) (q : Nat) (v : Vs) (old to : ByteArray) (w : World) (h : PV PS G q v w) (hw : Wf v.st) (hn : v.cnt ≤ 4194304) :
    Calls Tryz.prog 136 #[.pointer (some ⟨q, 0, none⟩), .string old, .string to] w fun e w' => e = .returned (.int .i64 (v.rename old to).1) ∧ VDid PS G q (v.rename old to).2 w w' := by
  have HRef : Hid (Calls Tryz.prog 141 #[.pointer (some ⟨q, 0, none⟩)] w fun e w' => e = .returned (.int .i64 v.met.1) ∧ PV PS G q v.met.2 w' ∧ Kp G w w') := refusal_c C G q v w h hn
  have hs := met_st v
  by_cases hm : v.met.1 = 0
  · have HE : Hid (v.rename old to = ((v.st.rename old to).1, v.met.2.on (v.st.rename old to).2)) := by show _ = _; unfold Vs.rename; rw [if_neg (by simp [hm])]
    have HV : Hid (∀ p m Fd w1, PVo PS G q v.met.2 w1 p m Fd → Kp G w w1 → Calls Tryz.prog 51 #[.pointer (some ⟨p, 0, none⟩), .string old, .string to] w1 fun e w' => e = .returned (.int .i64 (v.st.rename old to).1) ∧ VDid PS G q (v.met.2.on (v.st.rename old to).2) w w') := fun p m Fd w1 O hk => by
      refine (C.rename Fd p v.met.2.st old to w1 O.disk (by rw [hs]; exact hw)).mono ?_
      rintro e w' ⟨rfl, h1⟩
      rw [hs] at h1 ⊢
      exact ⟨rfl, VDid.after ⟨p, m, Fd, O⟩ hk (O.changed0 C h1)⟩
    rw [hm] at HRef
    clear h hw hn hm hs
    go_enter Tryz.func136, Tryz.ntmps136
    go_wp2_with (first
      | (go_at_call 141; refine HRef.out.mono ?_; rintro e w1 ⟨rfl, ⟨p, m, Fd, O1⟩, hk1⟩; have c0 := O1.cell0)
      | (go_at_call 51; refine (HV.out p m Fd _ O1 hk1).mono ?_; rintro e w2 ⟨rfl, hd⟩))
    go_returns
    rw [HE.out]
    exact ⟨rfl, hd⟩
  · have HE : Hid (v.rename old to = (v.met.1, v.met.2)) := by show _ = _; unfold Vs.rename; rw [if_pos hm]
    have HOf : Hid (∀ W, PV PS G q v.met.2 W → Kp G w W → VDid PS G q v.met.2 w W) := fun W h1 h2 => VDid.of h1 h2
    have b1 : ((v.met.1 : Int) == 0) = false := by simp; omega
    obtain ⟨E, hE⟩ : ∃ E, E = v.met.1 := ⟨_, rfl⟩
    rw [← hE] at HRef HE b1
    have b2 : ((E : Int) != 0) = true := by simp [bne, b1]
    clear hm hE h hn hw hs
    go_enter Tryz.func136, Tryz.ntmps136
    go_wp2_with (go_at_call 141; refine HRef.out.mono ?_; rintro e w1 ⟨rfl, hv1, hk1⟩)
    go_returns
    rw [HE.out]
    exact ⟨rfl, HOf.out _ hv1 hk1⟩
set_option maxHeartbeats 4000000 in
theorem dRemove_c (C : PC PS) (G : Nat → Prop) (q : Nat) (v : Vs) (name : ByteArray) (w : World) (h : PV PS G q v w) (hw : Wf v.st) (hn : v.cnt ≤ 4194304) :
    Calls Tryz.prog 135 #[.pointer (some ⟨q, 0, none⟩), .string name] w fun e w' => e = .returned (.int .i64 (v.remove name).1) ∧ VDid PS G q (v.remove name).2 w w' := by
  have HRef : Hid (Calls Tryz.prog 141 #[.pointer (some ⟨q, 0, none⟩)] w fun e w' => e = .returned (.int .i64 v.met.1) ∧ PV PS G q v.met.2 w' ∧ Kp G w w') := refusal_c C G q v w h hn
  have hs := met_st v
  by_cases hm : v.met.1 = 0
  · have HE : Hid (v.remove name = ((v.st.remove name).1, v.met.2.on (v.st.remove name).2)) := by show _ = _; unfold Vs.remove; rw [if_neg (by simp [hm])]
    have HV : Hid (∀ p m Fd w1, PVo PS G q v.met.2 w1 p m Fd → Kp G w w1 → Calls Tryz.prog 52 #[.pointer (some ⟨p, 0, none⟩), .string name] w1 fun e w' => e = .returned (.int .i64 (v.st.remove name).1) ∧ VDid PS G q (v.met.2.on (v.st.remove name).2) w w') := fun p m Fd w1 O hk => by
      refine (C.remove Fd p v.met.2.st name w1 O.disk (by rw [hs]; exact hw)).mono ?_
      rintro e w' ⟨rfl, h1⟩
      rw [hs] at h1 ⊢
      exact ⟨rfl, VDid.after ⟨p, m, Fd, O⟩ hk (O.changed0 C h1)⟩
    rw [hm] at HRef
    clear h hw hn hm hs
    go_enter Tryz.func135, Tryz.ntmps135
    go_wp2_with (first
      | (go_at_call 141; refine HRef.out.mono ?_; rintro e w1 ⟨rfl, ⟨p, m, Fd, O1⟩, hk1⟩; have c0 := O1.cell0)
      | (go_at_call 52; refine (HV.out p m Fd _ O1 hk1).mono ?_; rintro e w2 ⟨rfl, hd⟩))
    go_returns
    rw [HE.out]
    exact ⟨rfl, hd⟩
  · have HE : Hid (v.remove name = (v.met.1, v.met.2)) := by show _ = _; unfold Vs.remove; rw [if_pos hm]
    have HOf : Hid (∀ W, PV PS G q v.met.2 W → Kp G w W → VDid PS G q v.met.2 w W) := fun W h1 h2 => VDid.of h1 h2
    have b1 : ((v.met.1 : Int) == 0) = false := by simp; omega
    obtain ⟨E, hE⟩ : ∃ E, E = v.met.1 := ⟨_, rfl⟩
    rw [← hE] at HRef HE b1
    have b2 : ((E : Int) != 0) = true := by simp [bne, b1]
    clear hm hE h hn hw hs
    go_enter Tryz.func135, Tryz.ntmps135
    go_wp2_with (go_at_call 141; refine HRef.out.mono ?_; rintro e w1 ⟨rfl, hv1, hk1⟩)
    go_returns
    rw [HE.out]
    exact ⟨rfl, HOf.out _ hv1 hk1⟩
set_option maxHeartbeats 4000000 in
theorem dSync_c (C : PC PS) (G : Nat → Prop) (q : Nat) (v : Vs) (n : Int) (w : World) (h : PV PS G q v w) (hw : Wf v.st) (hn : v.cnt ≤ 4194304) :
    Calls Tryz.prog 138 #[.pointer (some ⟨q, 0, none⟩), .int .i64 n] w fun e w' => e = .returned (.int .i64 (v.syncB n).1) ∧ VDid PS G q (v.syncB n).2 w w' := by
  have HRef : Hid (Calls Tryz.prog 141 #[.pointer (some ⟨q, 0, none⟩)] w fun e w' => e = .returned (.int .i64 v.met.1) ∧ PV PS G q v.met.2 w' ∧ Kp G w w') := refusal_c C G q v w h hn
  have hs := met_st v
  by_cases hm : v.met.1 = 0
  · have HE : Hid (v.syncB n = ((v.st.sync n).1, v.met.2.on (v.st.sync n).2)) := by show _ = _; unfold Vs.syncB; rw [if_neg (by simp [hm])]
    have HV : Hid (∀ p m Fd w1, PVo PS G q v.met.2 w1 p m Fd → Kp G w w1 → Calls Tryz.prog 55 #[.pointer (some ⟨p, 0, none⟩), .int .i64 n] w1 fun e w' => e = .returned (.int .i64 (v.st.sync n).1) ∧ VDid PS G q (v.met.2.on (v.st.sync n).2) w w') := fun p m Fd w1 O hk => by
      refine (C.sync Fd p v.met.2.st n w1 O.disk (by rw [hs]; exact hw)).mono ?_
      rintro e w' ⟨rfl, h1⟩
      rw [hs] at h1 ⊢
      exact ⟨rfl, VDid.after ⟨p, m, Fd, O⟩ hk (O.changed0 C h1)⟩
    rw [hm] at HRef
    clear h hw hn hm hs
    go_enter Tryz.func138, Tryz.ntmps138
    go_wp2_with (first
      | (go_at_call 141; refine HRef.out.mono ?_; rintro e w1 ⟨rfl, ⟨p, m, Fd, O1⟩, hk1⟩; have c0 := O1.cell0)
      | (go_at_call 55; refine (HV.out p m Fd _ O1 hk1).mono ?_; rintro e w2 ⟨rfl, hd⟩))
    go_returns
    rw [HE.out]
    exact ⟨rfl, hd⟩
  · have HE : Hid (v.syncB n = (v.met.1, v.met.2)) := by show _ = _; unfold Vs.syncB; rw [if_pos hm]
    have HOf : Hid (∀ W, PV PS G q v.met.2 W → Kp G w W → VDid PS G q v.met.2 w W) := fun W h1 h2 => VDid.of h1 h2
    have b1 : ((v.met.1 : Int) == 0) = false := by simp; omega
    obtain ⟨E, hE⟩ : ∃ E, E = v.met.1 := ⟨_, rfl⟩
    rw [← hE] at HRef HE b1
    have b2 : ((E : Int) != 0) = true := by simp [bne, b1]
    clear hm hE h hn hw hs
    go_enter Tryz.func138, Tryz.ntmps138
    go_wp2_with (go_at_call 141; refine HRef.out.mono ?_; rintro e w1 ⟨rfl, hv1, hk1⟩)
    go_returns
    rw [HE.out]
    exact ⟨rfl, HOf.out _ hv1 hk1⟩
set_option maxHeartbeats 4000000 in
theorem dSyncDir_c (C : PC PS) (G : Nat → Prop) (q : Nat) (v : Vs)  (w : World) (h : PV PS G q v w) (hw : Wf v.st) (hn : v.cnt ≤ 4194304) :
    Calls Tryz.prog 139 #[.pointer (some ⟨q, 0, none⟩)] w fun e w' => e = .returned (.int .i64 v.syncDir.1) ∧ VDid PS G q (v.syncDir).2 w w' := by
  have HRef : Hid (Calls Tryz.prog 141 #[.pointer (some ⟨q, 0, none⟩)] w fun e w' => e = .returned (.int .i64 v.met.1) ∧ PV PS G q v.met.2 w' ∧ Kp G w w') := refusal_c C G q v w h hn
  have hs := met_st v
  by_cases hm : v.met.1 = 0
  · have HE : Hid (v.syncDir = (0, v.met.2.on v.st.syncDir)) := by show _ = _; unfold Vs.syncDir; rw [if_neg (by simp [hm])]
    have HV : Hid (∀ p m Fd w1, PVo PS G q v.met.2 w1 p m Fd → Kp G w w1 → Calls Tryz.prog 129 #[.agg #[.pointer (some ⟨p, 0, none⟩)]] w1 fun e w' => e = .returned (.int .i64 0) ∧ VDid PS G q (v.met.2.on v.st.syncDir) w w') := fun p m Fd w1 O hk => by
      refine (vSyncDir_c C G Fd q p m v.met.2 w1 O (by rw [hs]; exact hw)).mono ?_
      rintro e w' ⟨rfl, h1⟩
      rw [hs] at h1
      exact ⟨rfl, VDid.after ⟨p, m, Fd, O⟩ hk h1⟩
    rw [hm] at HRef
    clear h hw hn hm hs
    go_enter Tryz.func139, Tryz.ntmps139
    go_wp2_with (first
      | (go_at_call 141; refine HRef.out.mono ?_; rintro e w1 ⟨rfl, ⟨p, m, Fd, O1⟩, hk1⟩; have c0 := O1.cell0)
      | (go_at_call 129; refine (HV.out p m Fd _ O1 hk1).mono ?_; rintro e w2 ⟨rfl, hd⟩))
    go_returns
    rw [HE.out]
    exact ⟨rfl, hd⟩
  · have HE : Hid (v.syncDir = (v.met.1, v.met.2)) := by show _ = _; unfold Vs.syncDir; rw [if_pos hm]
    have HOf : Hid (∀ W, PV PS G q v.met.2 W → Kp G w W → VDid PS G q v.met.2 w W) := fun W h1 h2 => VDid.of h1 h2
    have b1 : ((v.met.1 : Int) == 0) = false := by simp; omega
    obtain ⟨E, hE⟩ : ∃ E, E = v.met.1 := ⟨_, rfl⟩
    rw [← hE] at HRef HE b1
    have b2 : ((E : Int) != 0) = true := by simp [bne, b1]
    clear hm hE h hn hw hs
    go_enter Tryz.func139, Tryz.ntmps139
    go_wp2_with (go_at_call 141; refine HRef.out.mono ?_; rintro e w1 ⟨rfl, hv1, hk1⟩)
    go_returns
    rw [HE.out]
    exact ⟨rfl, HOf.out _ hv1 hk1⟩
end Go.Proofs.YtjbphheojfclcaaGreat
