
-- The calls of the device that fails: Write.
import Derived.Test.YtjbphheojfclcaaGreatU6
namespace Go.Proofs.YtjbphheojfclcaaGreat
open Go.RowKit
set_option linter.unusedVariables false
variable {PS : (Nat → Prop) → Nat → St → World → Prop}
theorem short_fault {v : Vs} (h : v.met.1 ≠ 0) : v.short = if v.fault.kind = 2 then some v.fault.n else none := by
  unfold Vs.short Vs.fault
  unfold Vs.met at h
  by_cases ho : v.off = true
  · simp [ho, noFlt]
  · rw [if_neg ho, if_neg ho]
    rw [if_neg ho] at h
    cases hs : v.strikes with
    | none => rw [hs] at h; exact absurd rfl h
    | some f => rfl
set_option maxHeartbeats 4000000 in
theorem dWrite_c (C : PC PS) (G : Nat → Prop) (q : Nat) (v : Vs) (n : Int) (data : ByteArray) (w : World) (h : PV PS G q v w) (hw : Wf v.st) (hn : v.cnt ≤ 4194304) (hd : data.size ≤ 140737488355328) :
    Calls Tryz.prog 140 #[.pointer (some ⟨q, 0, none⟩), .int .i64 n, .string data] w fun e w' => e = .returned (.tuple #[.int .i64 (v.writeB n data).1.1, .int .i64 (v.writeB n data).1.2]) ∧ VDid PS G q (v.writeB n data).2 w w' := by
  have hs := met_st v
  have HRef : Hid (Calls Tryz.prog 142 #[.pointer (some ⟨q, 0, none⟩)] w fun e w' => e = .returned (.tuple #[.agg #[.int .i64 v.fault.at_, .int .i64 v.fault.kind, .int .i64 v.fault.n], .int .i64 v.met.1]) ∧ PV PS G q v.met.2 w' ∧ Kp G w w') := count_c C G q v w h hn
  have HV : Hid (∀ (x : ByteArray) p m Fd w1, x.size ≤ 140737488355328 → PVo PS G q v.met.2 w1 p m Fd → Kp G w w1 → Calls Tryz.prog 130 #[.agg #[.pointer (some ⟨p, 0, none⟩)], .int .i64 n, .string x] w1 fun e w' => e = .returned (.tuple #[.int .i64 (v.st.wrote n x).1, .int .i64 (v.st.wrote n x).2]) ∧ VDid PS G q (v.met.2.on (v.st.append n x).2) w w') := fun x p m Fd w1 hx O hk => by
    refine (vWrite_c C G Fd q p m v.met.2 n x w1 O (by rw [hs]; exact hw) hx).mono ?_
    rintro e w' ⟨rfl, h1⟩
    rw [hs] at h1 ⊢
    exact ⟨rfl, VDid.after ⟨p, m, Fd, O⟩ hk h1⟩
  have HAL : Hid (∀ w1 W p m Fd, PVo PS G q v.met.2 w1 p m Fd → Kp G w w1 → Below w1.heap.size w1 W → PVo PS G q v.met.2 W p m Fd ∧ Kp G w W) := fun w1 W p m Fd O hk hb => ⟨O.same C hb.size fun k _ hk => hb.block k hk, hk.kept hb⟩
  obtain ⟨fa, hfa⟩ : ∃ x, x = v.fault.at_ := ⟨_, rfl⟩
  obtain ⟨fk, hfk⟩ : ∃ x, x = v.fault.kind := ⟨_, rfl⟩
  obtain ⟨fn, hfn⟩ : ∃ x, x = v.fault.n := ⟨_, rfl⟩
  by_cases hm : v.met.1 = 0
  · have HE : Hid (v.writeB n data = (v.st.wrote n data, v.met.2.on (v.st.append n data).2)) := by
      show _ = _
      unfold Vs.writeB St.wrote; rw [if_pos hm]
      split <;> rfl
    rw [← hfa, ← hfk, ← hfn, hm] at HRef
    clear hfa hfk hfn h hw hn hm hs
    go_enter Tryz.func140, Tryz.ntmps140
    go_wp2_with (first
      | (go_at_call 142; refine HRef.out.mono ?_; rintro e w1 ⟨rfl, ⟨p, m, Fd, O1⟩, hk1⟩; have c0 := O1.cell0; have hql := O1.lt)
      | (go_at_call 130; refine (HV.out data p m Fd _ hd (HAL.out w1 _ p m Fd O1 hk1 (by go_grown)).1 (HAL.out w1 _ p m Fd O1 hk1 (by go_grown)).2).mono ?_; rintro e w2 ⟨rfl, hr⟩))
    go_returns
    rw [HE.out]
    exact ⟨rfl, hr⟩
  · have hsh := short_fault hm
    have b1 : ((v.met.1 : Int) == 0) = false := by simp; omega
    obtain ⟨E, hE⟩ : ∃ E, E = v.met.1 := ⟨_, rfl⟩
    by_cases hk2 : v.fault.kind = 2
    · rw [if_pos hk2] at hsh
      have HE : Hid (v.writeB n data = ((if (v.st.wrote n (part data fn)).2 ≠ 0 then (0, (v.st.wrote n (part data fn)).2) else ((part data fn).size, E)), v.met.2.on (v.st.append n (part data fn)).2)) := by
        show _ = _
        unfold Vs.writeB St.wrote; rw [if_neg hm, hsh, hfn, ← hE]
        by_cases h0 : (v.st.append n (part data v.fault.n)).1 = 0 <;> simp [h0]
      rw [← hfa, ← hfn, ← hE, hk2] at HRef
      rw [← hE] at b1
      clear hfa hfk hfn h hw hn hm hs hsh hk2 hE
      have hps : (part data fn).size ≤ 140737488355328 := by unfold part; simp; omega
      obtain ⟨P, hP⟩ : ∃ P, P = part data fn := ⟨_, rfl⟩
      have HP : Hid (P = part data fn) := hP
      rw [← hP] at HE hps
      obtain ⟨N, hN⟩ : ∃ N, N = (v.st.wrote n P).1 := ⟨_, rfl⟩
      obtain ⟨R, hR⟩ : ∃ R, R = (v.st.wrote n P).2 := ⟨_, rfl⟩
      have hNs : R = 0 → N = P.size := by
        rw [hN, hR]; unfold St.wrote
        by_cases h0 : (v.st.append n P).1 = 0 <;> simp [h0]
      have HVX : Hid (∀ (x : ByteArray) p m Fd w1, P = x → PVo PS G q v.met.2 w1 p m Fd → Kp G w w1 → Calls Tryz.prog 130 #[.agg #[.pointer (some ⟨p, 0, none⟩)], .int .i64 n, .string x] w1 fun e w' => e = .returned (.tuple #[.int .i64 N, .int .i64 R]) ∧ VDid PS G q (v.met.2.on (v.st.append n P).2) w w') := fun x p m Fd w1 hx O hk => by subst hx; rw [hN, hR]; exact HV.out P p m Fd w1 hps O hk
      rw [← hR] at HE
      clear hP hN hR HV hps
      have HT : Hid ((fn < 0 → P = ByteArray.empty) ∧ ((data.size : Int) < fn → P = data) ∧ (0 ≤ fn → fn ≤ data.size → P = data.extract 0 fn.toNat)) := by
        refine ⟨fun h => ?_, fun h => ?_, fun h h' => ?_⟩ <;> rw [HP.out] <;> unfold part
        · rw [show min (max fn 0).toNat data.size = 0 by omega]; simp
        · rw [show min (max fn 0).toNat data.size = data.size by omega]; simp
        · congr 1; omega
      have hR2 : R = 0 ∨ ((R : Int) == 0) = false := by
        rcases Nat.eq_zero_or_pos R with h | h
        · exact .inl h
        · exact .inr (by simp; omega)
      have three : fn < 0 ∨ (data.size : Int) < fn ∨ (0 ≤ fn ∧ fn ≤ data.size) := by omega
      rcases hR2 with rfl | b2
      · have hN := hNs rfl
        have HE2 : Hid (v.writeB n data = ((N, E), v.met.2.on (v.st.append n P).2)) := by show _ = _; rw [HE.out, hN]; rfl
        clear HE hNs hN HP
        rcases three with h1 | h1 | ⟨h1, h2⟩
        all_goals
          go_enter Tryz.func140, Tryz.ntmps140
          go_wp2_with (first
            | (go_at_call 142; refine HRef.out.mono ?_; rintro e w1 ⟨rfl, ⟨p, m, Fd, O1⟩, hk1⟩; have c0 := O1.cell0; have hql := O1.lt)
            | (go_at_call 130; refine (HVX.out _ p m Fd _ (by first | exact HT.out.1 h1 | exact HT.out.2.1 h1 | exact HT.out.2.2 h1 h2) (HAL.out w1 _ p m Fd O1 hk1 (by go_grown)).1 (HAL.out w1 _ p m Fd O1 hk1 (by go_grown)).2).mono ?_; rintro e w2 ⟨rfl, hr⟩))
          go_returns
          rw [HE2.out]
          exact ⟨rfl, hr⟩
      · have HE2 : Hid (v.writeB n data = ((0, R), v.met.2.on (v.st.append n P).2)) := by
          show _ = _
          rw [HE.out, if_pos (by intro h0; rw [h0] at b2; simp at b2)]
        clear HE hNs HP
        rcases three with h1 | h1 | ⟨h1, h2⟩
        all_goals
          go_enter Tryz.func140, Tryz.ntmps140
          go_wp2_with (first
            | (go_at_call 142; refine HRef.out.mono ?_; rintro e w1 ⟨rfl, ⟨p, m, Fd, O1⟩, hk1⟩; have c0 := O1.cell0; have hql := O1.lt)
            | (go_at_call 130; refine (HVX.out _ p m Fd _ (by first | exact HT.out.1 h1 | exact HT.out.2.1 h1 | exact HT.out.2.2 h1 h2) (HAL.out w1 _ p m Fd O1 hk1 (by go_grown)).1 (HAL.out w1 _ p m Fd O1 hk1 (by go_grown)).2).mono ?_; rintro e w2 ⟨rfl, hr⟩))
          go_returns
          rw [HE2.out]
          exact ⟨rfl, hr⟩
    · rw [if_neg hk2] at hsh
      have HE : Hid (v.writeB n data = ((0, E), v.met.2)) := by show _ = _; unfold Vs.writeB; rw [if_neg hm, hsh, hE]
      rw [← hfa, ← hfn, ← hE, ← hfk] at HRef
      rw [← hE] at b1
      rw [← hfk] at hk2
      have b2 : (fk == (2 : Int)) = false := by simpa using hk2
      clear hfa hfk hfn h hw hn hm hs hsh hk2 hE HV
      have HOf : Hid (∀ W p m Fd, PVo PS G q v.met.2 W p m Fd → Kp G w W → VDid PS G q v.met.2 w W) := fun W p m Fd h1 h2 => VDid.of ⟨p, m, Fd, h1⟩ h2
      go_enter Tryz.func140, Tryz.ntmps140
      go_wp2_with (go_at_call 142; refine HRef.out.mono ?_; rintro e w1 ⟨rfl, ⟨p, m, Fd, O1⟩, hk1⟩)
      go_returns
      rw [HE.out]
      exact ⟨rfl, HOf.out _ p m Fd (HAL.out w1 _ p m Fd O1 hk1 (by go_grown)).1 (HAL.out w1 _ p m Fd O1 hk1 (by go_grown)).2⟩
end Go.Proofs.YtjbphheojfclcaaGreat
