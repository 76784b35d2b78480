import Derived.Test.YtofmiaaglbcebaaGreatDoorRAz

-- The document's written.
namespace Go.Proofs.YtofmiaaglbcebaaGreatDoor
open Go.RowKit
set_option linter.unusedVariables false
set_option maxRecDepth 100000
set_option maxHeartbeats 8000000 in
theorem rwritten_c (G : Nat → Prop) (r : Nat) (v : Vs) (data : ByteArray) (m0 m1 m2 m3 : Int) (w : World) (kk : Nat) (h : RV G r v w) (hv : Vf v kk) (hk : kk + nP data + 3 < 2097151) (hd : data.size ≤ 140737488355328) :
    Calls Tryz.prog 52 #[.pointer (some ⟨r, 0, none⟩), .string data, .agg #[.int .i64 m0, .int .i64 m1, .int .i64 m2, .int .i64 m3]] w fun e w' => ∃ G' a, e = .returned (.tuple #[.int .i64 ((v.written data m0 m1 m2 m3).1.1 : Int), .int .i64 (a : Int)]) ∧ ((v.written data m0 m1 m2 m3).1.1 ≠ 0 → a = ((v.written data m0 m1 m2 m3).1.2 : Int)) ∧ Rb G r (v.written data m0 m1 m2 m3).2 w G' w' := by
  obtain ⟨X, hX⟩ : ∃ X, X = Obj.cells #[.int .i64 m0, .int .i64 m1, .int .i64 m2, .int .i64 m3] 30 := ⟨_, rfl⟩
  have hbA : Below w.heap.size w (w.alloc X) := (Below.refl _ w).alloc (Nat.le_refl _) X
  have hR0 : Rb G r v w G (w.alloc X) := (Rb.refl h).below hbA
  have HXE := hidK hX
  have HKK : Hid (kk + nP data + 3 < 2097151 ∧ data.size ≤ 140737488355328) := ⟨hk, hd⟩
  have hcn := hv.cnt
  have HCR := hidK (rCreate_c G r v tmpB m0 m1 m2 m3 (w.alloc X) hR0.vol hv.wf (by omega))
  have HW : Hid (∀ (b : Nat) (x : Hd) (v' : Vs) (G' : Nat → Prop) (W : World) (d : ByteArray), Rb G r v' w G' W → RFileAt W b r x → ¬ G' b → Wf v'.st → v'.cnt ≤ 4194304 → d.size ≤ 140737488355328 → Calls Tryz.prog 44 #[.pointer (some ⟨b, 0, none⟩), .string d] W fun e w' => e = .returned (.tuple #[.int .i64 (v'.write x d).1.1, .int .i64 (v'.write x d).1.2]) ∧ ∃ G2, Rb G r (v'.write x d).2 w G2 w' ∧ RFileAt w' b r x ∧ ¬ G2 b) := fun b x v' G' W d hb hf hG h1 h2 h3 => by
    have hlt : b < W.heap.size := (Array.getElem?_eq_some_iff.1 hf).1
    refine (rWrite_c G' r v' b x d W hb.vol hf hG h1 h2 h3).mono ?_
    rintro e w' ⟨rfl, hd⟩
    exact ⟨rfl, _, hb.did hd, hf.kept hd.2 hG, fun hk => by rcases hk with hk | hk; exact hG hk; omega⟩
  have HS : Hid (∀ (b : Nat) (x : Hd) (v' : Vs) (G' : Nat → Prop) (W : World), Rb G r v' w G' W → RFileAt W b r x → ¬ G' b → Wf v'.st → v'.cnt ≤ 4194304 → Calls Tryz.prog 45 #[.pointer (some ⟨b, 0, none⟩)] W fun e w' => e = .returned (.int .i64 (v'.sync x).1) ∧ ∃ G2, Rb G r (v'.sync x).2 w G2 w') := fun b x v' G' W hb hf hG h1 h2 => by
    refine (rSync_c G' r v' b x W hb.vol hf hG h1 h2).mono ?_
    rintro e w' ⟨rfl, hd⟩
    exact ⟨rfl, _, hb.did hd⟩
  obtain ⟨⟨⟨bd, ce⟩, v1⟩, hcr⟩ : ∃ c, c = v.create tmpB m0 m1 m2 m3 := ⟨_, rfl⟩
  have hv1 : Vf v1 (kk + 1) := by
    have := hv.create (by omega) tmpB m0 m1 m2 m3
    rw [← hcr] at this; exact this
  have HWE : Hid (v.written data m0 m1 m2 m3 = if ce ≠ 0 then ((ce, 3), v1) else Vs.fillN ⟨tmpB, bd, v.round, false⟩ data (nP data) 0 v1) := by
    show _ = _
    unfold Vs.written; rw [← hcr]
  rw [← hcr] at HCR
  simp only at HCR
  have HR0 := hidK hR0
  clear hcr h hv hk hd hbA hR0 hX hcn
  by_cases hc : ce = 0
  case neg =>
    have HC2 : Hid (Calls Tryz.prog 43 #[.pointer (some ⟨r, 0, none⟩), .string ⟨#[97, 114, 46, 116, 109, 112, 126]⟩, .agg #[.int .i64 m0, .int .i64 m1, .int .i64 m2, .int .i64 m3]] (w.alloc X) fun e w' => e = .returned (.tuple #[.pointer none, .int .i64 (ce : Int)]) ∧ ∃ G', Rb G r v1 w G' w') := by
      refine HCR.out.mono ?_
      rintro e w' ⟨hv, rfl, hkp, hcase⟩
      rcases hcase with ⟨_, rfl, h3⟩ | ⟨h1, _⟩
      · exact ⟨rfl, _, HR0.out.did ⟨h3, hkp⟩⟩
      · exact absurd h1 hc
    have HE : Hid (v.written data m0 m1 m2 m3 = ((ce, 3), v1)) := by show _ = _; rw [HWE.out, if_pos hc]
    have b0 : ((ce : Int) == 0) = false := by simp; omega
    have b0' : ¬ ((ce : Int) = 0) := by omega
    rw [HE.out]
    clear HCR HW HS HWE hc HE HR0
    go_enter Tryz.func52, Tryz.ntmps52
    go_wp2_with (go_at_call 43; rw [← HXE.out]; refine HC2.out.mono ?_; rintro e w1 ⟨rfl, G', h1⟩)
    go_returns
    exact ⟨G', 3, rfl, fun _ => rfl, h1⟩
  case pos =>
    subst hc
    have HC2 : Hid (Calls Tryz.prog 43 #[.pointer (some ⟨r, 0, none⟩), .string ⟨#[97, 114, 46, 116, 109, 112, 126]⟩, .agg #[.int .i64 m0, .int .i64 m1, .int .i64 m2, .int .i64 m3]] (w.alloc X) fun e w' => ∃ b G', e = .returned (.tuple #[.pointer (some ⟨b, 0, none⟩), .int .i64 0]) ∧ Rb G r v1 w G' w' ∧ RFileAt w' b r ⟨tmpB, bd, v.round, false⟩ ∧ ¬ G' b) := by
      refine HCR.out.mono ?_
      rintro e w' ⟨hv, rfl, hkp, hcase⟩
      rcases hcase with ⟨h1, _⟩ | ⟨_, b, G', rfl, h2, h3, h4, h5, h6, h7⟩
      · exact absurd rfl h1
      · exact ⟨b, G', rfl, HR0.out.turn h3 hkp (fun k hk => by rcases h4 k hk with h' | h'; exact .inl h'; exact .inr h'.1) h5, h2, h6⟩
    obtain ⟨x, hx⟩ : ∃ x : Hd, x = ⟨tmpB, bd, v.round, false⟩ := ⟨_, rfl⟩
    have HE : Hid (v.written data m0 m1 m2 m3 = Vs.fillN x data (nP data) 0 v1) := by show _ = _; rw [HWE.out, if_neg (by simp), hx]
    rw [← hx] at HC2
    rw [HE.out]
    clear HCR HWE hx HE HR0
    have HV1 := hidK hv1
    clear hv1
    go_enter Tryz.func52, Tryz.ntmps52
    go_wp2_with (go_at_call 43; rw [← HXE.out]; refine HC2.out.mono ?_; rintro e w1 ⟨b, G1, rfl, hb1, hf1, hg1⟩)
    have HP0 : Hid (Rb G r v1 w G1 w1 ∧ RFileAt w1 b r x ∧ ¬ G1 b) := ⟨hb1, hf1, hg1⟩
    clear hb1 hf1 hg1 HC2
    go_loopw [10] (fun i wr => ∃ (k : Nat) (v' : Vs) (G' : Nat → Prop), i = .int .i64 ((k * 512 : Nat) : Int) ∧ k ≤ nP data ∧ Vs.fillN x data (nP data) 0 v1 = Vs.fillN x data (nP data - k) k v' ∧ Vf v' (kk + 1 + k) ∧ Rb G r v' w G' wr ∧ RFileAt wr b r x ∧ ¬ G' b) (fun i _ => nP data - (intOf i).toNat / 512)
    case atStart => exact ⟨0, v1, G1, rfl, Nat.zero_le _, rfl, HV1.out, HP0.out⟩
    case round =>
      obtain ⟨k, v', G', rfl, hkn, hfe, hvf, hb, hf, hg⟩ := hrel
      have HFE := hidK hfe
      obtain ⟨hk1, hd1⟩ := HKK.out
      by_cases hk : k < nP data
      · have hlt := nP_lt hk
        obtain ⟨n, hn⟩ : ∃ n, nP data - k = n + 1 := ⟨nP data - k - 1, by omega⟩
        have hn2 : n = nP data - (k + 1) := by omega
        rw [hn] at HFE
        have hps : (pieceOf data k).size ≤ data.size := by unfold pieceOf; rw [ByteArray.size_extract]; omega
        have hwr := HW.out b x v' G' wr (pieceOf data k) hb hf hg hvf.wf (by have := hvf.cnt; omega) (by omega)
        obtain ⟨P, hP⟩ : ∃ P, P = pieceOf data k := ⟨_, rfl⟩
        obtain ⟨I, hI⟩ : ∃ I, I = k * 512 := ⟨_, rfl⟩
        have hPe : P = data.extract I (min (I + 512) data.size) := by rw [hP, hI]; rfl
        rw [← hP] at hwr
        rw [← hI] at hlt ⊢
        have HP := hidK hP
        have HI := hidK hI
        have HVF : Hid (Vf (v'.write x P).2 (kk + 1 + (k + 1))) := (hvf.write x P).mono (by omega)
        have HK2 : Hid (k < nP data ∧ n = nP data - (k + 1)) := ⟨hk, hn2⟩
        have kI : (I : Int) < (data.size : Int) := by omega
        have k0 : (0 : Int) ≤ (I : Int) := by omega
        have kB : (I : Int) + 512 ≤ 140737488356000 := by omega
        have kB0 : (0 : Int) ≤ (I : Int) + 512 := by omega
        clear hP hI hps hvf hb hf hg hkn hk hk1 hn hfe hn2 hlt
        by_cases he : (v'.write x P).1.2 = 0
        · have HC : Hid (Calls Tryz.prog 44 #[.pointer (some ⟨b, 0, none⟩), .string P] wr fun e w' => e = .returned (.tuple #[.int .i64 (v'.write x P).1.1, .int .i64 0]) ∧ ∃ G2, Rb G r (v'.write x P).2 w G2 w' ∧ RFileAt w' b r x ∧ ¬ G2 b) := by
            rw [he] at hwr; exact hwr
          have HE : Hid (Vs.fillN x data (n + 1) k v' = Vs.fillN x data n (k + 1) (v'.write x P).2) := by
            show _ = _
            rw [Vs.fillN, ← HP.out, if_neg (by simp [he])]
          clear hwr he
          by_cases hov : (data.size : Int) < (I : Int) + 512
          · have hpA : data.extract I data.size = P := by rw [hPe]; congr 1; omega
            have hsl : ∀ W, (Instr.slice 9 (.string data) (some (.int .i64 (I : Int))) (some (.int .i64 (data.size : Int))) none).run Tryz.prog W = .ok (.string P) W := fun W => by
              rw [run_slice_string W 9 data .i64 .i64 (I : Int) (data.size : Int) Tryz.underlying9 (by omega) (by omega) (by omega), Int.toNat_natCast, Int.toNat_natCast, hpA]
            clear hPe hpA
            go_wp2_with (go_at_call 44; refine HC.out.mono ?_; rintro e w2 ⟨rfl, G2, hb2, hf2, hg2⟩)
            refine ⟨⟨k + 1, _, G2, by rw [HI.out]; go_num, HK2.out.1, ?_, HVF.out, hb2, hf2, hg2⟩, ?_⟩
            · rw [HFE.out, HE.out, HK2.out.2]
            · have := HK2.out.1; have := HI.out; simp [intOf]; omega
          · have hpA : data.extract I (I + 512) = P := by rw [hPe]; congr 1; omega
            have hsl : ∀ W, (Instr.slice 9 (.string data) (some (.int .i64 (I : Int))) (some (.int .i64 ((I : Int) + 512))) none).run Tryz.prog W = .ok (.string P) W := fun W => by
              rw [run_slice_string W 9 data .i64 .i64 (I : Int) ((I : Int) + 512) Tryz.underlying9 (by omega) (by omega) (by omega), Int.toNat_natCast, show ((I : Int) + 512).toNat = I + 512 by omega, hpA]
            clear hPe hpA
            go_wp2_with (go_at_call 44; refine HC.out.mono ?_; rintro e w2 ⟨rfl, G2, hb2, hf2, hg2⟩)
            refine ⟨⟨k + 1, _, G2, by rw [HI.out]; go_num, HK2.out.1, ?_, HVF.out, hb2, hf2, hg2⟩, ?_⟩
            · rw [HFE.out, HE.out, HK2.out.2]
            · have := HK2.out.1; have := HI.out; simp [intOf]; omega
        · obtain ⟨we, hwe⟩ : ∃ we, we = (v'.write x P).1.2 := ⟨_, rfl⟩
          rw [← hwe] at hwr he
          have HC := hidK hwr
          have HE : Hid (Vs.fillN x data (n + 1) k v' = ((we, 4), (v'.write x P).2)) := by
            show _ = _
            rw [Vs.fillN, ← HP.out, if_pos (by rw [← hwe]; exact he), hwe]
          have b0 : ((we : Int) == 0) = false := by simp; omega
          have b0' : ¬ ((we : Int) = 0) := by omega
          clear hwr he hwe
          by_cases hov : (data.size : Int) < (I : Int) + 512
          · have hpA : data.extract I data.size = P := by rw [hPe]; congr 1; omega
            have hsl : ∀ W, (Instr.slice 9 (.string data) (some (.int .i64 (I : Int))) (some (.int .i64 (data.size : Int))) none).run Tryz.prog W = .ok (.string P) W := fun W => by
              rw [run_slice_string W 9 data .i64 .i64 (I : Int) (data.size : Int) Tryz.underlying9 (by omega) (by omega) (by omega), Int.toNat_natCast, Int.toNat_natCast, hpA]
            clear hPe hpA
            go_upto_region 11 with (go_at_call 44; refine HC.out.mono ?_; rintro e w2 ⟨rfl, G2, hb2, hf2, hg2⟩)
            clear hsl HC hov kI k0 kB kB0
            go_wp2
            have HFF := hidK (HFE.out.trans HE.out)
            clear HFE HE
            go_returns
            rw [HFF.out]
            exact ⟨G2, 4, rfl, fun _ => rfl, hb2⟩
          · have hpA : data.extract I (I + 512) = P := by rw [hPe]; congr 1; omega
            have hsl : ∀ W, (Instr.slice 9 (.string data) (some (.int .i64 (I : Int))) (some (.int .i64 ((I : Int) + 512))) none).run Tryz.prog W = .ok (.string P) W := fun W => by
              rw [run_slice_string W 9 data .i64 .i64 (I : Int) ((I : Int) + 512) Tryz.underlying9 (by omega) (by omega) (by omega), Int.toNat_natCast, show ((I : Int) + 512).toNat = I + 512 by omega, hpA]
            clear hPe hpA
            go_upto_region 11 with (go_at_call 44; refine HC.out.mono ?_; rintro e w2 ⟨rfl, G2, hb2, hf2, hg2⟩)
            clear hsl HC hov kI k0 kB kB0
            go_wp2
            have HFF := hidK (HFE.out.trans HE.out)
            clear HFE HE
            go_returns
            rw [HFF.out]
            exact ⟨G2, 4, rfl, fun _ => rfl, hb2⟩
      · have hkk : k = nP data := by omega
        have hsz : data.size ≤ k * 512 := by rw [hkk]; unfold nP; omega
        have hsy := HS.out b x v' G' wr hb hf hg hvf.wf (by have := hvf.cnt; omega)
        obtain ⟨se, hse⟩ : ∃ se, se = (v'.sync x).1 := ⟨_, rfl⟩
        rw [← hse] at hsy
        have HC := hidK hsy
        have HE : Hid (Vs.fillN x data (nP data) 0 v1 = ((se, 5), (v'.sync x).2)) := by
          show _ = _
          rw [HFE.out, hkk, Nat.sub_self, hse]; rfl
        obtain ⟨I, hI⟩ : ∃ I, I = k * 512 := ⟨_, rfl⟩
        rw [← hI] at hsz ⊢
        have kI : ¬ ((I : Int) < (data.size : Int)) := by omega
        clear hsy hsz hkk hk hk1 hb hf hg hvf hfe hkn hI hse
        by_cases he : se = 0
        · subst he
          go_wp2_with (go_at_call 45; refine HC.out.mono ?_; rintro e w2 ⟨rfl, G2, hb2⟩)
          go_returns
          rw [HE.out]
          exact ⟨G2, 0, rfl, fun h => absurd rfl h, hb2⟩
        · have b0 : ((se : Int) == 0) = false := by simp; omega
          have b0' : ¬ ((se : Int) = 0) := by omega
          go_wp2_with (go_at_call 45; refine HC.out.mono ?_; rintro e w2 ⟨rfl, G2, hb2⟩)
          go_returns
          rw [HE.out]
          exact ⟨G2, 5, rfl, fun _ => rfl, hb2⟩
end Go.Proofs.YtofmiaaglbcebaaGreatDoor

-- The document's Told.
namespace Go.Proofs.YtofmiaaglbcebaaGreatDoor
open Go.RowKit
set_option linter.unusedVariables false
set_option maxRecDepth 100000
set_option maxHeartbeats 8000000 in
theorem rtold_c (G : Nat → Prop) (r : Nat) (v : Vs) (nm data : ByteArray) (m0 m1 m2 m3 : Int) (w : World) (kk : Nat) (h : RV G r v w) (hv : Vf v kk) (hk : kk + nP data + 8 < 2097151) (hd : data.size ≤ 140737488355328) (hnm : nm.size ≤ 140737488355328) :
    Calls Tryz.prog 23 #[.pointer (some ⟨r, 0, none⟩), .string nm, .string data, .agg #[.int .i64 m0, .int .i64 m1, .int .i64 m2, .int .i64 m3]] w fun e w' => ∃ G', e = .returned (.tuple #[.int .i64 ((v.replace nm data m0 m1 m2 m3).1.1 : Int), .int .i64 ((v.replace nm data m0 m1 m2 m3).1.2 : Int)]) ∧ Rb G r (v.replace nm data m0 m1 m2 m3).2 w G' w' := by
  obtain ⟨X, hX⟩ : ∃ X, X = Obj.cells #[.int .i64 m0, .int .i64 m1, .int .i64 m2, .int .i64 m3] 30 := ⟨_, rfl⟩
  have hbA : Below w.heap.size w (w.alloc X) := (Below.refl _ w).alloc (Nat.le_refl _) X
  have hR0 : Rb G r v w G (w.alloc X) := (Rb.refl h).below hbA
  have hnG : ¬ G w.heap.size := fun hg => by have := h.low _ hg; omega
  have HXE := hidK hX
  have hcn := hv.cnt
  have HFN : Hid (∀ W, Calls Tryz.prog 51 #[.string nm] W fun e w' => e = .returned (.bool (okName nm)) ∧ w' = W) := fun W => fileName_c nm W
  by_cases h1 : nm = tmpB
  · have hr : v.replace nm data m0 m1 m2 m3 = ((161, 1), v) := by unfold Vs.replace; rw [if_pos h1]
    rw [hr]
    have HR0 := hidK hR0
    have h1' : nm = ⟨#[97, 114, 46, 116, 109, 112, 126]⟩ := h1
    subst h1'
    clear hr h hv hk hd hbA hR0 hX hcn h1 HFN hnG hnm
    go_enter Tryz.func23, Tryz.ntmps23
    go_wp2
    go_returns
    exact ⟨G, rfl, by rw [← HXE.out]; exact HR0.out⟩
  · have htl : tmpB.toList = [97, 114, 46, 116, 109, 112, 126] := by rw [ByteArray.toList_eq]; rfl
    have bq : (nm.toList == [97, 114, 46, 116, 109, 112, 126]) = false := by rw [← htl, beq_toList]; exact decide_eq_false h1
    have bq2 : ¬ nm.toList = [97, 114, 46, 116, 109, 112, 126] := by simpa using bq
    by_cases h2 : okName nm = false
    · have hr : v.replace nm data m0 m1 m2 m3 = ((32, 1), v) := by unfold Vs.replace; rw [if_neg h1, if_pos h2]
      rw [hr]
      have HR0 := hidK hR0
      rw [h2] at HFN
      clear hr h hv hk hd hbA hR0 hX hcn h1 htl h2 hnG
      go_enter Tryz.func23, Tryz.ntmps23
      go_wp2_with (go_at_call 51; refine (HFN.out _).mono ?_; rintro e w1 ⟨rfl, hw1⟩; subst w1)
      go_returns
      exact ⟨G, rfl, by rw [← HXE.out]; exact HR0.out⟩
    · have h2' : okName nm = true := by simpa using h2
      rw [h2'] at HFN
      obtain ⟨⟨e1, v1⟩, hs1⟩ : ∃ s, s = v.syncDir := ⟨_, rfl⟩
      have hv1 : Vf v1 (kk + 1) := by have := hv.syncDir; rw [← hs1] at this; exact this
      have HS1 : Hid (Calls Tryz.prog 46 #[.pointer (some ⟨r, 0, none⟩)] (w.alloc X) fun e w' => e = .returned (.int .i64 (e1 : Int)) ∧ ∃ G', Rb G r v1 w G' w') := by
        refine (rSyncDir_c G r v (w.alloc X) hR0.vol hv.wf (by omega)).mono ?_
        rintro e w' ⟨rfl, hd⟩
        rw [← hs1] at hd ⊢
        exact ⟨rfl, _, hR0.did hd⟩
      by_cases h3 : e1 = 0
      case neg =>
        have hr : v.replace nm data m0 m1 m2 m3 = ((e1, 2), v1) := by unfold Vs.replace; rw [if_neg h1, if_neg h2, ← hs1, if_pos h3]
        rw [hr]
        have b0 : ((e1 : Int) == 0) = false := by simp; omega
        have b0' : ¬ ((e1 : Int) = 0) := by omega
        clear hr h hv hk hd hbA hR0 hX hcn h1 htl h2 h2' h3 hs1 hv1 hnG
        go_enter Tryz.func23, Tryz.ntmps23
        go_wp2_with (first
          | (go_at_call 51; refine (HFN.out _).mono ?_; rintro e w1 ⟨rfl, hw1⟩; subst w1)
          | (go_at_call 46; rw [← HXE.out]; refine HS1.out.mono ?_; rintro e w2 ⟨rfl, G', hb2⟩))
        go_returns
        exact ⟨G', rfl, hb2⟩
      case pos =>
        subst h3
        have HS1x : Hid (Calls Tryz.prog 46 #[.pointer (some ⟨r, 0, none⟩)] (w.alloc X) fun e w' => e = .returned (.int .i64 0) ∧ ∃ G', Rb G r v1 w G' w' ∧ w'.heap[w.heap.size]? = some X) := by
          refine (rSyncDir_c G r v (w.alloc X) hR0.vol hv.wf (by omega)).mono ?_
          rintro e w' ⟨rfl, hd⟩
          rw [← hs1] at hd ⊢
          refine ⟨rfl, _, hR0.did hd, ?_⟩
          rw [hd.2.block _ (by simp) hnG]; exact heap_alloc_new w X
        have HWR : Hid (∀ G' W, Rb G r v1 w G' W → Calls Tryz.prog 52 #[.pointer (some ⟨r, 0, none⟩), .string data, .agg #[.int .i64 m0, .int .i64 m1, .int .i64 m2, .int .i64 m3]] W fun e w' => ∃ G2 a, e = .returned (.tuple #[.int .i64 ((v1.written data m0 m1 m2 m3).1.1 : Int), .int .i64 (a : Int)]) ∧ ((v1.written data m0 m1 m2 m3).1.1 ≠ 0 → a = ((v1.written data m0 m1 m2 m3).1.2 : Int)) ∧ Rb G r (v1.written data m0 m1 m2 m3).2 w G2 w') := fun G' W hb => by
          refine (rwritten_c G' r v1 data m0 m1 m2 m3 W (kk + 1) hb.vol hv1 (by omega) hd).mono ?_
          rintro e w' ⟨G2, a, rfl, h5, h6⟩
          exact ⟨G2, a, rfl, h5, hb.turn h6.vol h6.kept h6.sub h6.sup⟩
        have hv2 := hv1.written (by omega) data m0 m1 m2 m3
        have hre : v.replace nm data m0 m1 m2 m3 = Vs.lastly (v1.exch nm data m0 m1 m2 m3) := by unfold Vs.replace; rw [if_neg h1, if_neg h2, ← hs1, if_neg (by simp)]
        unfold Vs.exch at hre
        obtain ⟨⟨⟨E, A⟩, v2⟩, hwt⟩ : ∃ c, c = v1.written data m0 m1 m2 m3 := ⟨_, rfl⟩
        rw [← hwt] at HWR hv2 hre
        simp only at HWR
        have hc2 := hv2.cnt
        have HRM : Hid (∀ v' G' W, Vf v' (kk + 1 + nP data + 2 + 1) → Rb G r v' w G' W → Calls Tryz.prog 54 #[.pointer (some ⟨r, 0, none⟩), .string ⟨#[97, 114, 46, 116, 109, 112, 126]⟩] W fun e w' => ∃ z : Nat, e = .returned (.int .i64 (z : Int)) ∧ ∃ G2, Rb G r (v'.remove tmpB).2 w G2 w') := fun v' G' W hf hb => by
          refine (rRemove_c G' r v' tmpB W hb.vol hf.wf (by have := hf.cnt; omega)).mono ?_
          rintro e w' ⟨rfl, hd⟩
          exact ⟨_, rfl, _, hb.did hd⟩
        have HXC : Hid (∀ W : World, W.heap[w.heap.size]? = some X → W.cell? ⟨w.heap.size, 0, none⟩ = some (.int .i64 m0) ∧ W.cell? ⟨w.heap.size, 1, none⟩ = some (.int .i64 m1) ∧ W.cell? ⟨w.heap.size, 2, none⟩ = some (.int .i64 m2) ∧ W.cell? ⟨w.heap.size, 3, none⟩ = some (.int .i64 m3)) := fun W hh => by
          rw [hX] at hh
          refine ⟨?_, ?_, ?_, ?_⟩ <;> (rw [Lib.cell_of_heap hh]; rfl)
        by_cases hE : E = 0
        case neg =>
          have hr : v.replace nm data m0 m1 m2 m3 = ((E, A), (v2.remove tmpB).2) := by
            rw [hre]
            have e1 : Vs.named ((E, A), v2) nm = ((E, A), v2) := by unfold Vs.named; rw [if_pos hE]
            rw [e1]
            have e2 : Vs.undone ((E, A), v2) = ((E, A), (v2.remove tmpB).2) := by unfold Vs.undone; rw [if_pos hE]
            rw [e2]
            unfold Vs.lastly; rw [if_pos hE]
          rw [hr]
          have b0 : ((E : Int) == 0) = false := by simp; omega
          have b0' : ¬ ((E : Int) = 0) := by omega
          have HV2 : Hid (Vf v2 (kk + 1 + nP data + 2 + 1)) := hv2.mono (by omega)
          have HWR2 : Hid (∀ G' W, Rb G r v1 w G' W → Calls Tryz.prog 52 #[.pointer (some ⟨r, 0, none⟩), .string data, .agg #[.int .i64 m0, .int .i64 m1, .int .i64 m2, .int .i64 m3]] W fun e w' => ∃ G2, e = .returned (.tuple #[.int .i64 (E : Int), .int .i64 (A : Int)]) ∧ Rb G r v2 w G2 w') := fun G' W hb => by
            refine (HWR.out G' W hb).mono ?_
            rintro e w' ⟨G2, a, rfl, h5, h6⟩
            rw [h5 hE]; exact ⟨G2, rfl, h6⟩
          clear hr h hv hk hd hbA hR0 hX hcn h1 htl h2 h2' hs1 hv1 hnG HS1 HWR hre hwt hE hv2 hc2
          go_enter Tryz.func23, Tryz.ntmps23
          go_upto_region 9 with (first
            | (go_at_call 51; refine (HFN.out _).mono ?_; rintro e w1 ⟨rfl, hw1⟩; subst w1)
            | (go_at_call 46; rw [← HXE.out]; refine HS1x.out.mono ?_; rintro e w2 ⟨rfl, G', hb2, hx2⟩))
          obtain ⟨x0, x1, x2, x3⟩ := HXC.out w2 hx2
          go_upto_region 10 with (go_at_call 52; refine (HWR2.out G' _ hb2).mono ?_; rintro e w3 ⟨G3, rfl, hb3⟩)
          clear x0 x1 x2 x3 hb2 hx2 HWR2 HS1x HFN
          go_wp2_with (go_at_call 54; refine (HRM.out v2 G3 _ HV2.out hb3).mono ?_; rintro e w4 ⟨z, rfl, G4, hb4⟩)
          go_returns
          exact ⟨G4, rfl, hb4⟩
        case pos =>
          subst hE
          obtain ⟨⟨R, v3⟩, hrn⟩ : ∃ c, c = v2.rename tmpB nm := ⟨_, rfl⟩
          have hv3 : Vf v3 (kk + 1 + nP data + 2 + 1) := by have := hv2.rename (by omega) tmpB nm; rw [← hrn] at this; exact this
          have HRN : Hid (∀ G' W, Rb G r v2 w G' W → Calls Tryz.prog 53 #[.pointer (some ⟨r, 0, none⟩), .string ⟨#[97, 114, 46, 116, 109, 112, 126]⟩, .string nm] W fun e w' => e = .returned (.int .i64 (R : Int)) ∧ ∃ G2, Rb G r v3 w G2 w') := fun G' W hb => by
            refine (rRename_c G' r v2 tmpB nm W hb.vol hv2.wf (by have : v2.cnt ≤ _ := hv2.cnt; omega)).mono ?_
            rintro e w' ⟨rfl, hd⟩
            rw [← hrn] at hd ⊢
            exact ⟨rfl, _, hb.did hd⟩
          have HWR2 : Hid (∀ G' W, Rb G r v1 w G' W → Calls Tryz.prog 52 #[.pointer (some ⟨r, 0, none⟩), .string data, .agg #[.int .i64 m0, .int .i64 m1, .int .i64 m2, .int .i64 m3]] W fun e w' => ∃ G2 a, e = .returned (.tuple #[.int .i64 0, .int .i64 a]) ∧ Rb G r v2 w G2 w') := fun G' W hb => by
            refine (HWR.out G' W hb).mono ?_
            rintro e w' ⟨G2, a, rfl, h5, h6⟩
            exact ⟨G2, a, rfl, h6⟩
          have hnmd : Vs.named ((0, A), v2) nm = ((R, 6), v3) := by unfold Vs.named; rw [if_neg (by simp), ← hrn]
          rw [hnmd] at hre
          by_cases hR : R = 0
          case neg =>
            have hr : v.replace nm data m0 m1 m2 m3 = ((R, 6), (v3.remove tmpB).2) := by
              rw [hre]
              have e2 : Vs.undone ((R, 6), v3) = ((R, 6), (v3.remove tmpB).2) := by unfold Vs.undone; rw [if_pos hR]
              rw [e2]
              unfold Vs.lastly; rw [if_pos hR]
            rw [hr]
            have b0 : ((R : Int) == 0) = false := by simp; omega
            have b0' : ¬ ((R : Int) = 0) := by omega
            have HV3 := hidK hv3
            clear hr h hv hk hd hbA hR0 hX hcn h1 htl h2 h2' hs1 hv1 hnG HS1 HWR hre hwt hv2 hc2 hR hv3 hnmd hrn
            go_enter Tryz.func23, Tryz.ntmps23
            go_upto_region 9 with (first
              | (go_at_call 51; refine (HFN.out _).mono ?_; rintro e w1 ⟨rfl, hw1⟩; subst w1)
              | (go_at_call 46; rw [← HXE.out]; refine HS1x.out.mono ?_; rintro e w2 ⟨rfl, G', hb2, hx2⟩))
            obtain ⟨x0, x1, x2, x3⟩ := HXC.out w2 hx2
            go_upto_region 10 with (go_at_call 52; refine (HWR2.out G' _ hb2).mono ?_; rintro e w3 ⟨G3, a3, rfl, hb3⟩)
            clear x0 x1 x2 x3 hb2 hx2 HWR2 HS1x HFN
            go_wp2_with (first
              | (go_at_call 53; refine (HRN.out G3 _ hb3).mono ?_; rintro e w4 ⟨rfl, G4, hb4⟩)
              | (go_at_call 54; refine (HRM.out v3 G4 _ HV3.out hb4).mono ?_; rintro e w5 ⟨z, rfl, G5, hb5⟩))
            go_returns
            exact ⟨G5, rfl, hb5⟩
          case pos =>
            subst hR
            obtain ⟨⟨S, v4⟩, hsd⟩ : ∃ c, c = v3.syncDir := ⟨_, rfl⟩
            have HS2 : Hid (∀ G' W, Rb G r v3 w G' W → Calls Tryz.prog 46 #[.pointer (some ⟨r, 0, none⟩)] W fun e w' => e = .returned (.int .i64 (S : Int)) ∧ ∃ G2, Rb G r v4 w G2 w') := fun G' W hb => by
              refine (rSyncDir_c G' r v3 W hb.vol hv3.wf (by have := hv3.cnt; omega)).mono ?_
              rintro e w' ⟨rfl, hd⟩
              rw [← hsd] at hd ⊢
              exact ⟨rfl, _, hb.did hd⟩
            have hr : v.replace nm data m0 m1 m2 m3 = if S ≠ 0 then ((160, 7), v4) else ((0, 0), v4) := by
              rw [hre]
              have e2 : Vs.undone ((0, 6), v3) = ((0, 6), v3) := by unfold Vs.undone; rw [if_neg (by simp)]
              rw [e2]
              unfold Vs.lastly; rw [if_neg (by simp), ← hsd]
            rw [hr]
            clear hr h hv hk hd hbA hR0 hX hcn h1 htl h2 h2' hs1 hv1 hnG HS1 HWR hre hwt hv2 hc2 hv3 hnmd hrn hsd HRM
            by_cases hS : S = 0
            · subst hS
              rw [if_neg (by simp)]
              go_enter Tryz.func23, Tryz.ntmps23
              go_upto_region 9 with (first
                | (go_at_call 51; refine (HFN.out _).mono ?_; rintro e w1 ⟨rfl, hw1⟩; subst w1)
                | (go_at_call 46; rw [← HXE.out]; refine HS1x.out.mono ?_; rintro e w2 ⟨rfl, G', hb2, hx2⟩))
              obtain ⟨x0, x1, x2, x3⟩ := HXC.out w2 hx2
              go_upto_region 10 with (go_at_call 52; refine (HWR2.out G' _ hb2).mono ?_; rintro e w3 ⟨G3, a3, rfl, hb3⟩)
              clear x0 x1 x2 x3 hb2 hx2 HWR2 HS1x HFN
              go_wp2_with (first
                | (go_at_call 53; refine (HRN.out G3 _ hb3).mono ?_; rintro e w4 ⟨rfl, G4, hb4⟩)
                | (go_at_call 46; refine (HS2.out G4 _ hb4).mono ?_; rintro e w5 ⟨rfl, G5, hb5⟩))
              go_returns
              exact ⟨G5, rfl, hb5⟩
            · rw [if_pos hS]
              have b0 : ((S : Int) == 0) = false := by simp; omega
              have b0' : ¬ ((S : Int) = 0) := by omega
              clear hS
              go_enter Tryz.func23, Tryz.ntmps23
              go_upto_region 9 with (first
                | (go_at_call 51; refine (HFN.out _).mono ?_; rintro e w1 ⟨rfl, hw1⟩; subst w1)
                | (go_at_call 46; rw [← HXE.out]; refine HS1x.out.mono ?_; rintro e w2 ⟨rfl, G', hb2, hx2⟩))
              obtain ⟨x0, x1, x2, x3⟩ := HXC.out w2 hx2
              go_upto_region 10 with (go_at_call 52; refine (HWR2.out G' _ hb2).mono ?_; rintro e w3 ⟨G3, a3, rfl, hb3⟩)
              clear x0 x1 x2 x3 hb2 hx2 HWR2 HS1x HFN
              go_wp2_with (first
                | (go_at_call 53; refine (HRN.out G3 _ hb3).mono ?_; rintro e w4 ⟨rfl, G4, hb4⟩)
                | (go_at_call 46; refine (HS2.out G4 _ hb4).mono ?_; rintro e w5 ⟨rfl, G5, hb5⟩))
              go_returns
              exact ⟨G5, rfl, hb5⟩
end Go.Proofs.YtofmiaaglbcebaaGreatDoor
