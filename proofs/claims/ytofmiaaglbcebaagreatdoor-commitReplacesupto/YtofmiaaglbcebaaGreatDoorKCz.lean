import Derived.Test.YtofmiaaglbcebaaGreatDoorM6
import Derived.Test.YtofmiaaglbcebaaGreatDoorU11z
import Derived.Deep.CutRange

-- commit.fill: its walk.
namespace Go.Proofs.YtofmiaaglbcebaaGreatDoor
open Go.RowKit
set_option linter.unusedVariables false
variable {PS : (Nat → Prop) → Nat → St → World → Prop}
theorem ErrIs.nil {w : World} {B : Nat} {op name : ByteArray} {ev : Value} (h : ErrIs w B op name 0 ev) : ev = .nilIface := by
  rcases h with ⟨_, h⟩ | ⟨h, _⟩
  · exact h
  · exact absurd rfl h
theorem ErrIs.some {w : World} {B : Nat} {op name : ByteArray} {e : Nat} {ev : Value} (h : ErrIs w B op name e ev) (he : e ≠ 0) : ∃ b, ev = .iface 112 (.pointer (some ⟨b, 0, none⟩)) := by
  rcases h with ⟨h, _⟩ | ⟨_, b, _, h, _⟩
  · exact absurd h he
  · exact ⟨b, h⟩
theorem EDid.err {G : Nat → Prop} {q : Nat} {v : Vs} {w w' : World} {op name : ByteArray} {e : Nat} {ev : Value} (h : EDid PS G q v w w' op name e ev) : (e = 0 → ev = .nilIface) ∧ (e ≠ 0 → ∃ b, ev = .iface 112 (.pointer (some ⟨b, 0, none⟩))) := by
  obtain ⟨B, h1, h2, h3, h4, h5⟩ := h
  exact ⟨fun e => by subst e; exact h3.nil, fun e => h3.some e⟩
set_option maxRecDepth 100000 in
set_option maxHeartbeats 8000000 in
theorem cfill_c (C : PC PS) (G : Nat → Prop) (q : Nat) (v : Vs) (b : Nat) (x : Hd) (data : ByteArray) (w : World) (kk : Nat) (h : PV PS G q v w) (hb : FileAt w b q x) (hG : ¬ G b) (hv : Vf v kk) (hk : kk + nP data + 2 < 2097151) (hd : data.size ≤ 140737488355328) :
    Calls Tryz.prog 73 #[.pointer (some ⟨b, 0, none⟩), .string data] w fun r w' => ∃ ev, r = .returned ev ∧ EDk PS (fun k => G k ∨ k = b) G q (Vs.fillN x data (nP data) 0 v).2 w w' (fillOp (Vs.fillN x data (nP data) 0 v).1.2) x.name (Vs.fillN x data (nP data) 0 v).1.1 ev := by
  have hb0 := hb.lt
  have HW : Hid (∀ (v' : Vs) (G' : Nat → Prop) (W : World) (d : ByteArray), Fl PS G q v' b x w G' W → Wf v'.st → v'.cnt ≤ 4194304 → d.size ≤ 140737488355328 → Calls Tryz.prog 40 #[.pointer (some ⟨b, 0, none⟩), .string d] W fun e w' => ∃ ev, e = .returned (.tuple #[.int .i64 (v'.write x d).1.1, ev]) ∧ EDid PS G q (v'.write x d).2 w w' ⟨#[119, 114, 105, 116, 101]⟩ x.name (v'.write x d).1.2 ev ∧ ∃ G2, Fl PS G q (v'.write x d).2 b x w G2 w') := fun v' G' W d hf h1 h2 h3 => by
    refine (sWrite_c C G' q v' b x d W hf.vol hf.file hf.out h1 h2 h3).mono ?_
    rintro e w' ⟨ev, rfl, hdd⟩
    exact ⟨ev, rfl, hf.next hdd hb0⟩
  have HS : Hid (∀ (v' : Vs) (G' : Nat → Prop) (W : World), Fl PS G q v' b x w G' W → Wf v'.st → v'.cnt ≤ 4194304 → Calls Tryz.prog 41 #[.pointer (some ⟨b, 0, none⟩)] W fun e w' => ∃ ev, e = .returned ev ∧ EDid PS G q (v'.sync x).2 w w' ⟨#[115, 121, 110, 99]⟩ x.name (v'.sync x).1 ev ∧ ∃ G2, Fl PS G q (v'.sync x).2 b x w G2 w') := fun v' G' W hf h1 h2 => by
    refine (sSync_c C G' q v' b x W hf.vol hf.file hf.out h1 h2).mono ?_
    rintro e w' ⟨ev, rfl, hdd⟩
    exact ⟨ev, rfl, hf.next hdd hb0⟩
  have HD : Hid (∀ (v' : Vs) (G' : Nat → Prop) (W : World) (op : ByteArray) (e : Nat) (ev : Value), Fl PS G q v' b x w G' W → EDid PS G q v' w W op x.name e ev → CallsD Tryz.prog 89 #[.pointer (some ⟨b, 0, none⟩)] .returning W fun r u' w' => u' = .returning ∧ (∃ r0, r = .returned r0 ∧ EDk PS (fun k => G k ∨ k = b) G q v' w w' op x.name e ev)) := fun v' G' W op e ev hf he => by
    refine (closeD G' q v' b x .returning W hf.vol hf.file).mono ?_
    rintro r u' w' ⟨rfl, r0, rfl, _, _, hkp⟩
    exact ⟨rfl, r0, rfl, he.shut C hb0 hG hkp⟩
  have HF0 : Hid (Fl PS G q v b x w G w) := ⟨h, fun k hk => .inl hk, fun k hk => hk, hG, hb, ⟨rfl, rfl, rfl, Nat.le_refl _, fun _ _ _ => rfl⟩⟩
  have HV : Hid (Vf v kk) := hv
  have HKK : Hid (kk + nP data + 2 < 2097151 ∧ data.size ≤ 140737488355328) := ⟨hk, hd⟩
  have hst : Value.string data = .string (data.extract (0 * 512) data.size) := by rw [Nat.zero_mul, ByteArray.extract_zero_size]
  have HST : Hid (Value.string data = .string (data.extract (0 * 512) data.size)) := hst
  clear hst h hb hG hv hk hd hb0
  go_enter_defers Tryz.func73, Tryz.ntmps73
  go_wp2_with fail
  go_loopw [5] (fun r wr => ∃ (k : Nat) (v' : Vs) (G' : Nat → Prop), r = .string (data.extract (k * 512) data.size) ∧ k ≤ nP data ∧ Vs.fillN x data (nP data) 0 v = Vs.fillN x data (nP data - k) k v' ∧ Vf v' (kk + k) ∧ Fl PS G q v' b x w G' wr) (fun r _ => strSz r)
  case atStart => exact ⟨0, v, G, HST.out, Nat.zero_le _, rfl, HV.out, HF0.out⟩
  case round =>
    obtain ⟨k, v', G', rfl, hkn, hfe, hvf, hfl⟩ := hrel
    have HFE : Hid (Vs.fillN x data (nP data) 0 v = Vs.fillN x data (nP data - k) k v') := hfe
    obtain ⟨hk1, hd1⟩ := HKK.out
    have hs : (data.extract (k * 512) data.size).size = data.size - k * 512 := by rw [ByteArray.size_extract]; omega
    by_cases hk : k < nP data
    · have hlt := nP_lt' hk
      have hne : data.extract (k * 512) data.size ≠ ⟨#[]⟩ := fun e => by rw [e] at hs; have : (⟨#[]⟩ : ByteArray).size = 0 := rfl; omega
      have hpc := rest_piece data k
      have hrr := rest_rest data k
      obtain ⟨n, hn⟩ : ∃ n, nP data - k = n + 1 := ⟨nP data - k - 1, by omega⟩
      have hn2 : n = nP data - (k + 1) := by omega
      rw [hn] at HFE
      obtain ⟨R, hR⟩ : ∃ R, R = data.extract (k * 512) data.size := ⟨_, rfl⟩
      rw [← hR] at hs hne hpc hrr ⊢
      have h1 := empty_no hne
      have hl : R.toList.isEmpty = false := by
        cases h : R.toList with
        | nil => exact absurd h h1
        | cons _ _ => rfl
      have hps : (pieceOf data k).size ≤ data.size := by unfold pieceOf; rw [ByteArray.size_extract]; omega
      have hwr := HW.out v' G' wr (pieceOf data k) hfl hvf.wf (by have := hvf.cnt; omega) (by omega)
      obtain ⟨m, hm⟩ : ∃ m : Nat, m = min R.size 512 := ⟨_, rfl⟩
      have hpe := hpc m hm
      have hre := hrr m hk hm
      have hpz : (pieceOf data k).size = m := by rw [← hpe, ByteArray.size_extract]; omega
      obtain ⟨P, hP⟩ : ∃ P, P = pieceOf data k := ⟨_, rfl⟩
      rw [← hP] at hwr hpe hpz
      have hpq : R.extract 0 (min (R.size : Int) 512).toNat = P := by rw [← hpe]; congr 1; omega
      have hpl : P.size ≤ R.size := by omega
      have HP : Hid (P = pieceOf data k) := hP
      have HRS : Hid (R.extract P.size R.size = data.extract ((k + 1) * 512) data.size ∧ 0 < P.size ∧ 0 < R.size ∧ P.size ≤ R.size) := ⟨by rw [hpz]; exact hre, by omega, by omega, by omega⟩
      have HVF : Hid (Vf (v'.write x P).2 (kk + (k + 1))) := (hvf.write x P).mono (by omega)
      have HK2 : Hid (k < nP data ∧ n = nP data - (k + 1)) := ⟨hk, hn2⟩
      clear hre hpc hrr hP hne hs hR hps hfl hvf hlt hkn hk hk1 hd1 hm hn hfe hn2 hpe hpz
      by_cases he : (v'.write x P).1.2 = 0
      · have HC : Hid (Calls Tryz.prog 40 #[.pointer (some ⟨b, 0, none⟩), .string P] wr fun e w' => e = .returned (.tuple #[.int .i64 (v'.write x P).1.1, .nilIface]) ∧ ∃ G2, Fl PS G q (v'.write x P).2 b x w G2 w') := by
          refine hwr.mono ?_
          rintro e w' ⟨ev, rfl, h1, h2⟩
          exact ⟨by rw [h1.err.1 he], h2⟩
        have HE : Hid (Vs.fillN x data (n + 1) k v' = Vs.fillN x data n (k + 1) (v'.write x P).2) := by
          show _ = _
          rw [Vs.fillN, ← HP.out, if_neg (by simp [he])]
        clear hwr he
        go_upto_region 5 with fail
        clear hpq
        go_wp2_with (go_at_call 40; refine HC.out.mono ?_; rintro e w1 ⟨rfl, G2, hf2⟩)
        rw [HRS.out.1]
        refine ⟨⟨k + 1, _, G2, rfl, HK2.out.1, ?_, HVF.out, hf2⟩, ?_⟩
        · rw [HFE.out, HE.out, HK2.out.2]
        · have := HRS.out
          show (data.extract ((k + 1) * 512) data.size).size < R.size
          rw [← this.1, ByteArray.size_extract]; omega
      · have HC : Hid (Calls Tryz.prog 40 #[.pointer (some ⟨b, 0, none⟩), .string P] wr fun e w' => ∃ eb, e = .returned (.tuple #[.int .i64 (v'.write x P).1.1, .iface 112 (.pointer (some ⟨eb, 0, none⟩))]) ∧ EDid PS G q (v'.write x P).2 w w' ⟨#[119, 114, 105, 116, 101]⟩ x.name (v'.write x P).1.2 (.iface 112 (.pointer (some ⟨eb, 0, none⟩))) ∧ ∃ G2, Fl PS G q (v'.write x P).2 b x w G2 w') := by
          refine hwr.mono ?_
          rintro e w' ⟨ev, rfl, h1, h2⟩
          obtain ⟨eb, h3⟩ := h1.err.2 he
          subst h3
          exact ⟨eb, rfl, h1, h2⟩
        have HE : Hid (Vs.fillN x data (n + 1) k v' = (((v'.write x P).1.2, 4), (v'.write x P).2)) := by
          show _ = _
          rw [Vs.fillN, ← HP.out, if_pos he]
        clear hwr he
        go_upto_region 5 with fail
        clear hpq
        go_wp2_with (go_at_call 40; refine HC.out.mono ?_; rintro e w1 ⟨eb, rfl, hd2, G2, hf2⟩)
        refine leaves_cons (f := 89) (args := #[.pointer (some ⟨b, 0, none⟩)]) (by simp) (by simp [go_sem]) ?_
        refine (HD.out _ _ _ _ _ _ hf2 hd2).mono ?_
        rintro r u' w'' ⟨rfl, r0, rfl, hfin⟩
        refine ⟨_, results_tmp rfl _ _ _, _, rfl, ?_⟩
        rw [HFE.out, HE.out]
        exact hfin
    · have hkk : k = nP data := by omega
      have hsz : data.size ≤ k * 512 := by rw [hkk]; unfold nP; omega
      have hem : data.extract (k * 512) data.size = ⟨#[]⟩ := ByteArray.extract_eq_empty_iff.2 (by omega)
      have HSY : Hid (Calls Tryz.prog 41 #[.pointer (some ⟨b, 0, none⟩)] wr fun e w' => ∃ ev, e = .returned ev ∧ EDid PS G q (v'.sync x).2 w w' ⟨#[115, 121, 110, 99]⟩ x.name (v'.sync x).1 ev ∧ ∃ G2, Fl PS G q (v'.sync x).2 b x w G2 w') := HS.out v' G' wr hfl hvf.wf (by have := hvf.cnt; omega)
      have HE : Hid (Vs.fillN x data (nP data) 0 v = (((v'.sync x).1, 5), (v'.sync x).2)) := by
        show _ = _
        rw [HFE.out, hkk, Nat.sub_self]; rfl
      rw [hem]
      clear hem hsz hkk hk hs hk1 hd1 hfl hvf hfe hkn
      go_wp2_with (go_at_call 41; refine HSY.out.mono ?_; rintro e w1 ⟨ev, rfl, hd2, G2, hf2⟩)
      refine leaves_cons (f := 89) (args := #[.pointer (some ⟨b, 0, none⟩)]) (by simp) (by simp [go_sem]) ?_
      refine (HD.out _ _ _ _ _ _ hf2 hd2).mono ?_
      rintro r u' w'' ⟨rfl, r0, rfl, hfin⟩
      refine ⟨_, results_tmp rfl _ _ _, _, rfl, ?_⟩
      rw [HE.out]
      exact hfin
end Go.Proofs.YtofmiaaglbcebaaGreatDoor
