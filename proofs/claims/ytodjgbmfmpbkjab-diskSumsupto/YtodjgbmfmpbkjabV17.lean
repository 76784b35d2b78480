-- A name given up; a change made: the lists behind it.
import Derived.Test.YtodjgbmfmpbkjabV14
namespace Go.Proofs.Ytodjgbmfmpbkjab
open Go.RowKit
set_option linter.unusedVariables false
theorem without_comm (d : Dr) (a b : ByteArray) : without (without d a) b = without (without d b) a := by
  unfold without; rw [List.filter_filter, List.filter_filter]; congr 1; funext e; exact Bool.and_comm _ _
theorem without_nums {d : Dr} (h : Dw d) {n : ByteArray} {x : Nat} (hx : (n, x) ∈ d) : (d.map (·.2)).Perm (x :: (without d n).map (·.2)) := by
  have := (without_perm h.dn hx).map (·.2); simpa using this
theorem with_nums (d : Dr) (n : ByteArray) (x : Nat) : ((with_ d n x).map (·.2)).Perm (x :: (without d n).map (·.2)) := by
  have := (ins_perm n x (without d n)).map (·.2); simpa [with_] using this
/-- Behind 'giveUp': what the two maps hold. -/
structure Given (now : Dr) (name : ByteArray) (T K T1 K1 : List (Nat × Nat)) : Prop where
  num : (T1.map (·.1)).Perm ((without now name).map (·.2))
  fwd : ∀ e ∈ T ++ K, e ∈ T1 ++ K1
  bwd : ∀ e ∈ T1 ++ K1, e ∈ T ++ K
  apart : ∀ e ∈ K1, ∀ f ∈ T1, e.1 ≠ f.1
theorem giveUp_p (name : ByteArray) (F : Nat → Prop) (p cap made : Nat) (now d0 : Dr) (cs : List Chg) (T K : List (Nat × Nat)) (bs : List Bd) (w : World) (bd bf bt bk : Nat) (vp : Value) (h : RN F p cap made now d0 cs T K bs w bd bf bt bk vp) (hd : Dw now) (hp1 : ∀ e ∈ now, 1 ≤ e.2) (hnum : (T.map (·.1)).Perm (now.map (·.2))) (hap : ∀ e ∈ K, ∀ f ∈ T, e.1 ≠ f.1) :
    Calls Try.prog 26 #[.pointer (some ⟨p, 0, none⟩), .string name] w fun e w' => e = .returned (.tuple #[]) ∧ (∃ T1 K1, RN F p cap made now d0 cs T1 K1 bs w' bd bf bt bk vp ∧ Given now name T K T1 K1) ∧ Kp F w w' := by
  by_cases h0 : leads now name = 0
  · refine (giveUp_no name F p cap made now d0 cs T K bs w bd bf bt bk vp h hp1 h0).mono ?_
    rintro e w' ⟨rfl, rfl⟩
    refine ⟨rfl, ⟨T, K, h, ?_, fun _ h => h, fun _ h => h, hap⟩, Kp.refl _ _⟩
    rw [without_of_not now name (leads_zero hp1 h0)]; exact hnum
  · have hm := leads_mem now name h0
    obtain ⟨n, hn⟩ : ∃ n, n = leads now name := ⟨_, rfl⟩
    rw [← hn] at hm h0
    have hnT : n ∈ T.map (·.1) := hnum.mem_iff.2 (List.mem_map.2 ⟨_, hm, rfl⟩)
    obtain ⟨f, hf, hfn⟩ := List.mem_map.1 hnT
    obtain ⟨x, hx⟩ : ∃ x, (n, x) ∈ T := ⟨f.2, by rw [← hfn]; exact hf⟩
    obtain ⟨T0, hT0⟩ := perm_of_mem hx
    have hKn : ∀ e ∈ K, e.1 ≠ n := fun e he hen => hap e he (n, x) hx hen
    have hTu : (T.map (·.1)).Nodup := bv_uniq h.m3.apart
    refine (giveUp_c name n x T0 F p cap made now d0 cs T K bs w bd bf bt bk vp h hp1 hn.symm h0 hT0 hKn).mono ?_
    rintro e w' ⟨rfl, hR, hK⟩
    refine ⟨rfl, ⟨T0, (n, x) :: K, hR, ?_, fun e he => ?_, fun e he => ?_, fun e he f hf => ?_⟩, hK⟩
    · have h1 := (hT0.map (·.1)).symm.trans (hnum.trans (without_nums hd hm))
      rw [List.map_cons] at h1
      exact (List.perm_cons _).1 h1
    · rcases List.mem_append.1 he with he | he
      · rcases List.mem_cons.1 (hT0.mem_iff.1 he) with rfl | he
        · exact List.mem_append_right _ (by simp)
        · exact List.mem_append_left _ he
      · exact List.mem_append_right _ (List.mem_cons_of_mem _ he)
    · rcases List.mem_append.1 he with he | he
      · exact List.mem_append_left _ (hT0.mem_iff.2 (List.mem_cons_of_mem _ he))
      · rcases List.mem_cons.1 he with rfl | he
        · exact List.mem_append_left _ hx
        · exact List.mem_append_right _ he
    · have hn2 : (n :: T0.map (·.1)).Nodup := by
        have := (hT0.map (·.1)).nodup_iff.1 hTu
        simpa using this
      rcases List.mem_cons.1 he with rfl | he
      · exact fun e1 => (List.nodup_cons.1 hn2).1 (List.mem_map.2 ⟨f, hf, e1.symm⟩)
      · exact hap e he f (hT0.mem_iff.2 (List.mem_cons_of_mem _ hf))
/-- The lists behind a change. -/
theorem inv_next {st st' : St} {d0 : Dr} {cs : List Chg} {T K T1 K1 : List (Nat × Nat)} (h : Inv st d0 cs T K) (c : Chg) (hdirs : st'.dirs = st.dirs ++ [c.app st.now]) (hdw : DW st') (hnum : (T1.map (·.1)).Perm ((c.app st.now).map (·.2))) (hfwd : ∀ e ∈ T ++ K, e.1 ∈ T1.map (·.1) ∨ e.1 ∈ K1.map (·.1)) (hap : ∀ e ∈ K1, ∀ f ∈ T1, e.1 ≠ f.1) : Inv st' d0 (cs ++ [c]) T1 K1 where
  dirs := by rw [hdirs, h.dirs, chain_snoc, h.now_eq]
  dw := hdw
  num := by
    have : st'.now = c.app st.now := by
      show st'.dirs.getLast?.getD [] = _
      rw [hdirs, List.getLast?_append]; rfl
    rw [this]; exact hnum
  all := fun d hd e he => by
    rw [hdirs] at hd
    rcases List.mem_append.1 hd with hd | hd
    · rcases h.all d hd e he with h1 | h1
      · obtain ⟨f, hf, hfe⟩ := List.mem_map.1 h1
        rw [← hfe]; exact hfwd f (List.mem_append_left _ hf)
      · obtain ⟨f, hf, hfe⟩ := List.mem_map.1 h1
        rw [← hfe]; exact hfwd f (List.mem_append_right _ hf)
    · simp at hd
      subst hd
      exact .inl (hnum.mem_iff.2 (List.mem_map.2 ⟨e, he, rfl⟩))
  apart := hap
theorem Given.keys {now : Dr} {name : ByteArray} {T K T1 K1 : List (Nat × Nat)} (h : Given now name T K T1 K1) : ∀ e ∈ T ++ K, e.1 ∈ T1.map (·.1) ∨ e.1 ∈ K1.map (·.1) := fun e he => by
  rcases List.mem_append.1 (h.fwd e he) with h1 | h1
  · exact .inl (List.mem_map.2 ⟨e, h1, rfl⟩)
  · exact .inr (List.mem_map.2 ⟨e, h1, rfl⟩)
theorem app_remove (d : Dr) (n : ByteArray) : (⟨n, ⟨#[]⟩, 0⟩ : Chg).app d = without d n := by unfold Chg.app; simp
theorem app_rename (d : Dr) (a b : ByteArray) (k : Nat) (h : b ≠ ⟨#[]⟩) : (⟨a, b, k⟩ : Chg).app d = with_ (without d a) b k := by unfold Chg.app; simp [h]
theorem ok_ne {n : ByteArray} (h : okName n = true) : n ≠ ⟨#[]⟩ := fun e => by subst e; revert h; decide
theorem app_create {d : Dr} (hd : Dw d) (n : ByteArray) (k : Nat) (h : n ≠ ⟨#[]⟩) : (⟨⟨#[]⟩, n, k⟩ : Chg).app d = with_ d n k := by
  unfold Chg.app; simp only [h, if_false]
  rw [without_of_not d ⟨#[]⟩ fun e he => ok_ne (hd.name e he)]
end Go.Proofs.Ytodjgbmfmpbkjab
