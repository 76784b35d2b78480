-- What holds of every directory: names that are names, rising; bodies unlike.
import Derived.Test.YtodjgbmfmpbkjabP1
namespace Go.Proofs.Ytodjgbmfmpbkjab
open Go
set_option linter.unusedVariables false
theorem bl_irrefl (a : List UInt8) : Op.bytesLess a a = false := by
  induction a with
  | nil => rfl
  | cons x r ih => simp [Op.bytesLess, ih]
theorem bl_trans : ∀ (a b c : List UInt8), Op.bytesLess a b = true → Op.bytesLess b c = true → Op.bytesLess a c = true
  | _, [], _, h, _ => by cases ‹List UInt8› <;> simp [Op.bytesLess] at h
  | _, _ :: _, [], _, h => by simp [Op.bytesLess] at h
  | [], _ :: _, _ :: _, _, _ => rfl
  | x :: a, y :: b, z :: c, h1, h2 => by
    simp only [Op.bytesLess, Bool.or_eq_true, Bool.and_eq_true, beq_iff_eq, decide_eq_true_eq] at h1 h2 ⊢
    rcases h1 with h1 | ⟨rfl, h1⟩
    · rcases h2 with h2 | ⟨rfl, h2⟩
      · left; rw [UInt8.lt_iff_toNat_lt] at *; omega
      · left; exact h1
    · rcases h2 with h2 | ⟨rfl, h2⟩
      · left; exact h2
      · right; exact ⟨rfl, bl_trans a b c h1 h2⟩
theorem bl_total : ∀ (a b : List UInt8), Op.bytesLess a b = true ∨ a = b ∨ Op.bytesLess b a = true
  | [], [] => .inr (.inl rfl)
  | [], _ :: _ => .inl rfl
  | _ :: _, [] => .inr (.inr rfl)
  | x :: a, y :: b => by
    simp only [Op.bytesLess, Bool.or_eq_true, Bool.and_eq_true, beq_iff_eq, decide_eq_true_eq, List.cons.injEq]
    by_cases h : x = y
    · subst h
      rcases bl_total a b with h | h | h
      · exact .inl (.inr ⟨rfl, h⟩)
      · exact .inr (.inl ⟨rfl, h⟩)
      · exact .inr (.inr (.inr ⟨rfl, h⟩))
    · have hne : x.toNat ≠ y.toNat := fun e => h (UInt8.toNat_inj.1 e)
      rw [UInt8.lt_iff_toNat_lt, UInt8.lt_iff_toNat_lt]
      by_cases hl : x.toNat < y.toNat
      · exact .inl (.inl hl)
      · exact .inr (.inr (.inl (by omega)))
theorem ltB_irrefl (a : ByteArray) : ltB a a = false := bl_irrefl _
theorem ltB_trans {a b c : ByteArray} (h1 : ltB a b = true) (h2 : ltB b c = true) : ltB a c = true := bl_trans _ _ _ h1 h2
theorem ltB_total (a b : ByteArray) : ltB a b = true ∨ a = b ∨ ltB b a = true := by
  rcases bl_total a.toList b.toList with h | h | h
  · exact .inl h
  · refine .inr (.inl ?_)
    have := beq_toList a b
    rw [h] at this
    simpa using this.symm
  · exact .inr (.inr h)
structure Dw (d : Dr) : Prop where
  rise : d.Pairwise fun a b => ltB a.1 b.1 = true
  unlike : (d.map (·.2)).Nodup
  name : ∀ e ∈ d, okName e.1 = true
theorem Dw.nil : Dw [] := ⟨List.Pairwise.nil, by simp, by simp⟩
theorem dw_without {d : Dr} (h : Dw d) (n : ByteArray) : Dw (without d n) where
  rise := h.rise.filter _
  unlike := by
    unfold without
    exact (List.Sublist.map _ List.filter_sublist).nodup h.unlike
  name := fun e he => h.name e (without_mem _ _ _ he)
theorem without_name (d : Dr) (n : ByteArray) : ∀ e ∈ without d n, e.1 ≠ n := fun e he => by simpa using (List.mem_filter.1 he).2
theorem ins_rise (n : ByteArray) (b : Nat) (d : Dr) (h : d.Pairwise fun a b => ltB a.1 b.1 = true) (hn : ∀ e ∈ d, e.1 ≠ n) : (ins n b d).Pairwise fun a b => ltB a.1 b.1 = true := by
  induction d with
  | nil => simp [ins]
  | cons e r ih =>
    rw [List.pairwise_cons] at h
    unfold ins
    split
    · rename_i hlt
      rw [List.pairwise_cons, List.pairwise_cons]
      refine ⟨fun x hx => ?_, h.1, h.2⟩
      rcases List.mem_cons.1 hx with rfl | hx
      · exact hlt
      · exact ltB_trans hlt (h.1 x hx)
    · rename_i hlt
      rw [List.pairwise_cons]
      refine ⟨fun x hx => ?_, ih h.2 fun x hx => hn x (List.mem_cons_of_mem _ hx)⟩
      rcases ins_mem _ _ _ _ hx with rfl | hx
      · rcases ltB_total n e.1 with h' | h' | h'
        · exact absurd h' hlt
        · exact absurd h'.symm (hn e (by simp))
        · exact h'
      · exact h.1 x hx
theorem ins_perm (n : ByteArray) (b : Nat) (d : Dr) : (ins n b d).Perm ((n, b) :: d) := by
  induction d with
  | nil => exact List.Perm.refl _
  | cons e r ih =>
    unfold ins
    split
    · exact List.Perm.refl _
    · exact (List.Perm.cons e ih).trans (List.Perm.swap _ _ _)
theorem dw_with {d : Dr} (h : Dw d) (n : ByteArray) (b : Nat) (hn : okName n = true) (hb : ∀ e ∈ d, e.1 ≠ n → e.2 ≠ b) : Dw (with_ d n b) where
  rise := ins_rise n b _ (dw_without h n).rise (without_name d n)
  unlike := by
    have hp := (ins_perm n b (without d n)).map (·.2)
    refine hp.nodup_iff.2 ?_
    rw [List.map_cons, List.nodup_cons]
    refine ⟨fun hm => ?_, (dw_without h n).unlike⟩
    obtain ⟨e, he, h2⟩ := List.mem_map.1 hm
    exact hb e (without_mem _ _ _ he) (without_name _ _ e he) h2
  name := fun e he => by
    rcases ins_mem _ _ _ _ he with rfl | he
    · exact hn
    · exact h.name e (without_mem _ _ _ he)
theorem dw_uniq {d : Dr} (h : Dw d) {e f : ByteArray × Nat} (he : e ∈ d) (hf : f ∈ d) (hn : e.1 = f.1) : e = f := by
  have hr := h.rise
  clear h
  induction d with
  | nil => simp at he
  | cons x r ih =>
    rw [List.pairwise_cons] at hr
    rcases List.mem_cons.1 he with rfl | he2
    · rcases List.mem_cons.1 hf with rfl | hf
      · rfl
      · have := hr.1 f hf; rw [hn, ltB_irrefl] at this; cases this
    · rcases List.mem_cons.1 hf with rfl | hf
      · have := hr.1 e he2; rw [hn, ltB_irrefl] at this; cases this
      · exact ih he2 hf hr.2
theorem dw_uniqB {d : Dr} (h : Dw d) {e f : ByteArray × Nat} (he : e ∈ d) (hf : f ∈ d) (hn : e.2 = f.2) : e = f := by
  have hr := h.unlike
  clear h
  induction d with
  | nil => simp at he
  | cons x r ih =>
    rw [List.map_cons, List.nodup_cons] at hr
    rcases List.mem_cons.1 he with rfl | he2
    · rcases List.mem_cons.1 hf with rfl | hf
      · rfl
      · exact absurd (List.mem_map.2 ⟨f, hf, hn.symm⟩) hr.1
    · rcases List.mem_cons.1 hf with rfl | hf
      · exact absurd (List.mem_map.2 ⟨e, he2, hn⟩) hr.1
      · exact ih he2 hf hr.2
theorem leads_ne (d : Dr) (e : ByteArray × Nat) (he : e ∈ d) (hp : ∀ f ∈ d, f.2 ≠ 0) : leads d e.1 ≠ 0 := by
  induction d with
  | nil => simp at he
  | cons x r ih =>
    unfold leads
    split
    · exact hp x (by simp)
    · rename_i hx
      rcases List.mem_cons.1 he with rfl | he2
      · exact absurd rfl hx
      · exact ih he2 fun f hf => hp f (List.mem_cons_of_mem _ hf)
theorem dw_leads {d : Dr} (h : Dw d) {e : ByteArray × Nat} (he : e ∈ d) (hp : ∀ f ∈ d, f.2 ≠ 0) : leads d e.1 = e.2 := by
  have := dw_uniq h (leads_mem d e.1 (leads_ne d e he hp)) he rfl
  exact congrArg Prod.snd this
def DW (st : St) : Prop := ∀ d ∈ st.dirs, Dw d
theorem DW.now {st : St} (h : DW st) (hw : Wf st) : Dw st.now := h _ (now_mem hw)
theorem DW.add {st : St} (h : DW st) {d : Dr} (hd : Dw d) : DW { st with dirs := st.dirs ++ [d] } := fun x hx => by
  rcases List.mem_append.1 hx with hx | hx
  · exact h x hx
  · simp at hx; subst hx; exact hd
theorem DW.one {st : St} {d : Dr} (hd : Dw d) (bs : List Bd) : DW { st with bodies := bs, dirs := [d] } := fun x hx => by
  simp at hx; subst hx; exact hd
theorem new_DW (c : Nat) : DW (St.new c) := fun d hd => by
  simp [St.new] at hd; subst hd; exact Dw.nil
theorem step_DW {st : St} (h : DW st) (hw : Wf st) (o : Opx) : DW (st.step o) := by
  have hnow := h.now hw
  unfold St.step
  split
  · unfold St.create
    split
    · exact h
    · split
      · exact h
      · rename_i hok hfull
        refine DW.add (st := { st with bodies := st.bodies ++ [_] }) h (dw_with hnow _ _ (by simpa using hok) fun e he _ => ?_)
        have := (hw.led _ (now_mem hw) e he).2
        omega
  split
  · unfold St.append
    split
    · exact h
    · split <;> exact h
  split
  · unfold St.sync
    split <;> exact h
  split
  · exact DW.one hnow _
  split
  · unfold St.rename
    split
    · exact h
    · split
      · exact h
      · split
        · exact h
        · rename_i hok hz hne
          have hok2 : okName o.b = true := by
            cases hb : okName o.b with
            | true => rfl
            | false => exact absurd (Or.inr hb) hok
          refine h.add (dw_with (dw_without hnow _) _ _ hok2 fun e he _ e2 => ?_)
          have := dw_uniqB hnow (without_mem _ _ _ he) (leads_mem _ _ hz) e2
          exact without_name _ _ e he (by rw [this])
  split
  · unfold St.remove
    split
    · exact h
    · split
      · exact h
      · exact h.add (dw_without hnow _)
  split
  · obtain ⟨m, _, _, hm⟩ := cutDir_get hw o.n
    exact DW.one (h _ (List.mem_of_getElem? hm)) _
  · exact h
end Go.Proofs.Ytodjgbmfmpbkjab
