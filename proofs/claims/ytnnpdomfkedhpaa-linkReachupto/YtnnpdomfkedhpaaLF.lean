
-- What a search leaves, plainly: a fixed point; sizes; beginnings.
import Derived.Test.YtnnpdomfkedhpaaLQ
namespace Go.Proofs.Ytnnpdomfkedhpaa
set_option linter.unusedVariables false
set_option maxRecDepth 100000
theorem iter_fixed {Ls : List (Int × Lb)} {f : Lk → Lk} (hf : ∀ s, Goes Ls s (f s)) (n : Nat) : ∀ s, muN Ls s < n → f (iterN f n s) = iterN f n s := by
  induction n with
  | zero => intro s h; omega
  | succ n ih =>
    intro s h
    unfold iterN
    split
    · rename_i e
      have := (hf s).same e
      rw [this, this]
    · rename_i e
      have h1 := (hf s).mu; have h2 := (hf s).len
      exact ih (f s) (by omega)
theorem group_fixed (Ls : List (Int × Lb)) (s : Lk) : roundN Ls (groupN Ls s) = groupN Ls s := iter_fixed (fun s => round_goes Ls s) _ s (by have := mu_le Ls s; omega)
theorem round_fixed {Ls : List (Int × Lb)} (l : List (Int × Lb)) (hl : ∀ x ∈ l, x ∈ Ls) : ∀ s, (l.foldl (fun s x => srchN x.2 x.1 s) s).p.length = s.p.length → ∀ x ∈ l, srchN x.2 x.1 s = s := by
  induction l with
  | nil => intro s _ x hx; simp at hx
  | cons y r ih =>
    intro s h x hx
    rw [List.foldl_cons] at h
    have g1 := srch_goes (hl y (.head _)) s
    have g2 := roundF_goes (Ls := Ls) r (fun z hz => hl z (.tail _ hz)) (srchN y.2 y.1 s)
    have e1 := g1.same (by have := g1.len; have := g2.len; omega)
    rcases List.mem_cons.1 hx with rfl | hx
    · exact e1
    · rw [e1] at h
      exact ih (fun z hz => hl z (.tail _ hz)) s h x hx
theorem srch_fixed {L : Lb} {num : Int} {s : Lk} (h : srchN L num s = s) : passN L num s = s := by
  have g := pass_goes (Ls := [(num, L)]) (L := L) (num := num) (by simp) s
  by_cases e : (passN L num s).p.length = s.p.length
  · exact g.same e
  · have h2 := srch_step e
    have g2 := srch_goes (Ls := [(num, L)]) (L := L) (num := num) (by simp) (passN L num s)
    rw [← h2, h] at g2
    have := g.len; have := g2.len
    omega
theorem pass_fixed {L : Lb} {num : Int} (l : List (ByteArray × Int)) : ∀ s, (l.foldl (oneN L num) s).p.length = s.p.length → ∀ x ∈ l, oneN L num s x = s := by
  induction l with
  | nil => intro s _ x hx; simp at hx
  | cons y r ih =>
    intro s h x hx
    rw [List.foldl_cons] at h
    have g1 := one_goes (Ls := [(num, L)]) (L := L) (num := num) (by simp) s y
    have g2 := fold_goes (Ls := [(num, L)]) (L := L) (num := num) (by simp) r (oneN L num s y)
    have e1 := g1.same (by have := g1.len; have := g2.len; omega)
    rcases List.mem_cons.1 hx with rfl | hx
    · exact e1
    · rw [e1] at h
      exact ih s h x hx
/-- no entry pulls any more -/
theorem group_quiet {Ls : List (Int × Lb)} {s : Lk} {num : Int} {L : Lb} (hL : (num, L) ∈ Ls) {x : ByteArray × Int} (hx : x ∈ L.e) : oneN L num (groupN Ls s) x = groupN Ls s := by
  have h1 := group_fixed Ls s
  have h2 := round_fixed (Ls := Ls) Ls (fun _ h => h) (groupN Ls s) (by show (roundN Ls _).p.length = _; rw [h1]) (num, L) hL
  have h3 := srch_fixed h2
  exact pass_fixed L.e (groupN Ls s) (by show (passN L num _).p.length = _; rw [h3]) x hx
theorem quiet_pulled {L : Lb} {num : Int} {s : Lk} {x : ByteArray × Int} (h : oneN L num s x = s) (hw : isIn s.w x.1 = true) {i : Nat} (hi : idx L.a x.2 = some i) : isIn s.p (num, x.2) = true := by
  unfold oneN at h
  rw [if_pos hw, hi] at h
  simp only at h
  by_cases hq : isIn s.p (num, x.2) = true
  · exact hq
  · rw [if_neg hq] at h
    have := congrArg (fun t => t.p.length) h
    simp only [pullN_p, List.length_append, List.length_cons, List.length_nil] at this
    omega
theorem group_again (Ls : List (Int × Lb)) (s : Lk) : groupN Ls (groupN Ls s) = groupN Ls s := by
  have h := group_fixed Ls s
  rw [group_stop (by rw [h]), h]
/-- what was defined stands at the front -/
def PreD (s t : Lk) : Prop := ∃ q, t.d = s.d ++ q
theorem PreD.refl (s : Lk) : PreD s s := ⟨[], by simp⟩
theorem PreD.trans {s t u : Lk} (h : PreD s t) (k : PreD t u) : PreD s u := by
  obtain ⟨q, e⟩ := h; obtain ⟨q', e'⟩ := k
  exact ⟨q ++ q', by rw [e', e, List.append_assoc]⟩
theorem foldD_pre (l : List ByteArray) : ∀ s, PreD s (l.foldl defN s) := by
  induction l with
  | nil => intro s; exact PreD.refl _
  | cons x r ih =>
    intro s
    rw [List.foldl_cons]
    refine PreD.trans ?_ (ih _)
    unfold defN PreD
    simp only
    split
    · exact ⟨[], by simp⟩
    · exact ⟨[x], rfl⟩
theorem foldW_d2 (l : List ByteArray) : ∀ s : Lk, (l.foldl wantN s).d = s.d := by
  induction l with
  | nil => intro s; rfl
  | cons x r ih =>
    intro s
    rw [List.foldl_cons, ih]
    unfold wantN; split <;> rfl
theorem pull_pre (s : Lk) (x : Int × Int) (ds ns : List ByteArray) : PreD s (pullN s x ds ns) := by
  unfold pullN PreD
  rw [foldW_d2]
  exact foldD_pre ds ⟨s.d, s.w, s.p ++ [x]⟩
theorem one_pre (L : Lb) (num : Int) (s : Lk) (x : ByteArray × Int) : PreD s (oneN L num s x) := by
  unfold oneN
  split
  · cases hj : idx L.a x.2 with
    | none => exact PreD.refl _
    | some i =>
      simp only
      split
      · exact PreD.refl _
      · exact pull_pre _ _ _ _
  · exact PreD.refl _
theorem foldO_pre (L : Lb) (num : Int) (l : List (ByteArray × Int)) : ∀ s, PreD s (l.foldl (oneN L num) s) := by
  induction l with
  | nil => intro s; exact PreD.refl _
  | cons x r ih => intro s; rw [List.foldl_cons]; exact (one_pre L num s x).trans (ih _)
theorem iter_pre {f : Lk → Lk} (hf : ∀ s, PreD s (f s)) (n : Nat) : ∀ s, PreD s (iterN f n s) := by
  induction n with
  | zero => intro s; exact PreD.refl _
  | succ n ih =>
    intro s
    unfold iterN
    split
    · exact hf s
    · exact (hf s).trans (ih _)
theorem srch_pre (L : Lb) (num : Int) (s : Lk) : PreD s (srchN L num s) := iter_pre (fun s => foldO_pre L num L.e s) _ s
theorem round_pre (l : List (Int × Lb)) : ∀ s, PreD s (roundN l s) := by
  unfold roundN
  induction l with
  | nil => intro s; exact PreD.refl _
  | cons x r ih => intro s; rw [List.foldl_cons]; exact (srch_pre _ _ s).trans (ih _)
theorem group_pre (Ls : List (Int × Lb)) (s : Lk) : PreD s (groupN Ls s) := iter_pre (fun s => round_pre Ls s) _ s
/-- sizes -/
def Siz (K M : Nat) (s : Lk) : Prop := s.d.length ≤ K + M * s.p.length ∧ s.w.length ≤ K + M * s.p.length
theorem woN_len (l : List ByteArray) (x : ByteArray) : (woN l x).length ≤ l.length := by unfold woN; exact List.length_filter_le _ _
theorem foldD_w (l : List ByteArray) : ∀ s, (l.foldl defN s).w.length ≤ s.w.length := by
  induction l with
  | nil => intro s; exact Nat.le_refl _
  | cons x r ih => intro s; rw [List.foldl_cons]; exact Nat.le_trans (ih _) (woN_len _ _)
theorem foldW_w (l : List ByteArray) : ∀ s, (l.foldl wantN s).w.length ≤ s.w.length + l.length := by
  induction l with
  | nil => intro s; simp
  | cons x r ih =>
    intro s
    rw [List.foldl_cons]
    have h1 := ih (wantN s x)
    have h2 : (wantN s x).w.length ≤ s.w.length + 1 := by unfold wantN; split <;> simp
    simp only [List.length_cons]; omega
theorem foldD_len2 (l : List ByteArray) : ∀ s : Lk, (l.foldl defN s).d.length ≤ s.d.length + l.length := by
  induction l with
  | nil => intro s; simp
  | cons x r ih =>
    intro s; rw [List.foldl_cons]
    have h1 := ih (defN s x)
    have h2 : (defN s x).d.length ≤ s.d.length + 1 := by unfold defN; simp only; split <;> simp
    simp only [List.length_cons]; omega
theorem getD_len {LL : List (List ByteArray)} {M : Nat} (h : ∀ l ∈ LL, l.length ≤ M) (k : Nat) : (LL.getD k []).length ≤ M := by
  rw [List.getD_eq_getElem?_getD]
  cases e : LL[k]? with
  | none => simp
  | some l => exact h l (List.mem_of_getElem? e)
theorem one_siz {L : Lb} {num : Int} {K M : Nat} (h1 : ∀ l ∈ L.df, l.length ≤ M) (h2 : ∀ l ∈ L.nd, l.length ≤ M) {s : Lk} (h : Siz K M s) (x : ByteArray × Int) : Siz K M (oneN L num s x) := by
  unfold oneN
  split
  · cases hj : idx L.a x.2 with
    | none => exact h
    | some i =>
      simp only
      split
      · exact h
      · unfold Siz
        rw [pullN_p]
        have e1 := foldD_len2 (L.df.getD i []) ⟨s.d, s.w, s.p ++ [(num, x.2)]⟩
        have e2 := foldD_w (L.df.getD i []) ⟨s.d, s.w, s.p ++ [(num, x.2)]⟩
        have e3 := foldW_w (L.nd.getD i []) ((L.df.getD i []).foldl defN ⟨s.d, s.w, s.p ++ [(num, x.2)]⟩)
        have g1 := getD_len h1 i
        have g2 := getD_len h2 i
        have hd : (pullN s (num, x.2) (L.df.getD i []) (L.nd.getD i [])).d = ((L.df.getD i []).foldl defN ⟨s.d, s.w, s.p ++ [(num, x.2)]⟩).d := by unfold pullN; exact foldW_d2 _ _
        have hw : (pullN s (num, x.2) (L.df.getD i []) (L.nd.getD i [])).w = ((L.nd.getD i []).foldl wantN ((L.df.getD i []).foldl defN ⟨s.d, s.w, s.p ++ [(num, x.2)]⟩)).w := rfl
        obtain ⟨k1, k2⟩ := h
        simp only at e1 e2
        rw [hd, hw, List.length_append, List.length_singleton, Nat.mul_add, Nat.mul_one]
        omega
  · exact h
theorem foldO_siz {L : Lb} {num : Int} {K M : Nat} (h1 : ∀ l ∈ L.df, l.length ≤ M) (h2 : ∀ l ∈ L.nd, l.length ≤ M) (l : List (ByteArray × Int)) : ∀ s, Siz K M s → Siz K M (l.foldl (oneN L num) s) := by
  induction l with
  | nil => intro s h; exact h
  | cons x r ih => intro s h; rw [List.foldl_cons]; exact ih _ (one_siz h1 h2 h x)
theorem iter_siz {K M : Nat} {f : Lk → Lk} (hf : ∀ s, Siz K M s → Siz K M (f s)) (n : Nat) : ∀ s, Siz K M s → Siz K M (iterN f n s) := by
  induction n with
  | zero => intro s h; exact h
  | succ n ih =>
    intro s h
    unfold iterN
    split
    · exact hf s h
    · exact ih _ (hf s h)
theorem group_siz {Ls : List (Int × Lb)} {K M : Nat} (hm : ∀ x ∈ Ls, (∀ l ∈ x.2.df, l.length ≤ M) ∧ ∀ l ∈ x.2.nd, l.length ≤ M) {s : Lk} (h : Siz K M s) : Siz K M (groupN Ls s) := by
  refine iter_siz (fun t ht => ?_) _ s h
  unfold roundN
  revert hm t
  induction Ls with
  | nil => intro _ t ht; exact ht
  | cons x r ih =>
    intro hm t ht
    rw [List.foldl_cons]
    refine ih (fun y hy => hm y (.tail _ hy)) _ (iter_siz (fun u hu => foldO_siz (hm x (.head _)).1 (hm x (.head _)).2 _ u hu) _ t ht)
end Go.Proofs.Ytnnpdomfkedhpaa
