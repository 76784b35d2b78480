
-- Searches, plainly: passes and rounds come to their end.
import Derived.Test.YtnnpdomfkedhpaaLK
namespace Go.Proofs.Ytnnpdomfkedhpaa
set_option linter.unusedVariables false
set_option maxRecDepth 100000
def iterN (f : Lk → Lk) : Nat → Lk → Lk
  | 0, s => s
  | n + 1, s => if (f s).p.length = s.p.length then f s else iterN f n (f s)
/-- the places of a library that are not pulled in -/
def freeN (L : Lb) (num : Int) (s : Lk) : Nat := (L.a.filter (fun a => !isIn s.p (num, a))).length
def muN (Ls : List (Int × Lb)) (s : Lk) : Nat := (Ls.map fun x => freeN x.2 x.1 s).sum
def srchN (L : Lb) (num : Int) (s : Lk) : Lk := iterN (passN L num) (L.a.length + 1) s
def roundN (Ls : List (Int × Lb)) (s : Lk) : Lk := Ls.foldl (fun s x => srchN x.2 x.1 s) s
def sizesN (Ls : List (Int × Lb)) : Nat := (Ls.map fun x => x.2.a.length).sum
def groupN (Ls : List (Int × Lb)) (s : Lk) : Lk := iterN (roundN Ls) (sizesN Ls + 1) s
/-- goes on from s to t: what was pulled stays at the front, and each new place takes one away -/
structure Goes (Ls : List (Int × Lb)) (s t : Lk) : Prop where
  pre : ∃ q, t.p = s.p ++ q
  mu : muN Ls t + t.p.length ≤ muN Ls s + s.p.length
  same : t.p.length = s.p.length → t = s
theorem Goes.refl (Ls : List (Int × Lb)) (s : Lk) : Goes Ls s s := ⟨⟨[], by simp⟩, Nat.le_refl _, fun _ => rfl⟩
theorem Goes.len {Ls : List (Int × Lb)} {s t : Lk} (h : Goes Ls s t) : s.p.length ≤ t.p.length := by
  obtain ⟨q, e⟩ := h.pre
  rw [e]; simp
theorem Goes.trans {Ls : List (Int × Lb)} {s t u : Lk} (h : Goes Ls s t) (k : Goes Ls t u) : Goes Ls s u := by
  refine ⟨?_, Nat.le_trans k.mu h.mu, fun e => ?_⟩
  · obtain ⟨q, e⟩ := h.pre; obtain ⟨q', e'⟩ := k.pre
    exact ⟨q ++ q', by rw [e', e, List.append_assoc]⟩
  · have h1 := h.len; have h2 := k.len
    have e1 := h.same (by omega)
    have e2 := k.same (by omega)
    rw [e2, e1]
theorem mem_of_idx {A : List Int} {x : Int} {i : Nat} (h : idx A x = some i) : A[i]? = some x := by
  unfold idx at h
  obtain ⟨hl, hp, _⟩ := List.findIdx?_eq_some_iff_getElem.1 h
  rw [List.getElem?_eq_getElem hl]
  simpa using hp
theorem free_mono (L : Lb) (num : Int) {s t : Lk} (h : ∀ x ∈ s.p, x ∈ t.p) : freeN L num t ≤ freeN L num s := by
  unfold freeN
  induction L.a with
  | nil => simp
  | cons a r ih =>
    rw [List.filter_cons, List.filter_cons]
    by_cases h1 : isIn s.p (num, a) = true
    · have h2 : isIn t.p (num, a) = true := isIn_iff.2 (h _ (isIn_iff.1 h1))
      simp only [h1, h2, Bool.not_true]; simpa using ih
    · have h1' : isIn s.p (num, a) = false := by simpa using h1
      simp only [h1', Bool.not_false, if_true, List.length_cons]
      split <;> (try simp only [List.length_cons]) <;> omega
theorem free_less (L : Lb) (num : Int) {s t : Lk} {x : Int} (hx : x ∈ L.a) (hn : (num, x) ∉ s.p) (h : t.p = s.p ++ [(num, x)]) : freeN L num t + 1 ≤ freeN L num s := by
  unfold freeN
  revert hx
  generalize L.a = A
  intro hx
  induction A with
  | nil => simp at hx
  | cons a r ih =>
    have mono : ∀ l : List Int, (l.filter (fun a => !isIn t.p (num, a))).length ≤ (l.filter (fun a => !isIn s.p (num, a))).length := fun l => free_mono ⟨[], l, [], [], []⟩ num (fun y hy => by rw [h]; simp [hy])
    rw [List.filter_cons, List.filter_cons]
    by_cases e : a = x
    · subst e
      have h1 : isIn s.p (num, a) = false := isIn_no.2 hn
      have h2 : isIn t.p (num, a) = true := isIn_iff.2 (by rw [h]; simp)
      simp only [h1, h2, Bool.not_true, Bool.not_false, if_true, List.length_cons]
      have := mono r
      simpa using this
    · have hr : x ∈ r := by
        rcases List.mem_cons.1 hx with q | q
        · exact absurd q.symm e
        · exact q
      have ih' := ih hr
      have e2 : isIn t.p (num, a) = isIn s.p (num, a) := by
        apply isIn_congr; rw [h]; simp [e]
      rw [e2]
      split <;> (try simp only [List.length_cons]) <;> omega
theorem mu_less {Ls : List (Int × Lb)} {L : Lb} {num : Int} (hL : (num, L) ∈ Ls) {s t : Lk} {x : Int} (hx : x ∈ L.a) (hn : (num, x) ∉ s.p) (h : t.p = s.p ++ [(num, x)]) : muN Ls t + 1 ≤ muN Ls s := by
  have hm : ∀ y ∈ s.p, y ∈ t.p := fun y hy => by rw [h]; simp [hy]
  have mono : ∀ l : List (Int × Lb), muN l t ≤ muN l s := by
    intro l
    induction l with
    | nil => simp [muN]
    | cons y r ih =>
      have := free_mono y.2 y.1 hm
      unfold muN at ih ⊢
      simp only [List.map_cons, List.sum_cons]; omega
  induction Ls with
  | nil => simp at hL
  | cons y r ih =>
    unfold muN at ih ⊢
    simp only [List.map_cons, List.sum_cons]
    rcases List.mem_cons.1 hL with e | e
    · subst e
      have h1 := free_less L num hx hn h
      have h2 := mono r
      unfold muN at h2
      simp only; omega
    · have h1 := ih e
      have h2 := free_mono y.2 y.1 hm
      omega
theorem one_goes {Ls : List (Int × Lb)} {L : Lb} {num : Int} (hL : (num, L) ∈ Ls) (s : Lk) (x : ByteArray × Int) : Goes Ls s (oneN L num s x) := by
  unfold oneN
  split
  · cases hj : idx L.a x.2 with
    | none => exact Goes.refl _ _
    | some i =>
      simp only
      by_cases hq : isIn s.p (num, x.2) = true
      · rw [if_pos hq]; exact Goes.refl _ _
      · rw [if_neg hq]
        have hn : (num, x.2) ∉ s.p := fun q => hq (isIn_iff.2 q)
        have hx : x.2 ∈ L.a := List.mem_of_getElem? (mem_of_idx hj)
        have e := pullN_p s (num, x.2) (L.df.getD i []) (L.nd.getD i [])
        have h1 := mu_less hL hx hn e
        refine ⟨⟨_, e⟩, ?_, fun q => ?_⟩
        · rw [e] at *; simp only [List.length_append, List.length_cons, List.length_nil]; omega
        · rw [e] at q; simp at q
  · exact Goes.refl _ _
theorem fold_goes {Ls : List (Int × Lb)} {L : Lb} {num : Int} (hL : (num, L) ∈ Ls) (l : List (ByteArray × Int)) : ∀ s, Goes Ls s (l.foldl (oneN L num) s) := by
  induction l with
  | nil => intro s; exact Goes.refl _ _
  | cons x r ih => intro s; rw [List.foldl_cons]; exact (one_goes hL s x).trans (ih _)
theorem pass_goes {Ls : List (Int × Lb)} {L : Lb} {num : Int} (hL : (num, L) ∈ Ls) (s : Lk) : Goes Ls s (passN L num s) := fold_goes hL L.e s
theorem iter_goes {Ls : List (Int × Lb)} {f : Lk → Lk} (hf : ∀ s, Goes Ls s (f s)) (n : Nat) : ∀ s, Goes Ls s (iterN f n s) := by
  induction n with
  | zero => intro s; exact Goes.refl _ _
  | succ n ih =>
    intro s
    unfold iterN
    split
    · exact hf s
    · exact (hf s).trans (ih _)
theorem iter_enough {Ls : List (Int × Lb)} {f : Lk → Lk} (hf : ∀ s, Goes Ls s (f s)) : ∀ (n m : Nat) (s : Lk), muN Ls s < n → muN Ls s < m → iterN f n s = iterN f m s := by
  intro n
  induction n with
  | zero => intro m s h; omega
  | succ n ih =>
    intro m s h1 h2
    cases m with
    | zero => omega
    | succ m =>
      unfold iterN
      split
      · rfl
      · rename_i hne
        have h3 := (hf s).mu
        have h4 := (hf s).len
        exact ih m (f s) (by omega) (by omega)
theorem iter_step {Ls : List (Int × Lb)} {f : Lk → Lk} (hf : ∀ s, Goes Ls s (f s)) {N : Nat} (hN : ∀ s, muN Ls s ≤ N) {s : Lk} (h : (f s).p.length ≠ s.p.length) : iterN f (N + 1) s = iterN f (N + 1) (f s) := by
  have e : iterN f (N + 1) s = iterN f N (f s) := by
    conv => lhs; unfold iterN
    rw [if_neg h]
  rw [e]
  have h3 := (hf s).mu
  have h4 := (hf s).len
  have h5 := hN s
  exact iter_enough hf _ _ _ (by omega) (by have := hN (f s); omega)
theorem iter_stop {f : Lk → Lk} {N : Nat} {s : Lk} (h : (f s).p.length = s.p.length) : iterN f (N + 1) s = f s := by
  unfold iterN; rw [if_pos h]
theorem free_le (L : Lb) (num : Int) (s : Lk) : freeN L num s ≤ L.a.length := by unfold freeN; exact List.length_filter_le _ _
theorem mu_le (Ls : List (Int × Lb)) (s : Lk) : muN Ls s ≤ sizesN Ls := by
  unfold muN sizesN
  induction Ls with
  | nil => simp
  | cons x r ih => have := free_le x.2 x.1 s; simp only [List.map_cons, List.sum_cons]; omega
/-- a search is of its library alone -/
theorem srch_step {L : Lb} {num : Int} {s : Lk} (h : (passN L num s).p.length ≠ s.p.length) : srchN L num s = srchN L num (passN L num s) :=
  iter_step (Ls := [(num, L)]) (fun s => pass_goes (by simp) s) (fun s => by have := mu_le [(num, L)] s; simpa [sizesN] using this) h
theorem srch_stop {L : Lb} {num : Int} {s : Lk} (h : (passN L num s).p.length = s.p.length) : srchN L num s = passN L num s := iter_stop h
theorem srch_goes {Ls : List (Int × Lb)} {L : Lb} {num : Int} (hL : (num, L) ∈ Ls) (s : Lk) : Goes Ls s (srchN L num s) := iter_goes (fun s => pass_goes hL s) _ s
theorem roundF_goes {Ls : List (Int × Lb)} (l : List (Int × Lb)) (hl : ∀ x ∈ l, x ∈ Ls) : ∀ s, Goes Ls s (l.foldl (fun s x => srchN x.2 x.1 s) s) := by
  induction l with
  | nil => intro s; exact Goes.refl _ _
  | cons x r ih =>
    intro s
    rw [List.foldl_cons]
    exact (srch_goes (hl x (.head _)) s).trans (ih (fun y hy => hl y (.tail _ hy)) _)
theorem round_goes (Ls : List (Int × Lb)) (s : Lk) : Goes Ls s (roundN Ls s) := roundF_goes Ls (fun _ h => h) s
theorem group_step {Ls : List (Int × Lb)} {s : Lk} (h : (roundN Ls s).p.length ≠ s.p.length) : groupN Ls s = groupN Ls (roundN Ls s) :=
  iter_step (fun s => round_goes Ls s) (fun s => mu_le Ls s) h
theorem group_stop {Ls : List (Int × Lb)} {s : Lk} (h : (roundN Ls s).p.length = s.p.length) : groupN Ls s = roundN Ls s := iter_stop h
theorem group_goes (Ls : List (Int × Lb)) (s : Lk) : Goes Ls s (groupN Ls s) := iter_goes (fun s => round_goes Ls s) _ s
end Go.Proofs.Ytnnpdomfkedhpaa
