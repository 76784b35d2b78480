
-- Nothing is pulled in for nothing, and nothing twice: plainly.
import Derived.Test.YtnnpdomfkedhpaaLF
namespace Go.Proofs.Ytnnpdomfkedhpaa
set_option linter.unusedVariables false
set_option maxRecDepth 100000
theorem foldD_mem (l : List ByteArray) : ∀ (s : Lk) (n : ByteArray), n ∈ (l.foldl defN s).w → n ∈ s.w := by
  induction l with
  | nil => intro s n h; exact h
  | cons x r ih => intro s n h; rw [List.foldl_cons] at h; exact (mem_woN.1 (ih _ n h)).1
theorem foldW_mem (l : List ByteArray) : ∀ (s : Lk) (n : ByteArray), n ∈ (l.foldl wantN s).w → n ∈ s.w ∨ n ∈ l := by
  induction l with
  | nil => intro s n h; exact .inl h
  | cons x r ih =>
    intro s n h
    rw [List.foldl_cons] at h
    rcases ih _ n h with q | q
    · unfold wantN at q
      split at q
      · exact .inl q
      · rcases List.mem_append.1 q with q | q
        · exact .inl q
        · exact .inr (by rw [List.mem_singleton.1 q]; exact .head _)
    · exact .inr (.tail _ q)
/-- each new place is a member's, was not there before, and was asked for -/
structure Cld (Ls : List (Int × Lb)) (nd : Int × Int → List ByteArray) (s t : Lk) (q : List (Int × Int)) : Prop where
  p : t.p = s.p ++ q
  w : ∀ n ∈ t.w, n ∈ s.w ++ q.flatMap nd
  e : ∀ k x, q[k]? = some x → x ∉ s.p ++ q.take k ∧ ∃ L i n, (x.1, L) ∈ Ls ∧ idx L.a x.2 = some i ∧ (n, x.2) ∈ L.e ∧ n ∈ s.w ++ (q.take k).flatMap nd
def CldE (Ls : List (Int × Lb)) (nd : Int × Int → List ByteArray) (s t : Lk) : Prop := ∃ q, Cld Ls nd s t q
section
variable {Ls : List (Int × Lb)} {nd : Int × Int → List ByteArray} {s : Lk}
theorem cld_refl : CldE Ls nd s s := ⟨[], by simp, fun n h => by simpa using h, fun k x h => by simp at h⟩
theorem cld_one (hnd : ∀ x ∈ Ls, ∀ a i, idx x.2.a a = some i → nd (x.1, a) = x.2.nd.getD i []) {num : Int} {L : Lb} (hL : (num, L) ∈ Ls) {t : Lk} (h : CldE Ls nd s t) {x : ByteArray × Int} (hx : x ∈ L.e) : CldE Ls nd s (oneN L num t x) := by
  obtain ⟨q, h⟩ := h
  unfold oneN
  split
  · rename_i hw
    cases hj : idx L.a x.2 with
    | none => exact ⟨q, h⟩
    | some i =>
      simp only
      by_cases hq : isIn t.p (num, x.2) = true
      · rw [if_pos hq]; exact ⟨q, h⟩
      · rw [if_neg hq]
        have hn : (num, x.2) ∉ t.p := fun z => hq (isIn_iff.2 z)
        have hnn := hnd _ hL x.2 i hj
        refine ⟨q ++ [(num, x.2)], ?_, fun n hm => ?_, fun k y hy => ?_⟩
        · rw [pullN_p, h.p, List.append_assoc]
        · rw [List.flatMap_append, List.flatMap_singleton, hnn]
          unfold pullN at hm
          rcases foldW_mem _ _ n hm with z | z
          · have z2 := foldD_mem _ _ n z
            have z3 := h.w n z2
            rw [List.mem_append] at z3 ⊢
            rcases z3 with z3 | z3
            · exact .inl z3
            · exact .inr (List.mem_append.2 (.inl z3))
          · exact List.mem_append.2 (.inr (List.mem_append.2 (.inr z)))
        · by_cases hk : k < q.length
          · rw [List.getElem?_append_left hk] at hy
            have := h.e k y hy
            rw [List.take_append_of_le_length (by omega)]
            exact this
          · have hk2 : k = q.length := by
              have := (List.getElem?_eq_some_iff.1 hy).1
              simp at this; omega
            subst hk2
            rw [List.getElem?_append_right (Nat.le_refl _), Nat.sub_self] at hy
            simp at hy
            subst hy
            rw [List.take_left]
            refine ⟨by rw [← h.p]; exact hn, L, i, x.1, hL, hj, hx, h.w x.1 (isIn_iff.1 hw)⟩
  · exact ⟨q, h⟩
theorem cld_fold (hnd : ∀ x ∈ Ls, ∀ a i, idx x.2.a a = some i → nd (x.1, a) = x.2.nd.getD i []) {num : Int} {L : Lb} (hL : (num, L) ∈ Ls) (l : List (ByteArray × Int)) : (∀ x ∈ l, x ∈ L.e) → ∀ t, CldE Ls nd s t → CldE Ls nd s (l.foldl (oneN L num) t) := by
  induction l with
  | nil => intro _ t h; exact h
  | cons x r ih => intro hl t h; rw [List.foldl_cons]; exact ih (fun y hy => hl y (.tail _ hy)) _ (cld_one hnd hL h (hl x (.head _)))
theorem iter_ind {P : Lk → Prop} {f : Lk → Lk} (hf : ∀ t, P t → P (f t)) (n : Nat) : ∀ t, P t → P (iterN f n t) := by
  induction n with
  | zero => intro t h; exact h
  | succ n ih =>
    intro t h
    unfold iterN
    split
    · exact hf t h
    · exact ih _ (hf t h)
theorem round_ind {P : Lk → Prop} (l : List (Int × Lb)) : (∀ x ∈ l, ∀ t, P t → P (passN x.2 x.1 t)) → ∀ t, P t → P (roundN l t) := by
  unfold roundN
  induction l with
  | nil => intro _ t h; exact h
  | cons x r ih =>
    intro hf t h
    rw [List.foldl_cons]
    exact ih (fun y hy => hf y (.tail _ hy)) _ (iter_ind (hf x (.head _)) _ t h)
theorem group_ind {P : Lk → Prop} (hf : ∀ x ∈ Ls, ∀ t, P t → P (passN x.2 x.1 t)) {t : Lk} (h : P t) : P (groupN Ls t) := iter_ind (fun u hu => round_ind Ls hf u hu) _ t h
theorem cld_group (hnd : ∀ x ∈ Ls, ∀ a i, idx x.2.a a = some i → nd (x.1, a) = x.2.nd.getD i []) : CldE Ls nd s (groupN Ls s) :=
  group_ind (fun x hx t ht => cld_fold hnd (num := x.1) (L := x.2) hx x.2.e (fun _ h => h) t ht) cld_refl
end
/-- what the member at a place needs -/
def ndF (Ls : List Lb) (x : Int × Int) : List ByteArray := match Ls[x.1.toNat]? with
  | none => []
  | some L => match idx L.a x.2 with
    | none => []
    | some i => L.nd.getD i []
end Go.Proofs.Ytnnpdomfkedhpaa
