
-- Merges, plainly; rows with their numbers.
import Derived.Test.YtbmdclgndlddbaaSI
import Derived.Shelf.SlSortCmp.Insertion
namespace Go.Proofs.Ytbmdclgndlddbaa
open Go.Sort
set_option linter.unusedVariables false
set_option maxRecDepth 100000
def mrg {α : Type} (lt : α → α → Bool) : List α → List α → List α
  | [], B => B
  | a :: A, [] => a :: A
  | a :: A, b :: B => if lt b a = true then b :: mrg lt (a :: A) B else a :: mrg lt A (b :: B)
termination_by A B => A.length + B.length
section
variable {α β : Type} {lt : α → α → Bool}
theorem mrg_nilL (B : List α) : mrg lt [] B = B := by unfold mrg; rfl
theorem mrg_nilR (A : List α) : mrg lt A [] = A := by
  cases A with
  | nil => exact mrg_nilL []
  | cons a A => unfold mrg; rfl
theorem mrg_yes {a b : α} {A B : List α} (h : lt b a = true) : mrg lt (a :: A) (b :: B) = b :: mrg lt (a :: A) B := by
  rw [mrg, if_pos h]
theorem mrg_no {a b : α} {A B : List α} (h : lt b a = false) : mrg lt (a :: A) (b :: B) = a :: mrg lt A (b :: B) := by
  rw [mrg, if_neg (by rw [h]; decide)]
theorem mrg_ok {C R : α → α → Prop} (H : Cmp lt C R) : ∀ (n : Nat) (A B : List α), A.length + B.length ≤ n → A.Pairwise R → B.Pairwise R → (∀ a ∈ A, ∀ b ∈ B, C a b) → (mrg lt A B).Perm (A ++ B) ∧ (mrg lt A B).Pairwise R := by
  intro n
  induction n with
  | zero =>
    intro A B h _ _ _
    obtain rfl : A = [] := List.eq_nil_of_length_eq_zero (by omega)
    obtain rfl : B = [] := List.eq_nil_of_length_eq_zero (by omega)
    rw [mrg_nilL]; exact ⟨List.Perm.refl _, by simp⟩
  | succ n ih =>
    intro A B hn hA hB hC
    cases A with
    | nil => rw [mrg_nilL]; exact ⟨List.Perm.refl _, hB⟩
    | cons a A =>
      cases B with
      | nil => rw [mrg_nilR]; exact ⟨by simp, hA⟩
      | cons b B =>
        simp only [List.length_cons] at hn
        have hab := hC a List.mem_cons_self b List.mem_cons_self
        rw [List.pairwise_cons] at hA hB
        cases hl : lt b a with
        | true =>
          have hba := H.yes a b hab hl
          obtain ⟨p, q⟩ := ih (a :: A) B (by simp only [List.length_cons]; omega) (List.pairwise_cons.2 hA) hB.2 (fun x hx y hy => hC x hx y (List.mem_cons_of_mem _ hy))
          rw [mrg_yes hl]
          refine ⟨(p.cons b).trans (List.perm_middle (l₁ := a :: A)).symm, List.pairwise_cons.2 ⟨fun x hx => ?_, q⟩⟩
          rcases List.mem_append.1 (p.mem_iff.1 hx) with hx | hx
          · rcases List.mem_cons.1 hx with rfl | hx
            · exact hba
            · exact H.tr _ _ _ hba (hA.1 x hx)
          · exact hB.1 x hx
        | false =>
          have hba := H.no a b hab hl
          obtain ⟨p, q⟩ := ih A (b :: B) (by simp only [List.length_cons]; omega) hA.2 (List.pairwise_cons.2 hB) (fun x hx y hy => hC x (List.mem_cons_of_mem _ hx) y hy)
          rw [mrg_no hl]
          refine ⟨p.cons a, List.pairwise_cons.2 ⟨fun x hx => ?_, q⟩⟩
          rcases List.mem_append.1 (p.mem_iff.1 hx) with hx | hx
          · exact hA.1 x hx
          · rcases List.mem_cons.1 hx with rfl | hx
            · exact hba
            · exact H.tr _ _ _ hba (hB.1 x hx)
theorem mrg_map {lt' : β → β → Bool} (f : α → β) (hf : ∀ x y, lt x y = lt' (f x) (f y)) : ∀ (n : Nat) (A B : List α), A.length + B.length ≤ n → (mrg lt A B).map f = mrg lt' (A.map f) (B.map f) := by
  intro n
  induction n with
  | zero =>
    intro A B h
    obtain rfl : A = [] := List.eq_nil_of_length_eq_zero (by omega)
    obtain rfl : B = [] := List.eq_nil_of_length_eq_zero (by omega)
    rw [mrg_nilL]; simp [mrg_nilL]
  | succ n ih =>
    intro A B hn
    cases A with
    | nil => rw [mrg_nilL, List.map_nil, mrg_nilL]
    | cons a A =>
      cases B with
      | nil => rw [mrg_nilR, List.map_nil, mrg_nilR]
      | cons b B =>
        simp only [List.length_cons] at hn
        cases hl : lt b a with
        | true =>
          have h2 : lt' (f b) (f a) = true := by rw [← hf]; exact hl
          rw [mrg_yes hl, List.map_cons, ih (a :: A) B (by simp only [List.length_cons]; omega), List.map_cons, List.map_cons, mrg_yes h2]
        | false =>
          have h2 : lt' (f b) (f a) = false := by rw [← hf]; exact hl
          rw [mrg_no hl, List.map_cons, ih A (b :: B) (by simp only [List.length_cons]; omega), List.map_cons, List.map_cons, mrg_no h2]
def ordG (lt : α → α → Bool) : Nat → List α → List α
  | 0, L => L
  | f + 1, L => if L.length < 2 then L else mrg lt (ordG lt f (L.take (L.length / 2))) (ordG lt f (L.drop (L.length / 2)))
theorem ordG_ok {C R : α → α → Prop} (H : Cmp lt C R) : ∀ (f : Nat) (L : List α), L.length ≤ f → L.Pairwise C → (ordG lt f L).Perm L ∧ (ordG lt f L).Pairwise R := by
  intro f
  induction f with
  | zero =>
    intro L h hC
    obtain rfl : L = [] := List.eq_nil_of_length_eq_zero (by omega)
    exact ⟨List.Perm.refl _, by simp [ordG]⟩
  | succ f ih =>
    intro L h hC
    unfold ordG
    by_cases hl : L.length < 2
    · rw [if_pos hl]
      refine ⟨List.Perm.refl _, ?_⟩
      match L, hl with
      | [], _ => simp
      | [x], _ => simp
    · rw [if_neg hl]
      have e : L = L.take (L.length / 2) ++ L.drop (L.length / 2) := (List.take_append_drop _ _).symm
      have hC2 := hC
      rw [e] at hC2
      obtain ⟨c1, c2, c3⟩ := List.pairwise_append.1 hC2
      obtain ⟨p1, q1⟩ := ih (L.take (L.length / 2)) (by rw [List.length_take]; omega) c1
      obtain ⟨p2, q2⟩ := ih (L.drop (L.length / 2)) (by rw [List.length_drop]; omega) c2
      obtain ⟨p, q⟩ := mrg_ok H _ _ _ (Nat.le_refl _) q1 q2 (fun a ha b hb => c3 a (p1.mem_iff.1 ha) b (p2.mem_iff.1 hb))
      refine ⟨(p.trans (p1.append p2)).trans ?_, q⟩
      rw [← e]
theorem ordG_map {lt' : β → β → Bool} (f : α → β) (hf : ∀ x y, lt x y = lt' (f x) (f y)) : ∀ (n : Nat) (L : List α), (ordG lt n L).map f = ordG lt' n (L.map f) := by
  intro n
  induction n with
  | zero => intro L; rfl
  | succ n ih =>
    intro L
    unfold ordG
    rw [List.length_map]
    by_cases hl : L.length < 2
    · rw [if_pos hl, if_pos hl]
    · rw [if_neg hl, if_neg hl, mrg_map f hf _ _ _ (Nat.le_refl _), ih, ih, List.map_take, List.map_drop]
theorem ordG_fuel : ∀ (f g : Nat) (L : List α), L.length ≤ f → L.length ≤ g → ordG lt f L = ordG lt g L := by
  intro f
  induction f with
  | zero =>
    intro g L h _
    obtain rfl : L = [] := List.eq_nil_of_length_eq_zero (by omega)
    cases g <;> simp [ordG]
  | succ f ih =>
    intro g L h1 h2
    cases g with
    | zero =>
      obtain rfl : L = [] := List.eq_nil_of_length_eq_zero (by omega)
      simp [ordG]
    | succ g =>
      unfold ordG
      by_cases hl : L.length < 2
      · rw [if_pos hl, if_pos hl]
      · rw [if_neg hl, if_neg hl, ih g _ (by rw [List.length_take]; omega) (by rw [List.length_take]; omega), ih g _ (by rw [List.length_drop]; omega) (by rw [List.length_drop]; omega)]
theorem ordG_step {f : Nat} {L : List α} (h : L.length ≤ f) (hl : ¬ L.length < 2) : ordG lt f L = mrg lt (ordG lt (L.take (L.length / 2)).length (L.take (L.length / 2))) (ordG lt (L.drop (L.length / 2)).length (L.drop (L.length / 2))) := by
  cases f with
  | zero => omega
  | succ f =>
    rw [ordG, if_neg hl]
    congr 1
    · exact ordG_fuel _ _ _ (by rw [List.length_take]; omega) (Nat.le_refl _)
    · exact ordG_fuel _ _ _ (by rw [List.length_drop]; omega) (Nat.le_refl _)
theorem mrg_len : ∀ (n : Nat) (A B : List α), A.length + B.length ≤ n → (mrg lt A B).length = A.length + B.length := by
  intro n
  induction n with
  | zero =>
    intro A B h
    obtain rfl : A = [] := List.eq_nil_of_length_eq_zero (by omega)
    rw [mrg_nilL]; simp
  | succ n ih =>
    intro A B hn
    cases A with
    | nil => rw [mrg_nilL]; simp
    | cons a A =>
      cases B with
      | nil => rw [mrg_nilR]; simp
      | cons b B =>
        simp only [List.length_cons] at hn
        cases hl : lt b a with
        | true => rw [mrg_yes hl, List.length_cons, ih _ _ (by simp only [List.length_cons]; omega)]; simp only [List.length_cons]; omega
        | false => rw [mrg_no hl, List.length_cons, ih _ _ (by simp only [List.length_cons]; omega)]; simp only [List.length_cons]; omega
theorem ordG_len : ∀ (f : Nat) (L : List α), (ordG lt f L).length = L.length := by
  intro f
  induction f with
  | zero => intro L; rfl
  | succ f ih =>
    intro L
    unfold ordG
    by_cases hl : L.length < 2
    · rw [if_pos hl]
    · rw [if_neg hl, mrg_len _ _ _ (Nat.le_refl _), ih, ih, List.length_take, List.length_drop]; omega
end
/-! rows with their numbers -/
abbrev Pr := Rw × Nat
def cfP (num : Bool) (p q : Pr) : Int := cfR num p.1 q.1
def ltR (num : Bool) (x y : Rw) : Bool := decide (cfR num x y < 0)
def CP (p q : Pr) : Prop := p.2 < q.2
def RoP (num : Bool) (p q : Pr) : Prop := LtR num p.1 q.1 ∨ (¬ LtR num q.1 p.1 ∧ p.2 < q.2)
theorem ltP_eq (num : Bool) (p q : Pr) : ltOf (cfP num) p q = ltR num p.1 q.1 := rfl
theorem cmpP (num : Bool) : Cmp (ltOf (cfP num)) CP (RoP num) where
  yes x y _ h := by
    rw [ltP_eq] at h
    exact .inl ((lt_iff num _ _).1 (of_decide_eq_true h))
  no x y hc h := by
    rw [ltP_eq] at h
    exact .inr ⟨fun e => of_decide_eq_false h ((lt_iff num _ _).2 e), hc⟩
  tr x y z h1 h2 := by
    rcases h1 with h1 | ⟨h1, h1'⟩ <;> rcases h2 with h2 | ⟨h2, h2'⟩
    · exact .inl (h1.tr h2)
    · refine .inl (Classical.byContradiction fun hn => LtR.neg hn h2 h1)
    · refine .inl (Classical.byContradiction fun hn => LtR.neg h1 hn h2)
    · exact .inr ⟨LtR.neg h2 h1, Nat.lt_trans h1' h2'⟩
theorem RoP.irr (num : Bool) (x : Pr) : ¬ RoP num x x := by
  rintro (h | ⟨_, h⟩)
  · exact LtR.irr _ _ h
  · exact Nat.lt_irrefl _ h
theorem zip_C (L : List Rw) : ∀ k, (L.zipIdx k).Pairwise CP := by
  induction L with
  | nil => intro k; simp
  | cons a r ih =>
    intro k
    rw [List.zipIdx_cons, List.pairwise_cons]
    refine ⟨fun p hp => ?_, ih (k + 1)⟩
    have := List.le_snd_of_mem_zipIdx hp
    show k < p.2
    omega
theorem zip_fst (L : List Rw) : ∀ k, (L.zipIdx k).map (·.1) = L := by
  induction L with
  | nil => intro k; rfl
  | cons a r ih => intro k; rw [List.zipIdx_cons, List.map_cons, ih]
/-- a row in order, stably: it is one -/
theorem stable_one (num : Bool) (L : List Rw) {D : List Pr} (hp : D.Perm (L.zipIdx 0)) (hs : D.Pairwise (RoP num)) : D.map (·.1) = ordG (ltR num) L.length L := by
  have h := ordG_ok (cmpP num) L.length (L.zipIdx 0) (by simp) (zip_C L 0)
  have e : D = ordG (ltOf (cfP num)) L.length (L.zipIdx 0) := sorted_one (RoP.irr num) (cmpP num).tr (hp.trans h.1.symm) hs h.2
  rw [e, ordG_map (lt' := ltR num) (·.1) (fun x y => ltP_eq num x y), zip_fst]
end Go.Proofs.Ytbmdclgndlddbaa
