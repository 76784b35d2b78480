
-- Plain: a stable sort by merges in place (4): rows of blocks.
import Derived.Test.YtbmdclgndlddbaaSV
namespace Go.Proofs.Ytbmdclgndlddbaa
open Go.Sort
set_option linter.unusedVariables false
set_option maxRecDepth 100000
set_option linter.unusedSimpArgs false
section
variable {α : Type}
/-- the part between x and y holds what it held at first, in order -/
def Blk (R : α → α → Prop) (L0 L : List α) (x y : Nat) : Prop := (seg L x y).Perm (seg L0 x y) ∧ (seg L x y).Pairwise R
theorem blk_keep {R : α → α → Prop} {L0 L L' : List α} {a b x y : Nat} (h : Blk R L0 L x y) (ht : Trn a b L L') (hab : a ≤ b) (hb : b ≤ L.length) (ho : y ≤ a ∨ b ≤ x) : Blk R L0 L' x y := by
  unfold Blk at *
  rw [trn_out ht hab hb ho]; exact h
theorem seg_sub (L : List α) (a b : Nat) : (seg L a b).Sublist L := (List.drop_sublist _ _).trans (List.take_sublist _ _)
theorem seg_cross {C : α → α → Prop} {L0 : List α} (hC : L0.Pairwise C) {a m b : Nat} (h1 : a ≤ m) (h2 : m ≤ b) : ∀ x ∈ seg L0 a m, ∀ y ∈ seg L0 m b, C x y := by
  have := hC.sublist (seg_sub L0 a b)
  rw [seg_split L0 h1 h2] at this
  exact (List.pairwise_append.1 this).2.2
theorem blk_cross {C R : α → α → Prop} {L0 L : List α} (hC : L0.Pairwise C) {a m b : Nat} (h1 : a ≤ m) (h2 : m ≤ b) (hx : Blk R L0 L a m) (hy : Blk R L0 L m b) : ∀ x ∈ seg L a m, ∀ y ∈ seg L m b, C x y :=
  fun x hx1 y hy1 => seg_cross hC h1 h2 x (hx.1.mem_iff.1 hx1) y (hy.1.mem_iff.1 hy1)
/-- two blocks have been merged -/
theorem blk_merge {R : α → α → Prop} {L0 L L' S : List α} {a m b : Nat} (h1 : a ≤ m) (h2 : m ≤ b) (hb : b ≤ L.length) (hx : Blk R L0 L a m) (hy : Blk R L0 L m b) (hL : L' = L.take a ++ (S ++ L.drop b)) (hp : S.Perm (seg L a m ++ seg L m b)) (hs : S.Pairwise R) : Blk R L0 L' a b ∧ Trn a b L L' := by
  have hl : S.length = b - a := by
    rw [hp.length_eq, List.length_append, seg_len L (by omega), seg_len L hb]; omega
  refine ⟨?_, S, hL, hl⟩
  unfold Blk
  rw [hL, trn_seg hl (by omega) hb, seg_split L0 h1 h2]
  exact ⟨hp.trans (hx.1.append hy.1), hs⟩
/-- a block has been put in order by itself -/
theorem blk_sort {R : α → α → Prop} {L0 L L' S : List α} {a b : Nat} (h1 : a ≤ b) (hb : b ≤ L.length) (he : seg L a b = seg L0 a b) (hL : L' = L.take a ++ (S ++ L.drop b)) (hp : S.Perm (seg L a b)) (hs : S.Pairwise R) : Blk R L0 L' a b ∧ Trn a b L L' := by
  have hl : S.length = b - a := by rw [hp.length_eq, seg_len L hb]
  refine ⟨?_, S, hL, hl⟩
  unfold Blk
  rw [hL, trn_seg hl h1 hb, ← he]
  exact ⟨hp, hs⟩
/-- blocks of s, in order by themselves -/
def BlkAll (R : α → α → Prop) (L0 L : List α) (n s : Nat) : Prop := L.length = n ∧ ∀ t, s * t < n → Blk R L0 L (s * t) (min (s * (t + 1)) n)
/-- the first phase: k blocks are in order -/
def InsK (R : α → α → Prop) (L0 L : List α) (n s k : Nat) : Prop := L.length = n ∧ (∀ t, t < k → Blk R L0 L (s * t) (s * (t + 1))) ∧ seg L (s * k) n = seg L0 (s * k) n ∧ s * k ≤ n
theorem insK_start (R : α → α → Prop) (L0 : List α) (s : Nat) : InsK R L0 L0 L0.length s 0 := ⟨rfl, fun t h => by omega, rfl, by simp⟩
theorem mul_le_of {s t k : Nat} (h : t + 1 ≤ k) : s * (t + 1) ≤ s * k := Nat.mul_le_mul_left s h
theorem insK_seg {R : α → α → Prop} {L0 L : List α} {n s k b : Nat} (hl0 : L0.length = n) (h : InsK R L0 L n s k) (h1 : s * k ≤ b) (h2 : b ≤ n) : seg L (s * k) b = seg L0 (s * k) b := by
  obtain ⟨hl, _, he, _⟩ := h
  have g : ∀ K : List α, seg K (s * k) b = (seg K (s * k) n).take (b - s * k) := by
    intro K
    unfold seg
    rw [← List.drop_take, List.take_take, Nat.min_eq_left h2]
  rw [g, g, he]
theorem insK_step {R : α → α → Prop} {L0 L L' S : List α} {n s k : Nat} (hl0 : L0.length = n) (h : InsK R L0 L n s k) (hb : s * (k + 1) ≤ n) (hL : L' = L.take (s * k) ++ (S ++ L.drop (s * (k + 1)))) (hp : S.Perm (seg L (s * k) (s * (k + 1)))) (hs : S.Pairwise R) : InsK R L0 L' n s (k + 1) := by
  have hle : s * k ≤ s * (k + 1) := Nat.mul_le_mul_left s (Nat.le_succ k)
  have he := insK_seg hl0 h hle hb
  obtain ⟨hl, ha, hr, hk⟩ := h
  obtain ⟨hB, hT⟩ := blk_sort (L0 := L0) (R := R) hle (by omega) he hL hp hs
  refine ⟨(trn_len hT hle (by omega)).trans hl, fun t ht => ?_, ?_, hb⟩
  · by_cases q : t = k
    · subst q; exact hB
    · exact blk_keep (ha t (by omega)) hT hle (by omega) (.inl (mul_le_of (by omega)))
  · rw [trn_out hT hle (by omega) (.inr (Nat.le_refl _))]
    have g : ∀ K : List α, seg K (s * (k + 1)) n = (seg K (s * k) n).drop (s * (k + 1) - s * k) := by
      intro K
      unfold seg
      rw [List.drop_drop, show s * k + (s * (k + 1) - s * k) = s * (k + 1) from by omega]
    rw [g, g, hr]
theorem insK_last {R : α → α → Prop} {L0 L L' S : List α} {n s k : Nat} (hs0 : 0 < s) (hl0 : L0.length = n) (h : InsK R L0 L n s k) (hb : n < s * (k + 1)) (hL : L' = L.take (s * k) ++ (S ++ L.drop n)) (hp : S.Perm (seg L (s * k) n)) (hs : S.Pairwise R) : BlkAll R L0 L' n s := by
  have he := insK_seg hl0 h h.2.2.2 (Nat.le_refl _)
  obtain ⟨hl, ha, hr, hk⟩ := h
  obtain ⟨hB, hT⟩ := blk_sort (L0 := L0) (R := R) hk (by omega) he hL hp hs
  refine ⟨(trn_len hT hk (by omega)).trans hl, fun t ht => ?_⟩
  by_cases q : t = k
  · subst q; rw [Nat.min_eq_right (by omega)]; exact hB
  · have htk : t < k := by
      have h1 : s * t < s * (k + 1) := by omega
      have := Nat.lt_of_mul_lt_mul_left h1
      omega
    have h2 := mul_le_of (s := s) (t := t) (k := k) (by omega)
    rw [Nat.min_eq_left (by omega)]
    exact blk_keep (ha t htk) hT hk (by omega) (.inl h2)
/-- the second phase: k pairs of blocks of s have been merged -/
def MrgK (R : α → α → Prop) (L0 L : List α) (n s k : Nat) : Prop := L.length = n ∧ (∀ t, t < k → Blk R L0 L (2 * s * t) (2 * s * (t + 1))) ∧ (∀ u, 2 * k ≤ u → s * u < n → Blk R L0 L (s * u) (min (s * (u + 1)) n)) ∧ 2 * s * k ≤ n
theorem mrgK_start {R : α → α → Prop} {L0 L : List α} {n s : Nat} (h : BlkAll R L0 L n s) : MrgK R L0 L n s 0 := ⟨h.1, fun t h => by omega, fun u _ hu => h.2 u hu, by simp⟩
theorem two_mul' (s k : Nat) : 2 * s * k = s * (2 * k) := by rw [Nat.mul_comm 2 s, Nat.mul_assoc]
theorem mrgK_pair {R : α → α → Prop} {L0 L : List α} {n s k : Nat} (hs : 0 < s) (h : MrgK R L0 L n s k) (hb : 2 * s * (k + 1) ≤ n) : Blk R L0 L (2 * s * k) (2 * s * k + s) ∧ Blk R L0 L (2 * s * k + s) (2 * s * k + 2 * s) ∧ 2 * s * (k + 1) = 2 * s * k + 2 * s := by
  have e3 : 2 * s * (k + 1) = 2 * s * k + 2 * s := by rw [Nat.mul_add, Nat.mul_one]
  have e1 : s * (2 * k) = 2 * s * k := (two_mul' s k).symm
  have e2 : s * (2 * k + 1) = 2 * s * k + s := by rw [Nat.mul_add, Nat.mul_one, e1]
  have e4 : s * (2 * k + 1 + 1) = 2 * s * k + 2 * s := by rw [Nat.mul_add, Nat.mul_one, e2]; omega
  have h1 := h.2.2.1 (2 * k) (Nat.le_refl _) (by omega)
  have h2 := h.2.2.1 (2 * k + 1) (by omega) (by omega)
  rw [e1, e2, Nat.min_eq_left (by omega)] at h1
  rw [e2, e4, Nat.min_eq_left (by omega)] at h2
  exact ⟨h1, h2, e3⟩
theorem mrgK_step {R : α → α → Prop} {L0 L L' S : List α} {n s k : Nat} (hs0 : 0 < s) (h : MrgK R L0 L n s k) (hb : 2 * s * (k + 1) ≤ n) (hL : L' = L.take (2 * s * k) ++ (S ++ L.drop (2 * s * k + 2 * s))) (hp : S.Perm (seg L (2 * s * k) (2 * s * k + s) ++ seg L (2 * s * k + s) (2 * s * k + 2 * s))) (hs : S.Pairwise R) : MrgK R L0 L' n s (k + 1) := by
  obtain ⟨h1, h2, e3⟩ := mrgK_pair hs0 h hb
  obtain ⟨hl, ha, hr, hk⟩ := h
  obtain ⟨hB, hT⟩ := blk_merge (by omega) (by omega) (by omega) h1 h2 hL hp hs
  refine ⟨(trn_len hT (by omega) (by omega)).trans hl, fun t ht => ?_, fun u hu hun => ?_, hb⟩
  · by_cases q : t = k
    · subst q; rw [e3]; exact hB
    · exact blk_keep (ha t (by omega)) hT (by omega) (by omega) (.inl (Nat.mul_le_mul_left _ (by omega)))
  · refine blk_keep (hr u (by omega) hun) hT (by omega) (by omega) (.inr ?_)
    have := Nat.mul_le_mul_left s hu
    rw [← two_mul' s (k + 1)] at this
    omega
/-- the pairs' end -/
theorem mrgK_done {R : α → α → Prop} {L0 L L' : List α} {n s k : Nat} (hs0 : 0 < s) (h : MrgK R L0 L n s k) (hb : n < 2 * s * (k + 1)) (hl' : L'.length = n) (hT : ∀ t, t < k → Blk R L0 L' (2 * s * t) (2 * s * (t + 1))) (hE : 2 * s * k < n → Blk R L0 L' (2 * s * k) n) : BlkAll R L0 L' n (2 * s) := by
  refine ⟨hl', fun t ht => ?_⟩
  by_cases q : t = k
  · subst q; rw [Nat.min_eq_right (by omega)]; exact hE ht
  · have htk : t < k := by
      have h1 : 2 * s * t < 2 * s * (k + 1) := by omega
      have := Nat.lt_of_mul_lt_mul_left h1
      omega
    have h2 : 2 * s * (t + 1) ≤ 2 * s * k := Nat.mul_le_mul_left _ (by omega)
    have := h.2.2.2
    rw [Nat.min_eq_left (by omega)]
    exact hT t htk
theorem mrgK_odd {R : α → α → Prop} {L0 L L' S : List α} {n s k : Nat} (hs0 : 0 < s) (h : MrgK R L0 L n s k) (hb : n < 2 * s * (k + 1)) (hm : 2 * s * k + s < n) (hL : L' = L.take (2 * s * k) ++ (S ++ L.drop n)) (hp : S.Perm (seg L (2 * s * k) (2 * s * k + s) ++ seg L (2 * s * k + s) n)) (hs : S.Pairwise R) : BlkAll R L0 L' n (2 * s) := by
  have e3 : 2 * s * (k + 1) = 2 * s * k + 2 * s := by rw [Nat.mul_add, Nat.mul_one]
  have e1 : s * (2 * k) = 2 * s * k := (two_mul' s k).symm
  have e2 : s * (2 * k + 1) = 2 * s * k + s := by rw [Nat.mul_add, Nat.mul_one, e1]
  have e4 : s * (2 * k + 1 + 1) = 2 * s * k + 2 * s := by rw [Nat.mul_add, Nat.mul_one, e2]; omega
  have h1 := h.2.2.1 (2 * k) (Nat.le_refl _) (by omega)
  have h2 := h.2.2.1 (2 * k + 1) (by omega) (by omega)
  rw [e1, e2, Nat.min_eq_left (by omega)] at h1
  rw [e2, e4, Nat.min_eq_right (by omega)] at h2
  obtain ⟨hB, hT⟩ := blk_merge (by omega) (by omega) (by rw [h.1]; exact Nat.le_refl _) h1 h2 hL hp hs
  have hl := h.1
  exact mrgK_done hs0 h hb ((trn_len hT (by omega) (by omega)).trans hl) (fun t ht => blk_keep (h.2.1 t ht) hT (by omega) (by omega) (.inl (Nat.mul_le_mul_left _ (by omega)))) (fun _ => hB)
theorem mrgK_even {R : α → α → Prop} {L0 L : List α} {n s k : Nat} (hs0 : 0 < s) (h : MrgK R L0 L n s k) (hb : n < 2 * s * (k + 1)) (hm : ¬ 2 * s * k + s < n) : BlkAll R L0 L n (2 * s) := by
  have e1 : s * (2 * k) = 2 * s * k := (two_mul' s k).symm
  have e2 : s * (2 * k + 1) = 2 * s * k + s := by rw [Nat.mul_add, Nat.mul_one, e1]
  refine mrgK_done hs0 h hb h.1 (fun t ht => h.2.1 t ht) (fun hk => ?_)
  have h1 := h.2.2.1 (2 * k) (Nat.le_refl _) (by omega)
  rw [e1, e2, Nat.min_eq_right (by omega)] at h1
  exact h1
/-- all in order -/
theorem blk_done {R : α → α → Prop} {L0 L : List α} {n s : Nat} (hl0 : L0.length = n) (h : BlkAll R L0 L n s) (hs : n ≤ s) : L.Perm L0 ∧ L.Pairwise R := by
  by_cases hn : n = 0
  · have e1 : L = [] := List.eq_nil_of_length_eq_zero (by rw [h.1]; exact hn)
    have e2 : L0 = [] := List.eq_nil_of_length_eq_zero (by omega)
    rw [e1, e2]; exact ⟨List.Perm.refl _, by simp⟩
  · have := h.2 0 (by simp; omega)
    rw [Nat.mul_zero, Nat.zero_add, Nat.mul_one, Nat.min_eq_right hs] at this
    unfold Blk at this
    have e1 : seg L 0 n = L := by rw [← h.1]; exact seg_all L
    have e2 : seg L0 0 n = L0 := by rw [← hl0]; exact seg_all L0
    rw [e1, e2] at this
    exact this
end
end Go.Proofs.Ytbmdclgndlddbaa
