
-- Plain: a stable sort by merges in place (2): the merge's parts; rows of blocks.
import Derived.Test.YtbmdclgndlddbaaST
namespace Go.Proofs.Ytbmdclgndlddbaa
open Go.Sort
set_option linter.unusedVariables false
set_option maxRecDepth 100000
set_option linter.unusedSimpArgs false
theorem get_mid {α : Type} [Inhabited α] {d : Array α} {A X Z : List α} {x : α} {i k : Nat} (h : d.toList = A ++ (X ++ Z)) (hk : X[k]? = some x) (hi : i = A.length + k) : d[i]! = x := by
  have hl : k < X.length := (List.getElem?_eq_some_iff.1 hk).1
  refine get_at (A := A ++ X.take k) (Z := X.drop (k + 1) ++ Z) ?_ (by rw [hi, List.length_append, List.length_take]; omega)
  rw [h]
  conv => lhs; rw [← List.take_append_drop k X, drop_cons' hk]
  simp
section
variable {α : Type}
/-- what a comparison says of an element of the first row and one of the second -/
structure Cmp (lt : α → α → Bool) (C R : α → α → Prop) : Prop where
  yes : ∀ x y, C x y → lt y x = true → R y x
  no : ∀ x y, C x y → lt y x = false → R x y
  tr : ∀ x y z, R x y → R y z → R x z
/-- the search for the place at which a merge is parted -/
structure Bis [Inhabited α] (lt : α → α → Bool) (d : Array α) (lo hi p s r : Nat) : Prop where
  low : lo ≤ s
  mid : s ≤ r
  top : r ≤ hi
  no : s = lo ∨ lt d[p - (s - 1)]! d[s - 1]! = false
  yes : r = hi ∨ lt d[p - r]! d[r]! = true
theorem bis_start [Inhabited α] (lt : α → α → Bool) (d : Array α) {lo hi : Nat} (p : Nat) (h : lo ≤ hi) : Bis lt d lo hi p lo hi := ⟨Nat.le_refl _, h, Nat.le_refl _, .inl rfl, .inl rfl⟩
theorem bis_no [Inhabited α] {lt : α → α → Bool} {d : Array α} {lo hi p s r c : Nat} (h : Bis lt d lo hi p s r) (hs : s ≤ c) (hr : c < r) (hc : lt d[p - c]! d[c]! = false) : Bis lt d lo hi p (c + 1) r := ⟨by have := h.low; omega, hr, h.top, .inr (by rw [Nat.add_sub_cancel]; exact hc), h.yes⟩
theorem bis_yes [Inhabited α] {lt : α → α → Bool} {d : Array α} {lo hi p s r c : Nat} (h : Bis lt d lo hi p s r) (hs : s ≤ c) (hr : c < r) (hc : lt d[p - c]! d[c]! = true) : Bis lt d lo hi p s c := ⟨h.low, hs, by have := h.top; omega, h.no, .inr hc⟩
/-- the merge's parts -/
theorem sym_parts [Inhabited α] {lt : α → α → Bool} {C R : α → α → Prop} (H : Cmp lt C R) {d : Array α} {A X Y Z : List α} {a m b mid s : Nat} (hd : d.toList = A ++ (X ++ (Y ++ Z))) (ha : A.length = a) (hm : a + X.length = m) (hb : m + Y.length = b) (hmid : mid = (a + b) / 2)
    (hX : X.Pairwise R) (hY : Y.Pairwise R) (hC : ∀ x ∈ X, ∀ y ∈ Y, C x y) (hs : Bis lt d (if mid < m then mid + m - b else a) (if mid < m then mid else m) (mid + m - 1) s s) :
    ∃ A1 A2 B1 B2, X = A1 ++ A2 ∧ Y = B1 ++ B2 ∧ a + A1.length = s ∧ m + B1.length = mid + m - s ∧ s ≤ m ∧ m ≤ mid + m - s ∧ mid + m - s ≤ b ∧ s ≤ mid ∧ mid ≤ mid + m - s ∧ ∀ x ∈ A1 ++ B1, ∀ y ∈ A2 ++ B2, R x y := by
  have hlo := hs.low
  have hhi := hs.top
  have hle : a ≤ s ∧ s ≤ m ∧ s ≤ mid ∧ mid + m - s ≤ b := by
    by_cases q : mid < m
    · rw [if_pos q] at hlo hhi; omega
    · rw [if_neg q] at hlo hhi; omega
  obtain ⟨h1, h2, h3, h4⟩ := hle
  have eX : X = X.take (s - a) ++ X.drop (s - a) := (List.take_append_drop _ _).symm
  have eY : Y = Y.take (mid - s) ++ Y.drop (mid - s) := (List.take_append_drop _ _).symm
  have l1 : (X.take (s - a)).length = s - a := by rw [List.length_take]; omega
  have l2 : (Y.take (mid - s)).length = mid - s := by rw [List.length_take]; omega
  have gX : ∀ k x, X[k]? = some x → d[a + k]! = x := fun k x hx => get_mid (Z := Y ++ Z) hd hx (by rw [ha])
  have gY : ∀ k y, Y[k]? = some y → d[m + k]! = y := fun k y hy => get_mid (A := A ++ X) (Z := Z) (by rw [hd]; simp) hy (by rw [List.length_append, ha]; omega)
  refine ⟨X.take (s - a), X.drop (s - a), Y.take (mid - s), Y.drop (mid - s), eX, eY, by omega, by omega, h2, by omega, h4, h3, by omega, ?_⟩
  refine merge_cross H.tr (by rw [← eX]; exact hX) (by rw [← eY]; exact hY) ?_ ?_
  · by_cases e1 : s = a
    · exact .inl (List.eq_nil_of_length_eq_zero (by omega))
    · by_cases e2 : mid + m - s = b
      · exact .inr (.inl (List.eq_nil_of_length_eq_zero (by rw [List.length_drop]; omega)))
      · obtain ⟨x, hx⟩ : ∃ x, X[s - 1 - a]? = some x := ⟨_, List.getElem?_eq_getElem (by omega)⟩
        obtain ⟨y, hy⟩ : ∃ y, Y[mid - s]? = some y := ⟨_, List.getElem?_eq_getElem (by omega)⟩
        refine .inr (.inr ⟨x, y, ?_, ?_, ?_⟩)
        · rw [List.getLast?_eq_getElem?, l1, List.getElem?_take_of_lt (by omega), show s - a - 1 = s - 1 - a from by omega]; exact hx
        · rw [List.head?_eq_getElem?, List.getElem?_drop]; exact hy
        · refine H.no x y (hC x (List.mem_of_getElem? hx) y (List.mem_of_getElem? hy)) ?_
          rcases hs.no with q | q
          · exfalso
            by_cases w : mid < m
            · rw [if_pos w] at q; omega
            · rw [if_neg w] at q; omega
          · have k1 : d[s - 1]! = x := by have := gX _ _ hx; rwa [show a + (s - 1 - a) = s - 1 from by omega] at this
            have k2 : d[mid + m - 1 - (s - 1)]! = y := by have := gY _ _ hy; rwa [show m + (mid - s) = mid + m - 1 - (s - 1) from by omega] at this
            rw [k1, k2] at q; exact q
  · by_cases e1 : s = mid
    · exact .inl (List.eq_nil_of_length_eq_zero (by omega))
    · by_cases e2 : s = m
      · exact .inr (.inl (List.eq_nil_of_length_eq_zero (by rw [List.length_drop]; omega)))
      · obtain ⟨x, hx⟩ : ∃ x, X[s - a]? = some x := ⟨_, List.getElem?_eq_getElem (by omega)⟩
        obtain ⟨y, hy⟩ : ∃ y, Y[mid - s - 1]? = some y := ⟨_, List.getElem?_eq_getElem (by omega)⟩
        refine .inr (.inr ⟨y, x, ?_, ?_, ?_⟩)
        · rw [List.getLast?_eq_getElem?, l2, List.getElem?_take_of_lt (by omega)]; exact hy
        · rw [List.head?_eq_getElem?, List.getElem?_drop]; exact hx
        · refine H.yes x y (hC x (List.mem_of_getElem? hx) y (List.mem_of_getElem? hy)) ?_
          rcases hs.yes with q | q
          · exfalso
            by_cases w : mid < m
            · rw [if_pos w] at q; omega
            · rw [if_neg w] at q; omega
          · have k1 : d[s]! = x := by have := gX _ _ hx; rwa [show a + (s - a) = s from by omega] at this
            have k2 : d[mid + m - 1 - s]! = y := by have := gY _ _ hy; rwa [show m + (mid - s - 1) = mid + m - 1 - s from by omega] at this
            rw [k1, k2] at q; exact q
/-- a merge of X and Y has been made in place -/
def Mgd (R : α → α → Prop) (A X Y Z : List α) (d : Array α) : Prop := ∃ S, d.toList = A ++ (S ++ Z) ∧ S.Perm (X ++ Y) ∧ S.Pairwise R
theorem mgd_nil {R : α → α → Prop} {A X Y Z : List α} {d : Array α} (h : d.toList = A ++ ((X ++ Y) ++ Z)) (hs : (X ++ Y).Pairwise R) : Mgd R A X Y Z d := ⟨X ++ Y, h, List.Perm.refl _, hs⟩
/-- one element against a row: behind the search -/
theorem one_left {lt : α → α → Bool} {C R : α → α → Prop} (H : Cmp lt C R) {x : α} {Y : List α} {k : Nat} (hY : Y.Pairwise R) (hC : ∀ y ∈ Y, C x y) (hk : k ≤ Y.length) (h1 : k = 0 ∨ ∃ y, Y[k - 1]? = some y ∧ lt y x = true) (h2 : k = Y.length ∨ ∃ y, Y[k]? = some y ∧ lt y x = false) :
    (Y.take k ++ x :: Y.drop k).Pairwise R := by
  refine put_sorted H.tr (by rw [List.take_append_drop]; exact hY) ?_ ?_
  · rcases h1 with rfl | ⟨y, hy, hl⟩
    · exact .inl rfl
    · by_cases hk0 : k = 0
      · subst hk0; exact .inl rfl
      · refine .inr ⟨y, ?_, H.yes x y (hC y (List.mem_of_getElem? hy)) hl⟩
        rw [List.getLast?_eq_getElem?, List.length_take, Nat.min_eq_left hk, List.getElem?_take_of_lt (by omega)]; exact hy
  · rcases h2 with rfl | ⟨y, hy, hl⟩
    · exact .inl (List.drop_length)
    · exact .inr ⟨y, by rw [List.head?_eq_getElem?, List.getElem?_drop]; exact hy, H.no x y (hC y (List.mem_of_getElem? hy)) hl⟩
theorem one_right {lt : α → α → Bool} {C R : α → α → Prop} (H : Cmp lt C R) {y : α} {X : List α} {k : Nat} (hX : X.Pairwise R) (hC : ∀ x ∈ X, C x y) (hk : k ≤ X.length) (h1 : k = 0 ∨ ∃ x, X[k - 1]? = some x ∧ lt y x = false) (h2 : k = X.length ∨ ∃ x, X[k]? = some x ∧ lt y x = true) :
    (X.take k ++ y :: X.drop k).Pairwise R := by
  refine put_sorted H.tr (by rw [List.take_append_drop]; exact hX) ?_ ?_
  · rcases h1 with rfl | ⟨x, hx, hl⟩
    · exact .inl rfl
    · by_cases hk0 : k = 0
      · subst hk0; exact .inl rfl
      · refine .inr ⟨x, ?_, H.no x y (hC x (List.mem_of_getElem? hx)) hl⟩
        rw [List.getLast?_eq_getElem?, List.length_take, Nat.min_eq_left hk, List.getElem?_take_of_lt (by omega)]; exact hx
  · rcases h2 with rfl | ⟨x, hx, hl⟩
    · exact .inl (List.drop_length)
    · exact .inr ⟨x, by rw [List.head?_eq_getElem?, List.getElem?_drop]; exact hx, H.yes x y (hC x (List.mem_of_getElem? hx)) hl⟩
/-- exchanges that carry one element to the right: behind k of them -/
def MvR (A : List α) (x : α) (Y Z : List α) (k : Nat) (d : Array α) : Prop := d.toList = A ++ (Y.take k ++ x :: (Y.drop k ++ Z))
theorem mvR_step [Inhabited α] {A Y Z : List α} {x : α} {k : Nat} {d : Array α} (h : MvR A x Y Z k d) (hk : k < Y.length) : MvR A x Y Z (k + 1) (swp d (A.length + k) (A.length + k + 1)) := by
  obtain ⟨y, hy⟩ : ∃ y, Y[k]? = some y := ⟨_, List.getElem?_eq_getElem hk⟩
  unfold MvR at *
  rw [drop_cons' hy] at h
  have l1 : (Y.take k).length = k := by rw [List.length_take]; omega
  have := swp_app (d := d) (A := A ++ Y.take k) (M := []) (Z := Y.drop (k + 1) ++ Z) (x := x) (y := y) (i := A.length + k) (j := A.length + k + 1) (by rw [h]; simp) (by rw [List.length_append, l1]) (by rw [List.length_append, l1]; simp)
  rw [this, take_snoc hy]; simp
/-- exchanges that carry one element to the left: k are left to be passed -/
def MvL (A : List α) (y : α) (X Z : List α) (k : Nat) (d : Array α) : Prop := d.toList = A ++ (X.take k ++ y :: (X.drop k ++ Z))
theorem mvL_step [Inhabited α] {A X Z : List α} {y : α} {k : Nat} {d : Array α} (h : MvL A y X Z (k + 1) d) (hk : k < X.length) : MvL A y X Z k (swp d (A.length + k + 1) (A.length + k)) := by
  obtain ⟨x, hx⟩ : ∃ x, X[k]? = some x := ⟨_, List.getElem?_eq_getElem hk⟩
  unfold MvL at *
  rw [take_snoc hx] at h
  have l1 : (X.take k).length = k := by rw [List.length_take]; omega
  have := swp_app' (d := d) (A := A ++ X.take k) (M := []) (Z := X.drop (k + 1) ++ Z) (x := x) (y := y) (i := A.length + k) (j := A.length + k + 1) (by rw [h]; simp) (by rw [List.length_append, l1]) (by rw [List.length_append, l1]; simp)
  rw [this, drop_cons' hx]; simp
end
end Go.Proofs.Ytbmdclgndlddbaa
