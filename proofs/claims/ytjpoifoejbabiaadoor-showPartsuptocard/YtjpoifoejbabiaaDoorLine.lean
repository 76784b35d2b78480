
-- A told name is one line: no control, no stray byte.
import Derived.Test.YtjpoifoejbabiaaDoorOne
namespace Go.Proofs.YtjpoifoejbabiaaDoor
open Go
set_option linter.unusedVariables false
set_option maxRecDepth 100000
def okRune (l : List UInt8) : Bool := decide (runLen l ≠ 0) && decide (32 ≤ valL l) && !(decide (127 ≤ valL l) && decide (valL l ≤ 159))
def okL (l : List UInt8) : Bool := (runsL l).all okRune
theorem okL_nil : okL [] = true := rfl
theorem okL_cons (l : List UInt8) (h : l ≠ []) : okL l = (okRune l && okL (l.drop (wid l))) := by
  unfold okL; rw [runsL_cons l h, List.all_cons]
theorem ok_ascii (c : UInt8) (r : List UInt8) (h1 : 32 ≤ c.toNat) (h2 : c.toNat < 127) : okL (c :: r) = okL r := by
  have hr : runLen (c :: r) = 1 := head_small _ (by simp) (by simp; omega)
  have hv : valL (c :: r) = c.toNat := (val_small _ (by simp) c.toNat (by omega)).2 ⟨hr, rfl⟩
  have ho : okRune (c :: r) = true := by unfold okRune; rw [hr, hv]; simp; omega
  rw [okL_cons _ (by simp), ho, wid_of hr]; simp
theorem ok_asciis (l r : List UInt8) (h : ∀ c ∈ l, 32 ≤ c.toNat ∧ c.toNat < 127) : okL (l ++ r) = okL r := by
  induction l with
  | nil => rfl
  | cons c l ih =>
    rw [List.cons_append, ok_ascii _ _ (h c (by simp)).1 (h c (by simp)).2, ih (fun d hd => h d (by simp [hd]))]
/-- A well-formed run, whatever follows. -/
theorem run_take (l r : List UInt8) (hl : l ≠ []) (h0 : runLen l ≠ 0) : runLen (l.take (wid l) ++ r) = runLen l ∧ valL (l.take (wid l) ++ r) = valL l := by
  rcases runOf l hl with ⟨h, d, p⟩ | ⟨c, t, e, k, h, d⟩ | ⟨c, c1, t, e, a0, b0, a1, b1, h, d⟩ | ⟨c, c1, c2, t, e, a0, b0, a1, b1, a2, b2, u, v, h, d⟩ | ⟨c, c1, c2, c3, t, e, a0, b0, a1, b1, a2, b2, a3, b3, u, v, h, d⟩
  · exact absurd h h0
  · have hr : runLen (c :: r) = 1 := head_small _ (by simp) (by simp; omega)
    have hv : valL (c :: r) = c.toNat := (val_small _ (by simp) c.toNat (by omega)).2 ⟨hr, rfl⟩
    have hv2 : valL l = c.toNat := by unfold valL; rw [d]
    rw [wid_of h, h, hv2]; subst e
    exact ⟨hr, hv⟩
  · obtain ⟨-, -, -, -, -, -, k7⟩ := runLen_cut c c1 0 0 r (by omega)
    have hr := k7 (by omega)
    rw [if_pos ⟨a0, a1, b1⟩] at hr
    have hv2 : valL l = (c.toNat - 192) * 64 + (c1.toNat - 128) := by unfold valL; rw [d]
    rw [wid_of h, h, hv2]; subst e
    refine ⟨hr, ?_⟩
    show valL (c :: c1 :: r) = _
    unfold valL
    rcases runOf (c :: c1 :: r) (by simp) with ⟨h', d', p⟩ | ⟨c', t', e', k', h', d'⟩ | ⟨x, x1, t', e', _, _, _, _, h', d'⟩ | ⟨x, x1, x2, t', e', _, _, _, _, _, _, _, _, h', d'⟩ | ⟨x, x1, x2, x3, t', e', _, _, _, _, _, _, _, _, _, _, h', d'⟩
    · rw [hr] at h'; cases h'
    · rw [hr] at h'; cases h'
    · rw [d']; cases e'; rfl
    · rw [hr] at h'; cases h'
    · rw [hr] at h'; cases h'
  · obtain ⟨-, -, k3, -, -, -, -⟩ := runLen_cut c c1 c2 0 r (by omega)
    have hr := k3 a0 b0
    rw [if_pos ⟨a1, b1, a2, b2, u, v⟩] at hr
    have hv2 : valL l = (c.toNat - 224) * 4096 + (c1.toNat - 128) * 64 + (c2.toNat - 128) := by unfold valL; rw [d]
    rw [wid_of h, h, hv2]; subst e
    refine ⟨hr, ?_⟩
    show valL (c :: c1 :: c2 :: r) = _
    unfold valL
    rcases runOf (c :: c1 :: c2 :: r) (by simp) with ⟨h', d', p⟩ | ⟨c', t', e', k', h', d'⟩ | ⟨x, x1, t', e', _, _, _, _, h', d'⟩ | ⟨x, x1, x2, t', e', _, _, _, _, _, _, _, _, h', d'⟩ | ⟨x, x1, x2, x3, t', e', _, _, _, _, _, _, _, _, _, _, h', d'⟩
    · rw [hr] at h'; cases h'
    · rw [hr] at h'; cases h'
    · rw [hr] at h'; cases h'
    · rw [d']; cases e'; rfl
    · rw [hr] at h'; cases h'
  · obtain ⟨-, -, -, k4, -, -, -⟩ := runLen_cut c c1 c2 c3 r (by omega)
    have hr := k4 a0
    rw [if_pos ⟨b0, a1, b1, a2, b2, a3, b3, u, v⟩] at hr
    have hv2 : valL l = (c.toNat - 240) * 262144 + (c1.toNat - 128) * 4096 + (c2.toNat - 128) * 64 + (c3.toNat - 128) := by unfold valL; rw [d]
    rw [wid_of h, h, hv2]; subst e
    refine ⟨hr, ?_⟩
    show valL (c :: c1 :: c2 :: c3 :: r) = _
    unfold valL
    rcases runOf (c :: c1 :: c2 :: c3 :: r) (by simp) with ⟨h', d', p⟩ | ⟨c', t', e', k', h', d'⟩ | ⟨x, x1, t', e', _, _, _, _, h', d'⟩ | ⟨x, x1, x2, t', e', _, _, _, _, _, _, _, _, h', d'⟩ | ⟨x, x1, x2, x3, t', e', _, _, _, _, _, _, _, _, _, _, h', d'⟩
    · rw [hr] at h'; cases h'
    · rw [hr] at h'; cases h'
    · rw [hr] at h'; cases h'
    · rw [hr] at h'; cases h'
    · rw [d']; cases e'; rfl
theorem ok_plain (l r : List UInt8) (hl : l ≠ []) (hp : plainL l = true) : okL (l.take (wid l) ++ r) = okL r := by
  have h0 : runLen l ≠ 0 := by intro e; unfold plainL at hp; rw [e] at hp; cases hp
  obtain ⟨hr, hv⟩ := run_take l r hl h0
  have hw : wid (l.take (wid l) ++ r) = wid l := by show max 1 _ = max 1 _; rw [hr]
  have hne : l.take (wid l) ++ r ≠ [] := by
    intro e
    have h1 := wid_pos l
    have h2 := wid_le l hl
    have := congrArg List.length e
    rw [List.length_append, List.length_take, List.length_nil] at this; omega
  have ho : okRune (l.take (wid l) ++ r) = true := by
    have hpv := plain_is l hl
    rw [hp] at hpv
    unfold plainV at hpv
    unfold okRune
    rw [hr, hv]
    split at hpv
    · cases hpv
    · simp at hpv ⊢; omega
  rw [okL_cons _ hne, ho, hw, List.drop_append_of_le_length (by rw [List.length_take]; have := wid_le l hl; omega)]
  simp
theorem hexD_ok (n : Nat) (h : n < 16) : 32 ≤ (hexD n).toNat ∧ (hexD n).toNat < 127 := by
  have : ∀ k : Fin 16, 32 ≤ (hexD k.val).toNat ∧ (hexD k.val).toNat < 127 := by decide
  exact this ⟨n, h⟩
theorem hexs_ok (l : List UInt8) : ∀ c ∈ hexs l, 32 ≤ c.toNat ∧ c.toNat < 127 := by
  intro c hc
  simp only [hexs, List.mem_flatMap] at hc
  obtain ⟨x, _, hx⟩ := hc
  have hx9 := x.toNat_lt
  simp only [hexB, List.mem_cons, List.not_mem_nil, or_false] at hx
  rcases hx with rfl | rfl | rfl | rfl
  · decide
  · decide
  · exact hexD_ok _ (by omega)
  · exact hexD_ok _ (by omega)
theorem take_one' (l : List UInt8) (hl : l ≠ []) (h : runLen l = 1) : l.take (wid l) = [l.getD 0 0] := by
  rw [wid_of h]; cases l with
  | nil => exact absurd rfl hl
  | cons c r => simp
theorem ok_one (l r : List UInt8) (hl : l ≠ []) : okL (oneL l ++ r) = okL r := by
  unfold oneL
  split
  · rename_i h
    rcases h with h | h
    · exact ok_plain l r hl h
    · rw [take_one' l hl (head_small l hl (by omega)), u8_eq h]
      exact ok_ascii _ _ (by decide) (by decide)
  · split
    · exact ok_asciis [92, 34] r (by decide)
    · split
      · exact ok_asciis [92, 92] r (by decide)
      · split
        · exact ok_asciis [92, 110] r (by decide)
        · split
          · exact ok_asciis [92, 116] r (by decide)
          · exact ok_asciis _ r (hexs_ok _)
theorem ok_body (n : Nat) : ∀ (l r : List UInt8), l.length ≤ n → okL (bodyL l ++ r) = okL r := by
  induction n with
  | zero => intro l r h; have : l = [] := List.eq_nil_of_length_eq_zero (by omega); subst this; simp [bodyL_nil]
  | succ n ih =>
    intro l r h
    by_cases hl : l = []
    · subst hl; simp [bodyL_nil]
    · rw [bodyL_cons l hl, List.append_assoc, ok_one l _ hl, ih]
      have := wid_pos l
      have : 0 < l.length := List.length_pos_iff.2 hl
      simp; omega
theorem ok_all (n : Nat) : ∀ (l : List UInt8), l.length ≤ n → allPlain l = true → okL l = true := by
  induction n with
  | zero => intro l h _; have : l = [] := List.eq_nil_of_length_eq_zero (by omega); subst this; exact okL_nil
  | succ n ih =>
    intro l h hp
    by_cases hl : l = []
    · subst hl; exact okL_nil
    · rw [allPlain_cons l hl, Bool.and_eq_true] at hp
      have e := ok_plain l (l.drop (wid l)) hl hp.1
      rw [List.take_append_drop] at e
      rw [e]
      refine ih _ ?_ hp.2
      have := wid_pos l
      have : 0 < l.length := List.length_pos_iff.2 hl
      simp; omega
theorem ok_quote (l : List UInt8) : okL (quoteL l) = true := by
  unfold quoteL
  split
  · rename_i h
    unfold bareL at h
    rw [Bool.and_eq_true] at h
    exact ok_all _ l (Nat.le_refl _) h.2
  · rw [ok_ascii _ _ (by decide) (by decide), ok_body _ l _ (Nat.le_refl _)]
    rw [ok_ascii _ _ (by decide) (by decide), okL_nil]
/-- What the rune at the head must be, where a line is good. -/
theorem ok_head (l : List UInt8) (hl : l ≠ []) (h : okL l = true) : 32 ≤ valL l ∧ ¬ (127 ≤ valL l ∧ valL l ≤ 159) ∧ (valL l = 65533 → [239, 191, 189] <+: l) ∧ okL (l.drop (wid l)) = true := by
  rw [okL_cons l hl, Bool.and_eq_true] at h
  obtain ⟨h1, h2⟩ := h
  unfold okRune at h1
  simp only [Bool.and_eq_true, decide_eq_true_eq, Bool.not_eq_true', Bool.and_eq_false_iff, decide_eq_false_iff_not] at h1
  refine ⟨h1.1.2, by omega, fun hv => ?_, h2⟩
  have hs := stray_is l hl
  rw [decide_eq_false h1.1.1] at hs
  unfold strayL at hs
  rw [hv] at hs
  simpa using hs
end Go.Proofs.YtjpoifoejbabiaaDoor
