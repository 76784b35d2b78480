
-- Plain: sizes; refusals have numbers.
import Derived.Test.YtmhamlhmmkbkaaaDoorP4
namespace Go.Proofs.YtmhamlhmmkbkaaaDoor
set_option linter.unusedVariables false
set_option maxRecDepth 100000
set_option linter.unusedSimpArgs false
def totT (L : List ByteArray) : Nat := (L.map ByteArray.size).sum
theorem totT_app (a b : List ByteArray) : totT (a ++ b) = totT a + totT b := by unfold totT; simp
theorem totT_cons (a : ByteArray) (b : List ByteArray) : totT (a :: b) = a.size + totT b := by unfold totT; simp
theorem totT_suf {a b : List ByteArray} (h : a <:+ b) : totT a ≤ totT b ∧ a.length ≤ b.length := by
  obtain ⟨p, rfl⟩ := h
  rw [totT_app, List.length_append]; omega
theorem optR_suf (l : List ByteArray) : ∀ {r r' : Rd} {t : List ByteArray}, optR r l = .inr (r', t) → t <:+ l := by
  induction l with
  | nil => intro r r' t e; cases e; exact List.suffix_refl _
  | cons w l ih =>
    intro r r' t e
    cases hl : isLong w with
    | false => rw [optR_end _ hl] at e; cases e; exact List.suffix_refl _
    | true =>
      cases ho : optW r w with
      | none => rw [optR_no _ hl ho] at e; cases e
      | some r1 => rw [optR_go _ hl ho] at e; exact (ih e).trans (List.suffix_cons _ _)
theorem dec_tail {L : List ByteArray} {c : Cm} (h : decC L = .inr c) : tailW c <:+ L := by
  cases L with
  | nil => cases h
  | cons p t =>
    unfold decC at h
    simp only [] at h
    by_cases hr : p = wRan
    · rw [if_pos hr] at h
      unfold ranC at h
      cases hf : ranF false (dashL t) with
      | inl x => rw [hf] at h; cases h
      | inr d =>
        rw [hf] at h
        simp only [] at h
        cases hd : t.dropWhile dsh with
        | nil => rw [hd] at h; cases h
        | cons a l =>
          rw [hd] at h
          cases h
          have h1 : (a :: l) <:+ t := by rw [← hd]; exact List.dropWhile_suffix _
          exact h1.trans (List.suffix_cons _ _)
    · rw [if_neg hr] at h
      by_cases ha : p = wAr
      · rw [if_pos ha] at h
        obtain ⟨r, t1, k, t2, r1, e1, e2, e3, e4, e5, e6⟩ := ar_parts h
        subst e2
        have s1 := optR_suf t e1
        have s2 : t2.dropWhile dsh <:+ p :: t := (List.dropWhile_suffix _).trans ((List.suffix_cons _ _).trans (s1.trans (List.suffix_cons _ _)))
        have w3 := (whOf_range (fin r1).po).2.2
        unfold lastC at e6
        by_cases hp : (fin r1).po = 0
        · rw [if_pos hp] at e6
          cases hd : t2.dropWhile dsh with
          | nil => rw [hd] at e6; cases e6
          | cons a l =>
            rw [hd] at e6 s2
            cases e6
            show ((if whOf (fin r1).po = 0 then [] else [(⟨#[]⟩ : ByteArray)]) ++ a :: l) <:+ p :: t
            rw [if_pos (w3.2 hp)]
            exact s2
        · rw [if_neg hp] at e6
          cases hd : t2.dropWhile dsh with
          | nil => rw [hd] at e6; cases e6
          | cons a l =>
            rw [hd] at e6 s2
            simp only [] at e6
            cases l with
            | nil => cases e6
            | cons a2 l =>
              cases e6
              show ((if whOf (fin r1).po = 0 then [] else [a]) ++ a2 :: l) <:+ p :: t
              rw [if_neg (fun e => hp (w3.1 e))]
              exact s2
      · rw [if_neg ha] at h; cases h
theorem dec_size {L : List ByteArray} {c : Cm} (h : decC L = .inr c) : c.nms.length ≤ L.length ∧ totT c.nms + c.anc.size + c.arc.size ≤ totT L := by
  have hg := forth h
  obtain ⟨h1, h2⟩ := totT_suf (dec_tail h)
  unfold tailW at h1 h2
  rw [totT_app, totT_cons] at h1
  rw [List.length_append, List.length_cons] at h2
  by_cases hw : c.wh = 0
  · rw [hg.anc0 hw]
    have : (⟨#[]⟩ : ByteArray).size = 0 := rfl
    omega
  · rw [if_neg hw, totT_cons] at h1
    omega
theorem keyL_len (c : Cm) : (keyL c).length ≤ 10 := by
  unfold keyL flagL
  simp only [List.length_cons, List.length_append]
  have e : ∀ (p : Prop) [Decidable p] (x : UInt8), (if p then [x] else []).length ≤ 1 := fun p _ x => by split <;> simp
  have a1 := e (c.wh = 1) 97
  have a2 := e (c.wh = 2) 98
  have a3 := e (c.qu = true) 99
  have a4 := e (c.det = true) 68
  have a5 := e (c.dat = true) 111
  have a6 := e (c.bare = true) 83
  have a7 := e (c.thin = true) 84
  have a8 := e (c.up = true) 117
  have a9 := e (c.vb = true) 118
  omega
theorem lineW_size (c : Cm) : (lineW c).length ≤ c.nms.length + 6 ∧ totT (lineW c) ≤ totT c.nms + c.anc.size + c.arc.size + 40 := by
  have hk : (byB (keyL c)).size ≤ 10 := by have := keyL_len c; rw [← byL_size, byL_byB]; exact this
  have z1 : wRan.size = 6 := rfl
  have z2 : wD.size = 2 := rfl
  have z3 : wAr.size = 2 := rfl
  have z4 : wBsd.size = 12 := rfl
  have z0 : totT [] = 0 := rfl
  unfold lineW
  by_cases h1 : c.prog = 1
  · rw [if_pos h1]
    simp only [List.length_cons, List.length_append, totT_cons, totT_app]
    cases c.det <;> simp only [if_true, Bool.false_eq_true, if_false, totT_cons, z0, List.length_cons, List.length_nil] <;> omega
  · rw [if_neg h1]
    simp only [List.length_cons, List.length_append, totT_cons, totT_app]
    by_cases h2 : c.kind = 2 <;> by_cases h3 : c.wh = 0 <;> simp only [h2, h3, if_true, if_false, totT_cons, z0, List.length_cons, List.length_nil] <;> omega
theorem stB_e {r : Rd} {b : UInt8} {e : Int} (h : stB r b = .inl e) : e ≠ 0 := by
  unfold stB at h
  by_cases h1 : isOp b = true
  · rw [if_pos h1] at h
    by_cases h0 : r.op = 0
    · rw [if_pos h0] at h; cases h
    · rw [if_neg h0] at h; cases h; decide
  · rw [if_neg h1] at h
    by_cases h2 : isPo b = true
    · rw [if_pos h2] at h
      by_cases h0 : r.po = 0
      · rw [if_pos h0] at h; cases h
      · rw [if_neg h0] at h; cases h; decide
    · rw [if_neg h2] at h
      repeat (split at h; (· cases h))
      cases h; decide
theorem foldR_e (l : List (List UInt8)) : ∀ {r : Rd} {x : List UInt8 × Int}, foldR r l = .inl x → x.2 ≠ 0 := by
  induction l with
  | nil => intro r x h; cases h
  | cons y t ih =>
    intro r x h
    cases hs : stL r y with
    | inl n =>
      rw [foldR_no _ hs] at h
      cases h
      show n ≠ 0
      match y, hs with
      | [b], hs => exact stB_e hs
      | [], hs => cases hs; decide
      | _ :: _ :: _, hs => cases hs; decide
    | inr r1 => rw [foldR_yes _ hs] at h; exact ih h
theorem restC_e {c : Cm} {t : List ByteArray} {x : ByteArray × Int} (h : restC c t = .inl x) : x.2 ≠ 0 := by
  cases t with
  | nil => cases h; decide
  | cons a t => cases h
theorem dec_e {L : List ByteArray} {x : ByteArray × Int} (h : decC L = .inl x) : x.2 ≠ 0 := by
  cases L with
  | nil => cases h; decide
  | cons p t =>
    unfold decC at h
    simp only [] at h
    by_cases hr : p = wRan
    · rw [if_pos hr] at h
      unfold ranC at h
      cases hf : ranF false (dashL t) with
      | inl y => rw [hf] at h; cases h; show (153 : Int) ≠ 0; decide
      | inr d => rw [hf] at h; exact restC_e h
    · rw [if_neg hr] at h
      by_cases ha : p = wAr
      · rw [if_pos ha] at h
        unfold arC at h
        cases ho : optR rd0 t with
        | inl w => rw [ho] at h; cases h; show (154 : Int) ≠ 0; decide
        | inr q =>
          obtain ⟨r, t1⟩ := q
          rw [ho] at h
          simp only [] at h
          cases t1 with
          | nil => cases h; decide
          | cons k t2 =>
            cases hf : foldR r (letL (und k) ++ dashL t2) with
            | inl y =>
              obtain ⟨y, e⟩ := y
              rw [keyR_no hf] at h
              cases h
              exact foldR_e _ hf
            | inr r1 =>
              by_cases h0 : (fin r1).op = 0
              · rw [keyR_op hf h0] at h; cases h; decide
              · rw [keyR_yes hf h0] at h
                simp only [] at h
                by_cases hm : mixR (fin r1) = []
                · rw [if_pos hm] at h
                  unfold lastC at h
                  by_cases hp : (fin r1).po = 0
                  · rw [if_pos hp] at h; exact restC_e h
                  · rw [if_neg hp] at h
                    cases hd : t2.dropWhile dsh with
                    | nil => rw [hd] at h; cases h; decide
                    | cons a l => rw [hd] at h; exact restC_e h
                · rw [if_neg hm] at h; cases h; show (155 : Int) ≠ 0; decide
      · rw [if_neg ha] at h; cases h; show (150 : Int) ≠ 0; decide
theorem probe1 : decC [⟨#[97, 114]⟩, ⟨#[116]⟩, ⟨#[97]⟩] = .inr { cm0 with op := 116, arc := ⟨#[97]⟩ } := by rfl
theorem probe2 : decC [⟨#[97, 114]⟩, ⟨#[116]⟩, ⟨#[97]⟩, ⟨#[45, 110]⟩] = .inr { cm0 with op := 116, arc := ⟨#[97]⟩, nms := [⟨#[45, 110]⟩] } := by rfl
theorem probe3 : decC [⟨#[97, 114]⟩, ⟨#[45, 116]⟩, ⟨#[45, 118]⟩, ⟨#[97]⟩] = .inr { cm0 with op := 116, vb := true, arc := ⟨#[97]⟩ } := by rfl
end Go.Proofs.YtmhamlhmmkbkaaaDoor
