
-- Plain: there and back; more names; letters in two words.
import Derived.Test.YtmhamlhmmkbkaaaDoorP2
namespace Go.Proofs.YtmhamlhmmkbkaaaDoor
set_option linter.unusedVariables false
set_option maxRecDepth 100000
set_option linter.unusedSimpArgs false
theorem takeD {a : ByteArray} (l : List ByteArray) (h : dsh a = false) : (a :: l).takeWhile dsh = [] := by simp [List.takeWhile_cons, h]
theorem dropD {a : ByteArray} (l : List ByteArray) (h : dsh a = false) : (a :: l).dropWhile dsh = a :: l := by simp [List.dropWhile_cons, h]
theorem dashD {a : ByteArray} (l : List ByteArray) (h : dsh a = false) : dashL (a :: l) = [] := by unfold dashL; rw [takeD l h]; rfl
theorem isLong_key {c : UInt8} (t : List UInt8) (h : c ≠ 45) : isLong (byB (c :: t)) = false := by
  unfold isLong
  rw [byL_byB]
  split
  · next e => injection e with e1 _; exact absurd e1 h
  · rfl
theorem und_key {c : UInt8} (t : List UInt8) (h : c ≠ 45) : und (byB (c :: t)) = c :: t := by
  unfold und
  rw [byL_byB]
  split
  · next e => injection e with e1 _; exact absurd e1 h
  · rfl
theorem cm_ext {c d : Cm} (h1 : c.prog = d.prog) (h2 : c.op = d.op) (h3 : c.vb = d.vb) (h4 : c.up = d.up) (h5 : c.qu = d.qu) (h6 : c.det = d.det) (h7 : c.dat = d.dat) (h8 : c.bare = d.bare) (h9 : c.thin = d.thin) (h10 : c.kind = d.kind) (h11 : c.wh = d.wh) (h12 : c.anc = d.anc) (h13 : c.arc = d.arc) (h14 : c.nms = d.nms) : c = d := by
  cases c; cases d; simp_all
theorem mix_rd {c : Cm} (h : Good c) : mixR (rdOf c) = [] := by
  unfold mixR rdOf
  simp only []
  rw [whOf_po h.wh0 h.wh2]
  exact mixL_p h.mix _
/-- what stands behind the key word -/
def tailW (c : Cm) : List ByteArray := (if c.wh = 0 then [] else [c.anc]) ++ c.arc :: c.nms
theorem tail_dash {c : Cm} (h : Good c) : dashL (tailW c) = [] ∧ (tailW c).dropWhile dsh = tailW c := by
  unfold tailW
  by_cases hw : c.wh = 0
  · rw [if_pos hw, List.nil_append]; exact ⟨dashD _ (h.arcD hw), dropD _ (h.arcD hw)⟩
  · rw [if_neg hw]; exact ⟨dashD _ (h.ancD hw), dropD _ (h.ancD hw)⟩
theorem po_zero {c : Cm} (h : Good c) : (rdOf c).po = 0 ↔ c.wh = 0 := by
  have h0 := h.wh0
  have h2 := h.wh2
  unfold rdOf
  simp only []
  by_cases h1 : c.wh = 1
  · rw [if_pos h1]; constructor
    · intro e; exact absurd e (by decide)
    · intro e; omega
  · by_cases h3 : c.wh = 2
    · rw [if_neg h1, if_pos h3]; constructor
      · intro e; exact absurd e (by decide)
      · intro e; omega
    · rw [if_neg h1, if_neg h3]; constructor
      · intro _; omega
      · intro _; rfl
theorem last_rd {c : Cm} (h : Good c) (hp : c.prog = 0) : lastC (rdOf c) (tailW c) = .inr c := by
  have hz := po_zero h
  have hwo : whOf (rdOf c).po = c.wh := whOf_po h.wh0 h.wh2
  unfold lastC tailW
  by_cases hw : c.wh = 0
  · rw [if_pos (hz.2 hw), if_pos hw, List.nil_append]
    show Sum.inr _ = Sum.inr _
    congr 1
    exact cm_ext hp.symm rfl rfl rfl rfl rfl rfl rfl rfl rfl hwo (h.anc0 hw).symm rfl rfl
  · rw [if_neg (fun e => hw (hz.1 e)), if_neg hw]
    show Sum.inr _ = Sum.inr _
    congr 1
    exact cm_ext hp.symm rfl rfl rfl rfl rfl rfl rfl rfl rfl hwo rfl rfl rfl
/-- any key word whose letters mean the command's -/
theorem back_key {c : Cm} (h : Good c) (hp : c.prog = 0) (k : ByteArray) (hl : isLong k = false) (r : Rd) (hf : foldR (rdK c.kind) (letL (und k)) = .inr r) (hr : fin r = rdOf c) :
    decC (wAr :: ((if c.kind = 2 then [wBsd] else []) ++ k :: tailW c)) = .inr c := by
  obtain ⟨t1, t2⟩ := tail_dash h
  rw [dec_key c.kind h.kind k (tailW c) hl r (by rw [t1, List.append_nil]; exact hf) (by rw [hr]; exact (known_small h.op).2.2), hr, if_pos (mix_rd h), t2]
  exact last_rd h hp
theorem lineW_ar {c : Cm} (hp : c.prog = 0) : lineW c = wAr :: ((if c.kind = 2 then [wBsd] else []) ++ byB (keyL c) :: tailW c) := by
  unfold lineW
  rw [if_neg (by omega)]
  rfl
theorem back {c : Cm} (h : Good c) : decC (lineW c) = .inr c := by
  rcases h.prog with hp | hp
  · rw [lineW_ar hp]
    obtain ⟨r, h1, h2⟩ := key_fold c h.op
    have hk := (known_small h.op).2.1
    refine back_key h hp _ ?_ r ?_ h2
    · unfold keyL; exact isLong_key _ hk
    · have e : und (byB (keyL c)) = keyL c := by unfold keyL; exact und_key _ hk
      rw [e]
      exact fold_key c h.op h1
  · obtain ⟨a1, a2, a3, a4, a5, a6, a7, a8⟩ := h.ran hp
    have ha := h.arcD a8
    have hk : c.kind = 0 := by have := h.kind; omega
    unfold lineW
    rw [if_pos hp, decC_ran]
    unfold ranC
    cases hd : c.det with
    | false =>
      simp only [Bool.false_eq_true, if_false, List.nil_append]
      rw [dashD _ ha, dropD _ ha]
      show Sum.inr _ = Sum.inr _
      congr 1
      exact cm_ext hp.symm (h.opR hp).symm a1.symm a2.symm a3.symm hd.symm a4.symm a5.symm a6.symm hk.symm a8.symm (h.anc0 a8).symm rfl rfl
    | true =>
      simp only [if_true, List.cons_append, List.nil_append]
      have e1 : dashL (wD :: c.arc :: c.nms) = [[68]] := by
        unfold dashL
        rw [List.takeWhile_cons, if_pos (show dsh wD = true from rfl), takeD _ ha]
        show letL [68] ++ [] = _
        rw [letL_small [68] (by simp), List.append_nil]
        rfl
      have e2 : (wD :: c.arc :: c.nms).dropWhile dsh = c.arc :: c.nms := by
        rw [List.dropWhile_cons, if_pos (show dsh wD = true from rfl), dropD _ ha]
      rw [e1, e2]
      show Sum.inr _ = Sum.inr _
      congr 1
      exact cm_ext hp.symm (h.opR hp).symm a1.symm a2.symm a3.symm hd.symm a4.symm a5.symm a6.symm hk.symm a8.symm (h.anc0 a8).symm rfl rfl
/-- what is known of what was read -/
def RdOk (r : Rd) : Prop := (r.op = 0 ∨ isOp r.op = true) ∧ (r.kind = 0 ∨ r.kind = 2) ∧ (r.po = 0 ∨ isPo r.po = true)
theorem stB_ok {r r' : Rd} {b : UInt8} (h : RdOk r) (e : stB r b = .inr r') : RdOk r' := by
  unfold stB at e
  by_cases h1 : isOp b = true
  · rw [if_pos h1] at e
    by_cases h0 : r.op = 0
    · rw [if_pos h0] at e; cases e; exact ⟨.inr h1, h.2.1, h.2.2⟩
    · rw [if_neg h0] at e; cases e
  · rw [if_neg h1] at e
    by_cases h2 : isPo b = true
    · rw [if_pos h2] at e
      by_cases h0 : r.po = 0
      · rw [if_pos h0] at e; cases e; exact ⟨h.1, h.2.1, .inr h2⟩
      · rw [if_neg h0] at e; cases e
    · rw [if_neg h2] at e
      repeat (split at e; (· cases e; exact h))
      cases e
theorem foldR_ok (l : List (List UInt8)) : ∀ {r r' : Rd}, RdOk r → foldR r l = .inr r' → RdOk r' := by
  induction l with
  | nil => intro r r' h e; cases e; exact h
  | cons x t ih =>
    intro r r' h e
    cases hs : stL r x with
    | inl n => rw [foldR_no _ hs] at e; cases e
    | inr r1 =>
      rw [foldR_yes _ hs] at e
      refine ih ?_ e
      match x, hs with
      | [b], hs => exact stB_ok h hs
      | [], hs => cases hs
      | _ :: _ :: _, hs => cases hs
theorem optW_ok {r r' : Rd} {w : ByteArray} (h : RdOk r) (e : optW r w = some r') : RdOk r' := by
  unfold optW at e
  split at e
  · cases e; exact ⟨h.1, .inl rfl, h.2.2⟩
  · split at e
    · cases e; exact ⟨h.1, .inr rfl, h.2.2⟩
    · split at e
      · cases e; exact h
      · cases e
theorem optR_ok (l : List ByteArray) : ∀ {r r' : Rd} {t : List ByteArray}, RdOk r → optR r l = .inr (r', t) → RdOk r' := by
  induction l with
  | nil => intro r r' t h e; cases e; exact h
  | cons w l ih =>
    intro r r' t h e
    cases hl : isLong w with
    | false => rw [optR_end _ hl] at e; cases e; exact h
    | true =>
      cases ho : optW r w with
      | none => rw [optR_no _ hl ho] at e; cases e
      | some r1 => rw [optR_go _ hl ho] at e; exact ih (optW_ok h ho) e
theorem fin_ok {r : Rd} (h : RdOk r) : ((fin r).op = 0 ∨ known (fin r).op = true) ∧ ((fin r).kind = 0 ∨ (fin r).kind = 2) ∧ ((fin r).po = 0 ∨ isPo (fin r).po = true) := by
  unfold fin
  by_cases h1 : r.op = 0 ∧ r.s = true
  · rw [if_pos h1]; exact ⟨.inr rfl, h.2.1, h.2.2⟩
  · rw [if_neg h1]
    refine ⟨?_, h.2.1, h.2.2⟩
    rcases h.1 with h | h
    · exact .inl h
    · right; unfold known; rw [h]; rfl
theorem drop_head {t : List ByteArray} {a : ByteArray} {l : List ByteArray} (h : t.dropWhile dsh = a :: l) : dsh a = false := by
  induction t with
  | nil => cases h
  | cons x t ih =>
    rw [List.dropWhile_cons] at h
    cases hd : dsh x with
    | true => rw [hd] at h; exact ih h
    | false => rw [hd] at h; simp only [Bool.false_eq_true, if_false] at h; cases h; exact hd
/-- a line that is taken: its parts -/
theorem ar_parts {t : List ByteArray} {c : Cm} (h : arC t = .inr c) : ∃ r t1 k t2 r1, optR rd0 t = .inr (r, t1) ∧ t1 = k :: t2 ∧ foldR r (letL (und k) ++ dashL t2) = .inr r1 ∧ (fin r1).op ≠ 0 ∧ mixR (fin r1) = [] ∧ lastC (fin r1) (t2.dropWhile dsh) = .inr c := by
  unfold arC at h
  cases ho : optR rd0 t with
  | inl w => rw [ho] at h; cases h
  | inr p =>
    obtain ⟨r, t1⟩ := p
    rw [ho] at h
    simp only [] at h
    cases t1 with
    | nil => cases h
    | cons k t2 =>
      cases hf : foldR r (letL (und k) ++ dashL t2) with
      | inl x =>
        obtain ⟨x, e⟩ := x
        rw [keyR_no hf] at h
        cases h
      | inr r1 =>
        by_cases h0 : (fin r1).op = 0
        · rw [keyR_op hf h0] at h; cases h
        · rw [keyR_yes hf h0] at h
          simp only [] at h
          by_cases hm : mixR (fin r1) = []
          · rw [if_pos hm] at h
            exact ⟨r, _, k, t2, r1, rfl, rfl, hf, h0, hm, h⟩
          · rw [if_neg hm] at h; cases h
theorem whOf_range (p : UInt8) : 0 ≤ whOf p ∧ whOf p ≤ 2 ∧ (whOf p = 0 ↔ p = 0) := by
  unfold whOf
  by_cases h : p = 0
  · rw [if_pos h]; simp [h]
  · rw [if_neg h]
    by_cases h1 : p = 97
    · rw [if_pos h1]; simp [h]
    · rw [if_neg h1]; simp [h]
theorem mixL_97 {op : UInt8} {wh : Int} {up det thin : Bool} {kind : Int} {dat qu bare : Bool} {p : List UInt8} (h : mixL op wh up det thin kind dat qu bare p = []) (hp : wh ≠ 0 → p ≠ []) : mixL op wh up det thin kind dat qu bare [97] = [] := by
  unfold mixL at h ⊢
  by_cases h1 : wh ≠ 0 ∧ ¬ (op = 109 ∨ op = 114)
  · rw [if_pos h1] at h; exact absurd h (hp h1.1)
  · rw [if_neg h1] at h ⊢; exact h
theorem forth {args : List ByteArray} {c : Cm} (h : decC args = .inr c) : Good c := by
  cases args with
  | nil => cases h
  | cons p t =>
    unfold decC at h
    simp only [] at h
    by_cases hr : p = wRan
    · rw [if_pos hr] at h
      unfold ranC at h
      cases hf : ranF false (dashL t) with
      | inl x => rw [hf] at h; cases h
      | inr d =>
        rw [hf] at h
        simp only [] at h
        cases hd : t.dropWhile dsh with
        | nil => rw [hd] at h; cases h
        | cons a l =>
          rw [hd] at h
          cases h
          have ha := drop_head hd
          refine ⟨.inr rfl, rfl, fun _ => rfl, .inl rfl, (show (0 : Int) ≤ 0 by decide), (show (0 : Int) ≤ 2 by decide), fun _ => ⟨rfl, rfl, rfl, rfl, rfl, rfl, (show (0 : Int) ≠ 2 by decide), rfl⟩, ?_, fun _ => rfl, fun e => absurd rfl e, fun _ => ha⟩
          unfold mixC mixL cmRan cm0
          cases d <;> rfl
    · rw [if_neg hr] at h
      by_cases ha : p = wAr
      · rw [if_pos ha] at h
        obtain ⟨r, t1, k, t2, r1, e1, e2, e3, e4, e5, e6⟩ := ar_parts h
        have hok : RdOk r := optR_ok t ⟨.inl rfl, .inl rfl, .inl rfl⟩ e1
        obtain ⟨k1, k2, k3⟩ := fin_ok (foldR_ok _ hok e3)
        have hkn : known (fin r1).op = true := by
          rcases k1 with k1 | k1
          · exact absurd k1 e4
          · exact k1
        obtain ⟨w1, w2, w3⟩ := whOf_range (fin r1).po
        have hm97 : mixL (fin r1).op (whOf (fin r1).po) (fin r1).up (fin r1).det (fin r1).thin (fin r1).kind (fin r1).dat (fin r1).qu (fin r1).bare [97] = [] := by
          refine mixL_97 e5 fun hw => ?_
          unfold poL
          rw [if_neg (fun e => hw (w3.2 e))]
          simp
        unfold lastC at e6
        by_cases hp : (fin r1).po = 0
        · rw [if_pos hp] at e6
          cases hd : t2.dropWhile dsh with
          | nil => rw [hd] at e6; cases e6
          | cons a l =>
            rw [hd] at e6
            cases e6
            have hda := drop_head hd
            exact ⟨.inl rfl, hkn, fun e => absurd e (show ¬ (0 : Int) = 1 by decide), k2, w1, w2, fun e => absurd e (show ¬ (0 : Int) = 1 by decide), hm97, fun _ => rfl, fun e => absurd (w3.2 hp) e, fun _ => hda⟩
        · rw [if_neg hp] at e6
          cases hd : t2.dropWhile dsh with
          | nil => rw [hd] at e6; cases e6
          | cons a l =>
            rw [hd] at e6
            simp only [] at e6
            have hda := drop_head hd
            cases l with
            | nil => cases e6
            | cons a2 l =>
              cases e6
              exact ⟨.inl rfl, hkn, fun e => absurd e (show ¬ (0 : Int) = 1 by decide), k2, w1, w2, fun e => absurd e (show ¬ (0 : Int) = 1 by decide), hm97, fun e => absurd (w3.1 e) hp, fun _ => hda, fun e => absurd (w3.1 e) hp⟩
      · rw [if_neg ha] at h; cases h
end Go.Proofs.YtmhamlhmmkbkaaaDoor
