
-- Plain: a command's line means the command.
import Derived.Test.YtmhamlhmmkbkaaaDoorP1
namespace Go.Proofs.YtmhamlhmmkbkaaaDoor
set_option linter.unusedVariables false
set_option maxRecDepth 100000
set_option linter.unusedSimpArgs false
def rdK (k : Int) : Rd := ⟨0, false, false, false, false, false, false, false, k, 0, false⟩
def rdOf (c : Cm) : Rd := ⟨c.op, c.vb, c.up, c.qu, c.det, c.dat, c.bare, c.thin, c.kind, if c.wh = 1 then 97 else if c.wh = 2 then 98 else 0, c.op == 115⟩
theorem known_ways {b : UInt8} (h : known b = true) : isOp b = true ∨ b = 115 := by
  unfold known at h
  simp only [Bool.or_eq_true, beq_iff_eq] at h
  exact h
theorem known_small {b : UInt8} (h : known b = true) : b.toNat < 128 ∧ b ≠ 45 ∧ b ≠ 0 := by
  rcases known_ways h with h | rfl
  · rcases isOp_ways h with rfl | rfl | rfl | rfl | rfl | rfl | rfl <;> decide
  · decide
theorem setF_if (r : Rd) (b : Bool) (x : UInt8) : (if b then setF r x else r) =
    if x = 99 then { r with qu := r.qu || b } else if x = 68 then { r with det := r.det || b } else if x = 111 then { r with dat := r.dat || b } else if x = 83 then { r with bare := r.bare || b } else if x = 84 then { r with thin := r.thin || b } else if x = 117 then { r with up := r.up || b } else { r with vb := r.vb || b } := by
  obtain ⟨a1, a2, a3, a4, a5, a6, a7, a8, a9, a10, a11⟩ := r
  unfold setF
  cases b
  · simp
  · simp
theorem flags_fold (r : Rd) (q d o s t u v : Bool) : foldB r (flagL q 99 ++ (flagL d 68 ++ (flagL o 111 ++ (flagL s 83 ++ (flagL t 84 ++ (flagL u 117 ++ flagL v 118)))))) = .inr { r with qu := r.qu || q, det := r.det || d, dat := r.dat || o, bare := r.bare || s, thin := r.thin || t, up := r.up || u, vb := r.vb || v } := by
  rw [foldB_flag _ q 99 rfl, foldB_flag _ d 68 rfl, foldB_flag _ o 111 rfl, foldB_flag _ s 83 rfl, foldB_flag _ t 84 rfl, foldB_flag _ u 117 rfl]
  rw [show flagL v 118 = flagL v 118 ++ [] by simp, foldB_flag _ v 118 rfl]
  simp only [setF_if]
  rfl
theorem key_fold (c : Cm) (hk : known c.op = true) : ∃ r, foldB (rdK c.kind) (keyL c) = .inr r ∧ fin r = rdOf c := by
  obtain ⟨prog, op, vb, up, qu, det, dat, bare, thin, kind, wh, anc, arc, nms⟩ := c
  simp only [] at hk
  have hpo : ∀ r : Rd, r.po = 0 → foldB r ((if wh = 1 then [97] else []) ++ ((if wh = 2 then [98] else []) ++ (flagL qu 99 ++ (flagL det 68 ++ (flagL dat 111 ++ (flagL bare 83 ++ (flagL thin 84 ++ (flagL up 117 ++ flagL vb 118)))))))) = .inr { r with po := if wh = 1 then 97 else if wh = 2 then 98 else 0, qu := r.qu || qu, det := r.det || det, dat := r.dat || dat, bare := r.bare || bare, thin := r.thin || thin, up := r.up || up, vb := r.vb || vb } := by
    intro r hr
    by_cases h1 : wh = 1
    · have h2 : ¬ wh = 2 := by omega
      simp only [h1, if_true, if_neg h2, List.cons_append, List.nil_append]
      rw [foldB_yes _ (stB_po r (x := 97) rfl hr), if_neg (by decide), List.nil_append, flags_fold]
    · by_cases h2 : wh = 2
      · simp only [h2, if_true, if_neg h1, List.cons_append, List.nil_append]
        rw [if_neg (by decide), List.nil_append, foldB_yes _ (stB_po r (x := 98) rfl hr), flags_fold]
        simp
      · rw [if_neg h1, if_neg h2, List.nil_append, List.nil_append, flags_fold, if_neg h1, if_neg h2]
        rw [← hr]
  unfold keyL
  simp only []
  rcases known_ways hk with h | rfl
  · refine ⟨_, by rw [foldB_yes _ (stB_op _ h rfl)]; exact hpo _ rfl, ?_⟩
    have h0 : op ≠ 0 := (known_small hk).2.2
    have h1 : (op == 115) = false := by
      rcases isOp_ways h with rfl | rfl | rfl | rfl | rfl | rfl | rfl <;> rfl
    unfold fin rdOf
    rw [if_neg (by simp [h0])]
    simp [rdK, h1]
  · refine ⟨_, by rw [foldB_yes _ (stB_s _)]; exact hpo _ rfl, ?_⟩
    unfold fin rdOf
    rw [if_pos (by simp [rdK])]
    simp [rdK]
theorem dropNone {α : Type} {p : α → Bool} {t : List α} (h : t.takeWhile p = []) : t.dropWhile p = t := by
  have := List.takeWhile_append_dropWhile (p := p) (l := t)
  rw [h, List.nil_append] at this
  exact this
theorem decC_ar (t : List ByteArray) : decC (wAr :: t) = arC t := by
  show (if wAr = wRan then ranC t else if wAr = wAr then arC t else .inl (wAr, 150)) = _
  rw [if_neg (show ¬ wAr = wRan by decide), if_pos rfl]
theorem decC_ran (t : List ByteArray) : decC (wRan :: t) = ranC t := by
  show (if wRan = wRan then ranC t else if wRan = wAr then arC t else .inl (wRan, 150)) = _
  rw [if_pos rfl]
theorem keyR_yes {r r1 : Rd} {k : ByteArray} {t : List ByteArray} (h : foldR r (letL (und k) ++ dashL t) = .inr r1) (ho : (fin r1).op ≠ 0) : keyR r (k :: t) = .inr (fin r1, t.dropWhile dsh) := by
  show (match foldR r (letL (und k) ++ dashL t) with | .inl (x, e) => Sum.inl (byB x, e) | .inr r1 => if (fin r1).op = 0 then .inl (⟨#[]⟩, 151) else .inr (fin r1, t.dropWhile dsh)) = _
  rw [h]
  simp only [if_neg ho]
theorem keyR_no {r : Rd} {k : ByteArray} {t : List ByteArray} {x : List UInt8} {e : Int} (h : foldR r (letL (und k) ++ dashL t) = .inl (x, e)) : keyR r (k :: t) = .inl (byB x, e) := by
  show (match foldR r (letL (und k) ++ dashL t) with | .inl (x, e) => Sum.inl (byB x, e) | .inr r1 => if (fin r1).op = 0 then .inl (⟨#[]⟩, 151) else .inr (fin r1, t.dropWhile dsh)) = _
  rw [h]
theorem keyR_op {r r1 : Rd} {k : ByteArray} {t : List ByteArray} (h : foldR r (letL (und k) ++ dashL t) = .inr r1) (ho : (fin r1).op = 0) : keyR r (k :: t) = .inl (⟨#[]⟩, 151) := by
  show (match foldR r (letL (und k) ++ dashL t) with | .inl (x, e) => Sum.inl (byB x, e) | .inr r1 => if (fin r1).op = 0 then .inl (⟨#[]⟩, 151) else .inr (fin r1, t.dropWhile dsh)) = _
  rw [h]
  simp only [if_pos ho]
theorem optR_end {r : Rd} {k : ByteArray} (t : List ByteArray) (h : isLong k = false) : optR r (k :: t) = .inr (r, k :: t) := by
  rw [optR, h]
  rfl
theorem optR_go {r r' : Rd} {k : ByteArray} (t : List ByteArray) (h : isLong k = true) (h2 : optW r k = some r') : optR r (k :: t) = optR r' t := by
  rw [optR, h, h2]
  rfl
theorem optR_no {r : Rd} {k : ByteArray} (t : List ByteArray) (h : isLong k = true) (h2 : optW r k = none) : optR r (k :: t) = .inl k := by
  rw [optR, h, h2]
  rfl
theorem dec_key (kd : Int) (hk : kd = 0 ∨ kd = 2) (k : ByteArray) (t : List ByteArray) (hl : isLong k = false) (r : Rd) (hf : foldR (rdK kd) (letL (und k) ++ dashL t) = .inr r) (ho : (fin r).op ≠ 0) :
    decC (wAr :: ((if kd = 2 then [wBsd] else []) ++ k :: t)) = if mixR (fin r) = [] then lastC (fin r) (t.dropWhile dsh) else .inl (byB (mixR (fin r)), 155) := by
  have h2 : optR rd0 ((if kd = 2 then [wBsd] else []) ++ k :: t) = .inr ((rdK kd), k :: t) := by
    rcases hk with rfl | rfl
    · rw [if_neg (by decide), List.nil_append, optR_end t hl]
      rfl
    · rw [if_pos rfl]
      show optR rd0 (wBsd :: k :: t) = _
      rw [optR_go _ (r' := rdK 2) rfl (by unfold optW; rw [if_neg (by decide), if_pos rfl]; rfl), optR_end t hl]
  rw [decC_ar]
  unfold arC
  rw [h2]
  simp only []
  rw [keyR_yes hf ho]
theorem mixL_p {op : UInt8} {wh : Int} {up det thin : Bool} {kind : Int} {dat qu bare : Bool} (h : mixL op wh up det thin kind dat qu bare [97] = []) (p : List UInt8) : mixL op wh up det thin kind dat qu bare p = [] := by
  unfold mixL at h ⊢
  by_cases h1 : wh ≠ 0 ∧ ¬ (op = 109 ∨ op = 114)
  · rw [if_pos h1] at h; cases h
  · rw [if_neg h1] at h ⊢; exact h
theorem ite_inl {p : Prop} [Decidable p] {a b : Int} (h : (if p then a else b) = 0) (ha : a ≠ 0) : ¬ p ∧ b = 0 := by
  by_cases hp : p
  · rw [if_pos hp] at h; exact absurd h ha
  · rw [if_neg hp] at h; exact ⟨hp, h⟩
structure Good (c : Cm) : Prop where
  prog : c.prog = 0 ∨ c.prog = 1
  op : known c.op = true
  opR : c.prog = 1 → c.op = 115
  kind : c.kind = 0 ∨ c.kind = 2
  wh0 : 0 ≤ c.wh
  wh2 : c.wh ≤ 2
  ran : c.prog = 1 → c.vb = false ∧ c.up = false ∧ c.qu = false ∧ c.dat = false ∧ c.bare = false ∧ c.thin = false ∧ c.kind ≠ 2 ∧ c.wh = 0
  mix : mixC c = []
  anc0 : c.wh = 0 → c.anc = ⟨#[]⟩
  ancD : c.wh ≠ 0 → dsh c.anc = false
  arcD : c.wh = 0 → dsh c.arc = false
theorem good_of {c : Cm} (h : refC c = 0) : Good c := by
  unfold refC at h
  obtain ⟨h1, h⟩ := ite_inl h (by decide)
  obtain ⟨h2, h⟩ := ite_inl h (by decide)
  obtain ⟨h3, h⟩ := ite_inl h (by decide)
  obtain ⟨h4, h⟩ := ite_inl h (by decide)
  obtain ⟨h5, h⟩ := ite_inl h (by decide)
  obtain ⟨h6, h⟩ := ite_inl h (by decide)
  obtain ⟨h7, h⟩ := ite_inl h (by decide)
  obtain ⟨h8, h⟩ := ite_inl h (by decide)
  refine ⟨by omega, ?_, ?_, by omega, by omega, by omega, ?_, ?_, ?_, ?_, ?_⟩
  · cases hk : known c.op with
    | true => rfl
    | false => exact absurd (.inl hk) h2
  · intro hp
    by_cases ho : c.op = 115
    · exact ho
    · exact absurd (.inr ⟨hp, ho⟩) h2
  · intro hp
    have h9 : ¬ (c.vb = true ∨ c.up = true ∨ c.qu = true ∨ c.dat = true ∨ c.bare = true ∨ c.thin = true ∨ c.kind = 2 ∨ c.wh ≠ 0) := fun e => h4 ⟨hp, e⟩
    simp only [not_or, Bool.not_eq_true, ne_eq, Decidable.not_not] at h9
    exact h9
  · exact Decidable.not_not.1 h5
  · intro hw
    exact Decidable.not_not.1 fun e => h6 ⟨hw, e⟩
  · intro hw
    cases hd : dsh c.anc with
    | false => rfl
    | true => exact absurd ⟨hw, hd⟩ h7
  · intro hw
    cases hd : dsh c.arc with
    | false => rfl
    | true => exact absurd ⟨hw, hd⟩ h8
theorem good_ref {c : Cm} (h : Good c) : refC c = 0 := by
  unfold refC
  rw [if_neg (by have := h.prog; omega)]
  rw [if_neg (by rintro (e | ⟨e1, e2⟩); (rw [h.op] at e; cases e); exact e2 (h.opR e1))]
  rw [if_neg (by have := h.kind; have := h.wh0; have := h.wh2; omega)]
  rw [if_neg (by
    rintro ⟨e1, e⟩
    obtain ⟨a1, a2, a3, a4, a5, a6, a7, a8⟩ := h.ran e1
    rw [a1, a2, a3, a4, a5, a6] at e
    simp [a7, a8] at e)]
  rw [if_neg (by rw [h.mix]; simp)]
  rw [if_neg (by rintro ⟨e1, e2⟩; exact e2 (h.anc0 e1))]
  rw [if_neg (by rintro ⟨e1, e2⟩; rw [h.ancD e1] at e2; cases e2)]
  rw [if_neg (by rintro ⟨e1, e2⟩; rw [h.arcD e1] at e2; cases e2)]
theorem whOf_po {wh : Int} (h0 : 0 ≤ wh) (h2 : wh ≤ 2) : whOf (if wh = 1 then 97 else if wh = 2 then 98 else 0) = wh := by
  by_cases h1 : wh = 1
  · subst h1; rfl
  · by_cases h3 : wh = 2
    · subst h3; rfl
    · have : wh = 0 := by omega
      subst this; rfl
theorem keyL_small (c : Cm) (hk : known c.op = true) : ∀ b ∈ keyL c, b.toNat < 128 ∧ b ≠ 45 := by
  intro b hb
  unfold keyL flagL at hb
  rcases List.mem_cons.1 hb with rfl | hb
  · exact ⟨(known_small hk).1, (known_small hk).2.1⟩
  · simp only [List.mem_append] at hb
    rcases hb with hb | hb | hb | hb | hb | hb | hb | hb | hb
    all_goals (
      split at hb
      · simp only [List.mem_cons, List.not_mem_nil, or_false] at hb
        subst hb
        decide
      · cases hb)
theorem fold_key (c : Cm) (hk : known c.op = true) {r : Rd} (h : foldB (rdK c.kind) (keyL c) = .inr r) : foldR (rdK c.kind) (letL (keyL c)) = .inr r := by
  rw [letL_small _ (fun b hb => (keyL_small c hk b hb).1), foldR_map, h]
  rfl
end Go.Proofs.YtmhamlhmmkbkaaaDoor
