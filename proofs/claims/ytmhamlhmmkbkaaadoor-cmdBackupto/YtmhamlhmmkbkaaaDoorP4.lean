
-- Plain: more names; letters in one word or in two; letters in any order.
import Derived.Test.YtmhamlhmmkbkaaaDoorP3
namespace Go.Proofs.YtmhamlhmmkbkaaaDoor
set_option linter.unusedVariables false
set_option maxRecDepth 100000
set_option linter.unusedSimpArgs false
theorem optR_more (l m : List ByteArray) : ∀ {r r' : Rd} {k : ByteArray} {t : List ByteArray}, optR r l = .inr (r', k :: t) → optR r (l ++ m) = .inr (r', k :: (t ++ m)) := by
  induction l with
  | nil => intro r r' k t e; cases e
  | cons w l ih =>
    intro r r' k t e
    rw [List.cons_append]
    cases hl : isLong w with
    | false => rw [optR_end _ hl] at e ⊢; cases e; rfl
    | true =>
      cases ho : optW r w with
      | none => rw [optR_no _ hl ho] at e; cases e
      | some r1 => rw [optR_go _ hl ho] at e ⊢; exact ih e
theorem while_more {t m : List ByteArray} {a : ByteArray} {l : List ByteArray} (h : t.dropWhile dsh = a :: l) : (t ++ m).takeWhile dsh = t.takeWhile dsh ∧ (t ++ m).dropWhile dsh = a :: (l ++ m) := by
  induction t with
  | nil => cases h
  | cons x t ih =>
    rw [List.dropWhile_cons] at h
    rw [List.cons_append, List.takeWhile_cons, List.dropWhile_cons, List.takeWhile_cons]
    cases hd : dsh x with
    | true =>
      rw [hd] at h
      simp only [if_true] at h ⊢
      obtain ⟨i1, i2⟩ := ih h
      exact ⟨by rw [i1], i2⟩
    | false =>
      rw [hd] at h
      simp only [Bool.false_eq_true, if_false] at h ⊢
      cases h
      exact ⟨trivial, rfl⟩
theorem more {args m : List ByteArray} {c : Cm} (h : decC args = .inr c) : decC (args ++ m) = .inr { c with nms := c.nms ++ m } := by
  cases args with
  | nil => cases h
  | cons p t =>
    rw [List.cons_append]
    unfold decC at h ⊢
    simp only [] at h ⊢
    by_cases hr : p = wRan
    · rw [if_pos hr] at h ⊢
      unfold ranC at h ⊢
      cases hd : t.dropWhile dsh with
      | nil =>
        cases hf : ranF false (dashL t) with
        | inl x => rw [hf] at h; cases h
        | inr d => rw [hf] at h; simp only [] at h; rw [hd] at h; cases h
      | cons a l =>
        obtain ⟨w1, w2⟩ := while_more (m := m) hd
        have e : dashL (t ++ m) = dashL t := by unfold dashL; rw [w1]
        rw [e]
        cases hf : ranF false (dashL t) with
        | inl x => rw [hf] at h; cases h
        | inr d =>
          rw [hf] at h
          simp only [] at h ⊢
          rw [hd] at h
          rw [w2]
          cases h
          rfl
    · rw [if_neg hr] at h ⊢
      by_cases ha : p = wAr
      · rw [if_pos ha] at h ⊢
        obtain ⟨r, t1, k, t2, r1, e1, e2, e3, e4, e5, e6⟩ := ar_parts h
        subst e2
        have hne : ∃ a l, t2.dropWhile dsh = a :: l := by
          cases hd : t2.dropWhile dsh with
          | nil =>
            rw [hd] at e6
            unfold lastC at e6
            by_cases hp : (fin r1).po = 0
            · rw [if_pos hp] at e6; cases e6
            · rw [if_neg hp] at e6; cases e6
          | cons a l => exact ⟨a, l, rfl⟩
        obtain ⟨a, l, hd⟩ := hne
        obtain ⟨w1, w2⟩ := while_more (m := m) hd
        have e : dashL (t2 ++ m) = dashL t2 := by unfold dashL; rw [w1]
        unfold arC
        rw [optR_more t m e1]
        simp only []
        rw [keyR_yes (r1 := r1) (by rw [e]; exact e3) e4]
        simp only [if_pos e5]
        rw [w2]
        rw [hd] at e6
        unfold lastC at e6 ⊢
        by_cases hp : (fin r1).po = 0
        · rw [if_pos hp] at e6 ⊢
          cases e6
          rfl
        · rw [if_neg hp] at e6 ⊢
          simp only [] at e6 ⊢
          cases l with
          | nil => cases e6
          | cons a2 l => cases e6; rfl
      · rw [if_neg ha] at h; cases h
theorem letL_two {a b : List UInt8} (ha : ∀ c ∈ a, c.toNat < 128) (hb : ∀ c ∈ b, c.toNat < 128) : letL (a ++ b) = letL a ++ letL b := by
  rw [letL_small a ha, letL_small b hb, letL_small (a ++ b) (by intro c hc; rcases List.mem_append.1 hc with h | h; exact ha c h; exact hb c h), List.map_append]
theorem split {a b : List UInt8} (t : List ByteArray) (ha : ∀ c ∈ a, c.toNat < 128) (hb : ∀ c ∈ b, c.toNat < 128) (hne : b ≠ []) (h45 : (a ++ b).head? ≠ some 45) : decC (wAr :: byB (a ++ b) :: t) = decC (wAr :: byB a :: byB (45 :: b) :: t) := by
  have hl : isLong (byB (a ++ b)) = false ∧ und (byB (a ++ b)) = a ++ b := by
    cases hab : a ++ b with
    | nil => exact ⟨rfl, rfl⟩
    | cons c r =>
      have : c ≠ 45 := fun e => h45 (by rw [hab, e]; rfl)
      exact ⟨isLong_key r this, und_key r this⟩
  have hl2 : isLong (byB a) = false ∧ und (byB a) = a := by
    cases a with
    | nil => exact ⟨rfl, rfl⟩
    | cons c r =>
      have : c ≠ 45 := fun e => h45 (by rw [e]; rfl)
      exact ⟨isLong_key r this, und_key r this⟩
  have hd : dsh (byB (45 :: b)) = true := by
    unfold dsh
    rw [byL_byB]
    cases b with
    | nil => exact absurd rfl hne
    | cons c r => rfl
  have e1 : dashL (byB (45 :: b) :: t) = letL b ++ dashL t := by
    unfold dashL
    rw [List.takeWhile_cons, if_pos hd, List.flatMap_cons, byL_byB]
    rfl
  have e2 : (byB (45 :: b) :: t).dropWhile dsh = t.dropWhile dsh := by rw [List.dropWhile_cons, if_pos hd]
  rw [decC_ar, decC_ar]
  unfold arC
  rw [optR_end _ hl.1, optR_end _ hl2.1]
  simp only []
  have e3 : letL (und (byB (a ++ b))) ++ dashL t = letL (und (byB a)) ++ dashL (byB (45 :: b) :: t) := by
    rw [hl.2, hl2.2, e1, letL_two ha hb, List.append_assoc]
  have e4 : keyR rd0 (byB (a ++ b) :: t) = keyR rd0 (byB a :: byB (45 :: b) :: t) := by
    show (match foldR rd0 (letL (und (byB (a ++ b))) ++ dashL t) with | .inl (x, e) => Sum.inl (byB x, e) | .inr r1 => if (fin r1).op = 0 then .inl (⟨#[]⟩, 151) else .inr (fin r1, t.dropWhile dsh)) = (match foldR rd0 (letL (und (byB a)) ++ dashL (byB (45 :: b) :: t)) with | .inl (x, e) => Sum.inl (byB x, e) | .inr r1 => if (fin r1).op = 0 then .inl (⟨#[]⟩, 151) else .inr (fin r1, (byB (45 :: b) :: t).dropWhile dsh))
    rw [e3, e2]
  rw [e4]
/-- without telling which letter was refused -/
def okB (r : Rd) (b : UInt8) : Option Rd := match stB r b with
  | .inl _ => none
  | .inr r' => some r'
def okF : Rd → List UInt8 → Option Rd
  | r, [] => some r
  | r, x :: xs => (okB r x).bind fun r' => okF r' xs
theorem okF_of (l : List UInt8) : ∀ {r r' : Rd}, okF r l = some r' ↔ foldB r l = .inr r' := by
  induction l with
  | nil => intro r r'; constructor <;> (intro h; cases h; rfl)
  | cons x t ih =>
    intro r r'
    show (okB r x).bind (fun r' => okF r' t) = some r' ↔ _
    unfold okB
    cases hs : stB r x with
    | inl e => rw [foldB_no _ hs]; constructor <;> (intro h; cases h)
    | inr r1 => rw [foldB_yes _ hs]; exact ih
/-- the letters that set one thing, or none -/
def isSet (x : UInt8) : Bool := isFl x || x == 115 || x == 108
theorem isSet_ways {x : UInt8} (h : isSet x = true) : x = 99 ∨ x = 68 ∨ x = 111 ∨ x = 83 ∨ x = 84 ∨ x = 117 ∨ x = 118 ∨ x = 115 ∨ x = 108 := by
  unfold isSet isFl at h
  simp only [Bool.or_eq_true, beq_iff_eq, or_assoc] at h
  exact h
theorem okB_none {x : UInt8} (h1 : isOp x = false) (h2 : isPo x = false) (h3 : isSet x = false) (r : Rd) : okB r x = none := by
  unfold isSet isFl at h3
  simp only [Bool.or_eq_false_iff, beq_eq_false_iff_ne] at h3
  obtain ⟨⟨⟨⟨⟨⟨⟨⟨a1, a2⟩, a3⟩, a4⟩, a5⟩, a6⟩, a7⟩, a8⟩, a9⟩ := h3
  unfold okB stB
  rw [if_neg (by rw [h1]; decide), if_neg (by rw [h2]; decide), if_neg a1, if_neg a2, if_neg a3, if_neg a4, if_neg a5, if_neg a6, if_neg a7, if_neg a8, if_neg a9]
theorem okB_op {x : UInt8} (h : isOp x = true) (r : Rd) : okB r x = if r.op = 0 then some { r with op := x } else none := by
  unfold okB stB
  rw [if_pos h]
  by_cases h0 : r.op = 0
  · rw [if_pos h0, if_pos h0]
  · rw [if_neg h0, if_neg h0]
theorem isPo_notOp {x : UInt8} (h : isPo x = true) : isOp x = false := by
  rcases isPo_ways h with rfl | rfl | rfl <;> rfl
theorem okB_po {x : UInt8} (h : isPo x = true) (r : Rd) : okB r x = if r.po = 0 then some { r with po := x } else none := by
  unfold okB stB
  rw [if_neg (by rw [isPo_notOp h]; decide), if_pos h]
  by_cases h0 : r.po = 0
  · rw [if_pos h0, if_pos h0]
  · rw [if_neg h0, if_neg h0]
def setS (r : Rd) (x : UInt8) : Rd := if x = 115 then { r with s := true } else if x = 108 then r else setF r x
theorem okB_set {x : UInt8} (h : isSet x = true) (r : Rd) : okB r x = some (setS r x) := by
  rcases isSet_ways h with rfl | rfl | rfl | rfl | rfl | rfl | rfl | rfl | rfl <;> rfl
theorem setS_op {x : UInt8} (h : isSet x = true) (r : Rd) : (setS r x).op = r.op ∧ (setS r x).po = r.po ∧ (∀ y, setS { r with op := y } x = { setS r x with op := y }) ∧ (∀ y, setS { r with po := y } x = { setS r x with po := y }) := by
  rcases isSet_ways h with rfl | rfl | rfl | rfl | rfl | rfl | rfl | rfl | rfl <;> exact ⟨rfl, rfl, fun _ => rfl, fun _ => rfl⟩
theorem setS_comm {x y : UInt8} (hx : isSet x = true) (hy : isSet y = true) (r : Rd) : setS (setS r x) y = setS (setS r y) x := by
  rcases isSet_ways hx with rfl | rfl | rfl | rfl | rfl | rfl | rfl | rfl | rfl <;> rcases isSet_ways hy with rfl | rfl | rfl | rfl | rfl | rfl | rfl | rfl | rfl <;> rfl
theorem setS_twice {x : UInt8} (hx : isSet x = true) (r : Rd) : setS (setS r x) x = setS r x := by
  rcases isSet_ways hx with rfl | rfl | rfl | rfl | rfl | rfl | rfl | rfl | rfl <;> rfl
theorem op_nz {x : UInt8} (h : isOp x = true) : x ≠ 0 := by
  rcases isOp_ways h with rfl | rfl | rfl | rfl | rfl | rfl | rfl <;> decide
theorem po_nz {x : UInt8} (h : isPo x = true) : x ≠ 0 := by
  rcases isPo_ways h with rfl | rfl | rfl <;> decide
/-- which kind of letter -/
theorem kinds (x : UInt8) : isOp x = true ∨ isPo x = true ∨ isSet x = true ∨ (∀ r, okB r x = none) := by
  cases h1 : isOp x with
  | true => exact .inl rfl
  | false =>
    cases h2 : isPo x with
    | true => exact .inr (.inl rfl)
    | false =>
      cases h3 : isSet x with
      | true => exact .inr (.inr (.inl rfl))
      | false => exact .inr (.inr (.inr (okB_none h1 h2 h3)))
theorem bind_none {α β : Type} (a : Option α) : (a.bind fun _ => (none : Option β)) = none := by cases a <;> rfl
theorem okB_comm (r : Rd) (x y : UInt8) : ((okB r x).bind fun r' => okB r' y) = (okB r y).bind fun r' => okB r' x := by
  rcases kinds x with hx | hx | hx | hx
  · rcases kinds y with hy | hy | hy | hy
    · simp only [okB_op hx, okB_op hy]
      by_cases h0 : r.op = 0
      · rw [if_pos h0, if_pos h0]
        show (if x = 0 then _ else none) = (if y = 0 then _ else none)
        rw [if_neg (op_nz hx), if_neg (op_nz hy)]
      · rw [if_neg h0, if_neg h0]; rfl
    · simp only [okB_op hx, okB_po hy]
      by_cases h0 : r.op = 0
      · by_cases h1 : r.po = 0
        · simp [h0, h1]
        · simp [h0, h1]
      · by_cases h1 : r.po = 0
        · simp [h0, h1]
        · simp [h0, h1]
    · obtain ⟨s1, s2, s3, s4⟩ := setS_op hy r
      simp only [okB_op hx, okB_set hy]
      by_cases h0 : r.op = 0
      · rw [if_pos h0]
        show some (setS { r with op := x } y) = (if (setS r y).op = 0 then some { setS r y with op := x } else none)
        rw [s1, if_pos h0]
        exact congrArg some (s3 x)
      · rw [if_neg h0]
        show none = (if (setS r y).op = 0 then some { setS r y with op := x } else none)
        rw [s1, if_neg h0]
    · simp only [hy, Option.bind_none]; exact bind_none _
  · rcases kinds y with hy | hy | hy | hy
    · simp only [okB_po hx, okB_op hy]
      by_cases h0 : r.op = 0
      · by_cases h1 : r.po = 0
        · simp [h0, h1]
        · simp [h0, h1]
      · by_cases h1 : r.po = 0
        · simp [h0, h1]
        · simp [h0, h1]
    · simp only [okB_po hx, okB_po hy]
      by_cases h0 : r.po = 0
      · rw [if_pos h0, if_pos h0]
        show (if x = 0 then _ else none) = (if y = 0 then _ else none)
        rw [if_neg (po_nz hx), if_neg (po_nz hy)]
      · rw [if_neg h0, if_neg h0]; rfl
    · obtain ⟨s1, s2, s3, s4⟩ := setS_op hy r
      simp only [okB_po hx, okB_set hy]
      by_cases h0 : r.po = 0
      · rw [if_pos h0]
        show some (setS { r with po := x } y) = (if (setS r y).po = 0 then some { setS r y with po := x } else none)
        rw [s2, if_pos h0]
        exact congrArg some (s4 x)
      · rw [if_neg h0]
        show none = (if (setS r y).po = 0 then some { setS r y with po := x } else none)
        rw [s2, if_neg h0]
    · simp only [hy, Option.bind_none]; exact bind_none _
  · rcases kinds y with hy | hy | hy | hy
    · obtain ⟨s1, s2, s3, s4⟩ := setS_op hx r
      simp only [okB_op hy, okB_set hx]
      by_cases h0 : r.op = 0
      · rw [if_pos h0]
        show (if (setS r x).op = 0 then some { setS r x with op := y } else none) = some (setS { r with op := y } x)
        rw [s1, if_pos h0]
        exact congrArg some (s3 y).symm
      · rw [if_neg h0]
        show (if (setS r x).op = 0 then some { setS r x with op := y } else none) = none
        rw [s1, if_neg h0]
    · obtain ⟨s1, s2, s3, s4⟩ := setS_op hx r
      simp only [okB_po hy, okB_set hx]
      by_cases h0 : r.po = 0
      · rw [if_pos h0]
        show (if (setS r x).po = 0 then some { setS r x with po := y } else none) = some (setS { r with po := y } x)
        rw [s2, if_pos h0]
        exact congrArg some (s4 y).symm
      · rw [if_neg h0]
        show (if (setS r x).po = 0 then some { setS r x with po := y } else none) = none
        rw [s2, if_neg h0]
    · simp only [okB_set hx, okB_set hy]
      show some _ = some _
      rw [setS_comm hx hy]
    · simp only [hy, Option.bind_none]; exact bind_none _
  · simp only [hx, Option.bind_none]; exact (bind_none _).symm
theorem okF_perm {a b : List UInt8} (h : a.Perm b) : ∀ r, okF r a = okF r b := by
  induction h with
  | nil => intro r; rfl
  | cons x _ ih =>
    intro r
    show (okB r x).bind _ = (okB r x).bind _
    congr 1
    funext r'
    exact ih r'
  | swap x y l =>
    intro r
    show ((okB r y).bind fun r1 => (okB r1 x).bind fun r2 => okF r2 l) = (okB r x).bind fun r1 => (okB r1 y).bind fun r2 => okF r2 l
    have h1 := congrArg (fun o => Option.bind o fun r2 => okF r2 l) (okB_comm r y x)
    simp only [Option.bind_assoc] at h1
    exact h1
  | trans _ _ i1 i2 => intro r; rw [i1 r, i2 r]
/-- a flag that stands there already may stand once more -/
theorem okF_twice {a : List UInt8} {x : UInt8} (hx : isFl x = true) (hm : x ∈ a) (r : Rd) : okF r (a ++ [x]) = okF r a := by
  have hs : isSet x = true := by unfold isSet; rw [hx]; rfl
  obtain ⟨p, hp⟩ : ∃ p, a.Perm (x :: p) := ⟨_, List.perm_cons_erase hm⟩
  have h1 : (a ++ [x]).Perm (x :: x :: p) := (List.perm_append_comm).trans (List.Perm.cons x hp)
  rw [okF_perm h1 r, okF_perm hp r]
  show ((okB r x).bind fun r1 => (okB r1 x).bind fun r2 => okF r2 p) = (okB r x).bind fun r1 => okF r1 p
  simp only [okB_set hs]
  show okF (setS (setS r x) x) p = okF (setS r x) p
  rw [setS_twice hs]
end Go.Proofs.YtmhamlhmmkbkaaaDoor
