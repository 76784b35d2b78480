
-- Plain: what Text writes of clean commands is read back (2).
import Derived.Test.YtdamhdceajmdfaaDoorPB
namespace Go.Proofs.YtdamhdceajmdfaaDoor
open Go.ChangeShapes Go.WideShapes Go.ChangeAt Go.RowKit
set_option linter.unusedVariables false
set_option maxRecDepth 100000
set_option linter.unusedSimpArgs false
theorem wordL_ok (k : Nat) (h0 : 0 < k) (h1 : k < 14) : (∀ b ∈ wordL.getD k [], okB b = true) ∧ wordL.getD k [] ≠ [] ∧ wordL.getD k [] ≠ [43] ∧ (((List.range 14).find? fun v => wordL.getD v [] == (wordL.getD k []).map capB).getD 0) = k := by
  have : ∀ j : Fin 14, 0 < j.val → ((wordL.getD j.val []).all okB = true ∧ wordL.getD j.val [] ≠ [] ∧ wordL.getD j.val [] ≠ [43] ∧ (((List.range 14).find? fun v => wordL.getD v [] == (wordL.getD j.val []).map capB).getD 0) = j.val) := by decide
  have := this ⟨k, h1⟩ h0
  exact ⟨by simpa using this.1, this.2.1, this.2.2.1, this.2.2.2⟩
theorem verbN_word (k : Nat) (h0 : 0 < k) (h1 : k < 14) : verbN (wordB k) = k := by
  have := (wordL_ok k h0 h1).2.2.2
  unfold verbN wordB
  simp only [byL_byB]
  exact this
/-- the bytes of a line, its end aside -/
def bodyV (k : Nat) (c : Mr) : List UInt8 := wordL.getD k [] ++ ((if namedV k then 32 :: byL c.n else []) ++ (if kindV k = 1 then 32 :: byL (joinS c.ns) else if kindV k = 2 ∧ c.ns ≠ [] then 32 :: 40 :: (byL (joinS c.ns) ++ [41]) else []))
theorem lineM_body {c : Mr} {k : Nat} (h : Cl0 c k) : lineM c = bodyV k c ++ [10] := by
  unfold lineM
  rw [h.v, if_pos (by have := h.pos; have := h.lt; omega), Int.toNat_natCast]
  unfold lineV lineK partK partN bodyV
  rw [byL_app]
  congr 1
  cases namedV k <;> by_cases h1 : kindV k = 1
  · simp only [h1, if_true, byL_app, wordB, byL_byB, Bool.false_eq_true, if_false, List.nil_append]; rfl
  · by_cases h2 : kindV k = 2 ∧ c.ns ≠ []
    · rw [if_neg h1, if_pos h2, if_neg h1, if_pos h2]; simp only [byL_app, wordB, byL_byB, Bool.false_eq_true, if_false, List.nil_append]; rfl
    · rw [if_neg h1, if_neg h2, if_neg h1, if_neg h2]; simp only [wordB, byL_byB, Bool.false_eq_true, if_false, List.nil_append, List.append_nil]
  · simp only [h1, if_true, byL_app, wordB, byL_byB, List.append_assoc]; rfl
  · by_cases h2 : kindV k = 2 ∧ c.ns ≠ []
    · rw [if_neg h1, if_pos h2, if_neg h1, if_pos h2]; simp only [byL_app, wordB, byL_byB, if_true, List.append_assoc]; rfl
    · rw [if_neg h1, if_neg h2, if_neg h1, if_neg h2]; simp only [byL_app, wordB, byL_byB, if_true, List.append_nil]; rfl
theorem join_no10 {ns : List ByteArray} (h : ∀ y ∈ ns, cleanN y = true) : ∀ b ∈ byL (joinS ns), b ≠ 10 := by
  have h1 : ∀ y ∈ ns, ∀ b ∈ byL y, b ≠ 10 := fun y hy b hb => ((cleanN_all (h y hy)).1 b hb).2
  cases ns with
  | nil => intro b hb; simp [joinS, byL_byB, Lib.join, List.intercalate] at hb
  | cons x r =>
    intro b hb
    rw [joinS_cons] at hb
    rcases List.mem_append.1 hb with q | q
    · exact h1 x (by simp) b q
    · obtain ⟨y, hy, hq⟩ := List.mem_flatMap.1 q
      simp only [List.cons_append, List.nil_append, List.mem_cons] at hq
      rcases hq with rfl | rfl | hq
      · decide
      · decide
      · exact h1 y (by simp [hy]) b hq
theorem okB_10 {b : UInt8} (h : okB b = true) : b ≠ 10 := by unfold okB at h; simp at h; exact h.2
theorem okB_pl {b : UInt8} (h : okB b = true) : plainB b = true := by unfold okB at h; simp at h; exact h.1
theorem body_no10 {c : Mr} {k : Nat} (h : Cl0 c k) : ∀ b ∈ bodyV k c, b ≠ 10 := by
  intro b hb
  unfold bodyV at hb
  have hj := join_no10 h.ns
  rcases List.mem_append.1 hb with q | q
  · exact okB_10 ((wordL_ok k h.pos h.lt).1 b q)
  · rcases List.mem_append.1 q with q | q
    · split at q
      · next hn =>
        rcases List.mem_cons.1 q with rfl | q
        · decide
        · exact ((cleanN_all (h.nm hn)).1 b q).2
      · simp at q
    · split at q
      · rcases List.mem_cons.1 q with rfl | q
        · decide
        · exact hj b q
      · split at q
        · rcases List.mem_cons.1 q with rfl | q
          · decide
          · rcases List.mem_cons.1 q with rfl | q
            · decide
            · rcases List.mem_append.1 q with q | q
              · exact hj b q
              · simp at q; subst q; decide
        · simp at q
theorem tok_body {c : Mr} {k : Nat} (h : Cl0 c k) : tokL (bodyV k c) = toks c := by
  unfold tokL bodyV toks
  rw [h.v, Int.toNat_natCast]
  have hw := wordL_ok k h.pos h.lt
  have hp : ∀ b ∈ wordL.getD k [], plainB b = true := fun b hb => okB_pl (hw.1 b hb)
  have hK : ∀ z : List UInt8, z = (if kindV k = 1 then 32 :: byL (joinS c.ns) else if kindV k = 2 ∧ c.ns ≠ [] then 32 :: 40 :: (byL (joinS c.ns) ++ [41]) else []) → Bnd z ∧ tokG [] z = (if kindV k = 1 then c.ns else if kindV k = 2 ∧ c.ns ≠ [] then byB [40] :: (c.ns ++ [byB [41]]) else []) := by
    intro z hz
    subst hz
    split
    · next h1 =>
      refine ⟨bnd_sep _ (by decide) (by decide), ?_⟩
      rw [tok_sp]
      have := tok_join c.ns (h.k1 h1) h.ns bnd_nil
      rw [List.append_nil] at this
      rw [this]; simp [tokG, flushW]
    · split
      · next h1 h2 =>
        refine ⟨bnd_sep _ (by decide) (by decide), ?_⟩
        rw [tok_sp, tokG_par [] 40 _ (by decide) (by decide) (by decide), tok_join c.ns h2.2 h.ns (bnd_par [] (by decide) (by decide) (by decide)), tokG_par [] 41 _ (by decide) (by decide) (by decide)]
        simp [tokG, flushW]
      · exact ⟨bnd_nil, by simp [tokG, flushW]⟩
  obtain ⟨hz, ht⟩ := hK _ rfl
  generalize (if kindV k = 1 then 32 :: byL (joinS c.ns) else if kindV k = 2 ∧ c.ns ≠ [] then 32 :: 40 :: (byL (joinS c.ns) ++ [41]) else []) = z at hz ht ⊢
  rw [← ht]
  cases hn : namedV k
  · simp only [Bool.false_eq_true, if_false, List.nil_append]
    rw [tok_word hp hw.2.1 hz]; rfl
  · simp only [if_true]
    rw [List.cons_append, tok_word hp hw.2.1 (bnd_sep _ (by decide) (by decide)), tok_sp, tok_name (h.nm hn) hz]; rfl
theorem toks_ne (c : Mr) : toks c ≠ [] := by unfold toks; simp
theorem cmd_toks {c : Mr} {k : Nat} (h : Cl0 c k) : cmdA (toks c) = .inr c := by
  unfold toks
  rw [h.v, Int.toNat_natCast]
  unfold cmdA
  have h0 := h.pos
  simp only [verbN_word k h.pos h.lt]
  rw [if_neg (by omega)]
  have hwords : wordsA c.ns = some c.ns := by
    unfold wordsA
    rw [if_neg]
    simp only [Bool.not_eq_true, List.any_eq_false]
    intro y hy
    simp [cleanN_br (h.ns y hy)]
  have hnm : namesA (if kindV k = 1 then c.ns else if kindV k = 2 ∧ c.ns ≠ [] then byB [40] :: (c.ns ++ [byB [41]]) else []) (kindV k) = some c.ns := by
    unfold namesA
    by_cases h1 : kindV k = 1
    · rw [if_pos h1, if_pos ⟨h1, h.k1 h1⟩]; exact hwords
    · rw [if_neg h1]
      by_cases h2 : kindV k = 2 ∧ c.ns ≠ []
      · rw [if_pos h2, if_neg (by simp [h1]), if_pos]
        · simp only [List.tail_cons, List.dropLast_concat]; exact hwords
        · refine ⟨h2.1, by simp, rfl, ?_⟩
          rw [show byB [40] :: (c.ns ++ [byB [41]]) = (byB [40] :: c.ns) ++ [byB [41]] from rfl, List.getLast?_concat]
      · rw [if_neg h2, if_neg (by simp), if_neg (by simp), if_pos ⟨h1, rfl⟩]
        have : c.ns = [] := by
          by_cases h3 : kindV k = 2
          · exact Classical.byContradiction fun q => h2 ⟨h3, q⟩
          · exact h.k0 (by have : kindV k = 0 ∨ kindV k = 1 ∨ kindV k = 2 := by unfold kindV; split; exact .inr (.inl rfl); split; exact .inr (.inr rfl); exact .inl rfl
                           omega)
        rw [this]
  obtain ⟨cv, cn, cs⟩ := c
  have hv := h.v
  simp only at hv hnm ⊢
  subst hv
  cases hn : namedV k
  · simp only [Bool.false_eq_true, if_false, List.nil_append, hnm]
    have : cn = ⟨#[]⟩ := byL_inj (by rw [h.no hn]; rfl)
    rw [this]
  · simp only [if_true, List.cons_append, List.nil_append, cleanN_br (h.nm hn), Bool.false_eq_true, if_false, hnm]
theorem last_clean {l : List ByteArray} {x : ByteArray} (h : byL x ≠ [43]) : isPlus (l ++ [x]) = false := by
  unfold isPlus
  rw [List.getLast?_concat]
  exact ba_ne h
theorem plus_toks {c : Mr} {k : Nat} (h : Cl0 c k) : isPlus (toks c) = false := by
  unfold toks
  rw [h.v, Int.toNat_natCast]
  have last : ∀ (A : List ByteArray) {l : List ByteArray}, l ≠ [] → (∀ y ∈ l, byL y ≠ [43]) → isPlus (A ++ l) = false := by
    intro A l hl hy
    obtain ⟨l', x, rfl⟩ : ∃ l' x, l = l' ++ [x] := ⟨l.dropLast, l.getLast hl, (List.dropLast_concat_getLast hl).symm⟩
    rw [← List.append_assoc]
    exact last_clean (hy x (by simp))
  have hns : ∀ y ∈ c.ns, byL y ≠ [43] := fun y hy => (cleanN_all (h.ns y hy)).2.2
  have hw : byL (wordB k) ≠ [43] := by unfold wordB; rw [byL_byB]; exact (wordL_ok k h.pos h.lt).2.2.1
  have hX : ∀ y ∈ wordB k :: (if namedV k then [c.n] else []), byL y ≠ [43] := by
    intro y hy
    rcases List.mem_cons.1 hy with rfl | hy
    · exact hw
    · split at hy
      · next hn => simp at hy; subst hy; exact (cleanN_all (h.nm hn)).2.2
      · simp at hy
  rw [← List.cons_append]
  generalize (wordB k :: if namedV k = true then [c.n] else []) = X at hX ⊢
  have hXn : X ≠ [] → isPlus X = false := fun q => last [] q hX
  split
  · next h1 => exact last _ (h.k1 h1) hns
  · split
    · have : byB [40] :: (c.ns ++ [byB [41]]) = (byB [40] :: c.ns) ++ [byB [41]] := rfl
      rw [this, ← List.append_assoc]
      exact last_clean (by rw [byL_byB]; decide)
    · rw [List.append_nil]
      by_cases q : X = []
      · rw [q]; rfl
      · exact hXn q
/-- lines -/
theorem lnG_all (x : List UInt8) : ∀ (c r : List UInt8), (∀ b ∈ x, b ≠ 10) → lnG c (x ++ r) = lnG (c ++ x) r := by
  induction x with
  | nil => intro c r _; simp
  | cons b t ih =>
    intro c r h
    rw [List.cons_append, lnG, if_neg (h b (by simp)), ih (c ++ [b]) r (fun d hd => h d (by simp [hd])), List.append_assoc]; rfl
theorem lines_one {x : List UInt8} (r : List UInt8) (h : ∀ b ∈ x, b ≠ 10) : linesL (x ++ 10 :: r) = x :: linesL r := by
  unfold linesL
  rw [lnG_all x [] _ h, lnG, if_pos rfl]; rfl
theorem lines_text : ∀ (L : List Mr) (r : List UInt8), (∀ c ∈ L, cleanM c = true) → (linesL (textM L ++ r)).map tokL = L.map toks ++ (linesL r).map tokL := by
  intro L
  induction L with
  | nil => intro r _; rfl
  | cons c L ih =>
    intro r h
    obtain ⟨k, hk⟩ := clean_parts (h c (by simp))
    have e : textM (c :: L) ++ r = bodyV k c ++ 10 :: (textM L ++ r) := by
      unfold textM
      rw [List.flatMap_cons, lineM_body hk]; simp
    rw [e, lines_one _ (body_no10 hk), List.map_cons, List.map_cons, List.cons_append, tok_body hk, ih r (fun d hd => h d (by simp [hd]))]
/-- command lines, from a state -/
def numG (L : List Mr) (n : Nat) : List (Nat × List ByteArray) := match L with
  | [] => []
  | c :: r => (n + 1, toks c) :: numG r (n + 1)
theorem step_new (G : List (Nat × List ByteArray)) (n : Nat) (m : List ByteArray) : stepC (G, false, n) m = (G ++ [(n + 1, cutP m)], isPlus m, n + 1) := by
  unfold stepC
  simp only [Bool.false_eq_true, if_false]
  refine Prod.ext ?_ rfl
  simp only [List.length_append, List.length_cons, List.length_nil]
  rw [show G.length + (0 + 1) - 1 = G.length from by omega]
  have mod : ∀ {α : Type} (A : List α) (x : α) (f : α → α), (A ++ [x]).modify A.length f = A ++ [f x] := by
    intro α A x f
    induction A with
    | nil => rfl
    | cons a A ih => rw [List.cons_append, List.length_cons, List.modify_succ_cons, ih]; rfl
  rw [mod]; simp
theorem fold_text : ∀ (L : List Mr) (G : List (Nat × List ByteArray)) (n : Nat) (T : List (List ByteArray)), (∀ c ∈ L, cleanM c = true) → (L.map toks ++ T).foldl stepC (G, false, n) = T.foldl stepC (G ++ numG L n, false, n + L.length) := by
  intro L
  induction L with
  | nil => intro G n T _; simp [numG]
  | cons c L ih =>
    intro G n T h
    obtain ⟨k, hk⟩ := clean_parts (h c (by simp))
    have hp := plus_toks hk
    rw [List.map_cons, List.cons_append, List.foldl_cons, step_new, hp, ih _ _ _ (fun d hd => h d (by simp [hd]))]
    have e : cutP (toks c) = toks c := by unfold cutP; rw [hp]; rfl
    rw [e, numG, List.length_cons]
    congr 1
    rw [List.append_assoc, List.cons_append, List.nil_append]
    refine Prod.ext rfl (Prod.ext rfl ?_)
    show n + 1 + L.length = n + (L.length + 1); omega
/-- what stands ahead stays -/
theorem step_ahead (A B : List (Nat × List ByteArray)) (ct : Bool) (n : Nat) (m : List ByteArray) (h : ct = true → B ≠ []) : ∃ B', stepC (A ++ B, ct, n) m = (A ++ B', isPlus m, n + 1) ∧ B' ≠ [] ∧ (ct = false → ∃ C, B' = B ++ C) := by
  have mod : ∀ {α : Type} (A B : List α) (f : α → α), B ≠ [] → (A ++ B).modify (A.length + B.length - 1) f = A ++ B.modify (B.length - 1) f := by
    intro α A B f hB
    have hl := List.length_pos_iff.2 hB
    induction A with
    | nil => simp
    | cons a A ih =>
      rw [List.cons_append, List.length_cons, show A.length + 1 + B.length - 1 = (A.length + B.length - 1) + 1 from by omega, List.modify_succ_cons, ih]; rfl
  unfold stepC
  cases ct with
  | false =>
    simp only [Bool.false_eq_true, if_false]
    have hne : B ++ [(n + 1, ([] : List ByteArray))] ≠ [] := by simp
    rw [List.append_assoc, List.length_append, mod A _ _ hne]
    refine ⟨_, rfl, ?_, fun _ => ?_⟩
    · intro e
      have := congrArg List.length e
      simp at this
    · rw [List.length_append]
      have := mod B [(n + 1, ([] : List ByteArray))] (fun x => (x.1, x.2 ++ cutP m)) (by simp)
      rw [this]
      exact ⟨_, rfl⟩
  | true =>
    simp only [if_true]
    rw [List.length_append, mod A B _ (h rfl)]
    refine ⟨_, rfl, ?_, fun q => by cases q⟩
    intro e
    have h1 := congrArg List.length e
    rw [List.length_modify] at h1
    exact h rfl (List.eq_nil_of_length_eq_zero h1)
theorem fold_ahead : ∀ (T : List (List ByteArray)) (A B : List (Nat × List ByteArray)) (ct : Bool) (n : Nat), (ct = true → B ≠ []) → ∃ B', (T.foldl stepC (A ++ B, ct, n)).1 = A ++ B' := by
  intro T
  induction T with
  | nil => intro A B ct n _; exact ⟨B, rfl⟩
  | cons m T ih =>
    intro A B ct n h
    obtain ⟨B', e, hne, _⟩ := step_ahead A B ct n m h
    rw [List.foldl_cons, e]
    exact ih A B' _ _ (fun _ => hne)
theorem dec_text : ∀ (L : List Mr) (n : Nat) (R : List (Nat × List ByteArray)) (acc : List Mr), (∀ c ∈ L, cleanM c = true) → decG (numG L n ++ R) acc = decG R (acc ++ L) := by
  intro L
  induction L with
  | nil => intro n R acc _; simp [numG]
  | cons c L ih =>
    intro n R acc h
    obtain ⟨k, hk⟩ := clean_parts (h c (by simp))
    rw [numG, List.cons_append, decG, if_neg (toks_ne c), cmd_toks hk]
    simp only []
    rw [ih _ _ _ (fun d hd => h d (by simp [hd])), List.append_assoc]; rfl
theorem back_plain (L : List Mr) (h : ∀ c ∈ L, cleanM c = true) : decT (textM L) = (L, 0, 0) := by
  unfold decT groups
  have h1 := lines_text L [] h
  rw [List.append_nil] at h1
  rw [h1]
  have h2 := fold_text L [] 0 ((linesL []).map tokL) h
  rw [h2]
  have e : (linesL []).map tokL = [] := rfl
  rw [e]
  simp only [List.foldl_nil, List.nil_append]
  have := dec_text L 0 [] [] h
  rw [List.append_nil] at this
  rw [this, List.nil_append]; rfl
/-- a line that is refused behind them -/
theorem bad_plain (L : List Mr) (h : ∀ c ∈ L, cleanM c = true) (x : List UInt8) (hx : ∀ b ∈ x, b ≠ 10) (t : List ByteArray) (e : Int) (hxt : tokL x = t) (ht : t ≠ []) (hp : isPlus t = false) (hc : cmdA t = .inl e) (r : List UInt8) : decT (textM L ++ (x ++ 10 :: r)) = ([], L.length + 1, e) := by
  unfold decT groups
  rw [lines_text L _ h, lines_one r hx, List.map_cons, hxt, fold_text L [] 0 _ h, List.foldl_cons, List.nil_append, Nat.zero_add, step_new, hp]
  have e1 : cutP t = t := by unfold cutP; rw [hp]; rfl
  rw [e1]
  obtain ⟨B', hB⟩ := fold_ahead ((linesL r).map tokL) (numG L 0 ++ [(L.length + 1, t)]) [] false (L.length + 1) (fun q => by cases q)
  rw [List.append_nil] at hB
  rw [hB, List.append_assoc, dec_text L 0 _ [] h, List.cons_append, decG, if_neg ht, hc]
end Go.Proofs.YtdamhdceajmdfaaDoor
