
-- Plain: commands in other spellings are read as the same.
import Derived.Test.YtdamhdceajmdfaaDoorPC
namespace Go.Proofs.YtdamhdceajmdfaaDoor
open Go.ChangeShapes Go.WideShapes Go.ChangeAt Go.RowKit
set_option linter.unusedVariables false
set_option maxRecDepth 100000
set_option linter.unusedSimpArgs false
def lawW : List (List UInt8) := [[], [99, 114, 101, 97, 116, 101], [79, 112, 101, 110], [97, 100, 100, 77, 79, 68], [97, 68, 68, 76, 73, 66], [100, 101, 108, 101, 116, 101], [82, 101, 112, 108, 97, 99, 101], [69, 88, 84, 82, 65, 67, 84], [108, 105, 115, 116], [100, 105, 114, 101, 99, 116, 111, 114, 121], [118, 69, 114, 66, 111, 83, 101], [67, 108, 101, 97, 114], [83, 65, 86, 69], [101, 110, 68]]
def pcs : List (List UInt8) := [[32], [44], [9, 44, 32, 13], [44, 32, 43, 10], [32, 43, 59, 32, 97, 110, 100, 32, 115, 111, 32, 111, 110, 10, 9], [32, 43, 10, 32, 43, 32, 42, 32, 109, 111, 114, 101, 32, 40, 32, 104, 101, 114, 101, 32, 10], [44, 44], [32, 43, 32, 13, 10]]
def ends : List (List UInt8) := [[32, 59, 32, 114, 101, 109, 97, 114, 107, 10, 10], [42, 32, 43, 32, 10], [44, 43, 10, 10], [10]]
theorem lawW_ok (k : Nat) (h0 : 0 < k) (h1 : k < 14) : (∀ b ∈ lawW.getD k [], okB b = true) ∧ lawW.getD k [] ≠ [] ∧ lawW.getD k [] ≠ [43] ∧ verbN (byB (lawW.getD k [])) = k := by
  have : ∀ j : Fin 14, 0 < j.val → ((lawW.getD j.val []).all okB = true ∧ lawW.getD j.val [] ≠ [] ∧ lawW.getD j.val [] ≠ [43] ∧ (((List.range 14).find? fun v => wordL.getD v [] == (lawW.getD j.val []).map capB).getD 0) = j.val) := by decide
  have := this ⟨k, h1⟩ h0
  refine ⟨by simpa using this.1, this.2.1, this.2.2.1, ?_⟩
  unfold verbN
  simp only [byL_byB]
  exact this.2.2.2
abbrev CSt := List (Nat × List ByteArray) × Bool × Nat
/-- the command lines' state behind the text l, the line's beginning being c -/
def runC (st : CSt) (c l : List UInt8) : CSt := ((lnG c l).map tokL).foldl stepC st
theorem run_more (st : CSt) (c x r : List UInt8) (h : ∀ b ∈ x, b ≠ 10) : runC st c (x ++ r) = runC st (c ++ x) r := by unfold runC; rw [lnG_all x c r h]
theorem run_nl (st : CSt) (c r : List UInt8) : runC st c (10 :: r) = runC (stepC st (tokL c)) [] r := by unfold runC; rw [lnG, if_pos rfl, List.map_cons, List.foldl_cons]
/-- a command line is open: what stands behind it adds to the line q of G; T are the tokens of this line, w what its last word has so far, B all of them -/
structure Op (st : CSt) (c : List UInt8) (G : List (Nat × List ByteArray)) (q num : Nat) (A T : List ByteArray) (w : List UInt8) : Prop where
  tok : ∀ y, tokG [] (c ++ y) = T ++ tokG w y
  step : ∀ m, stepC st m = (G ++ [(q, A ++ cutP m)], isPlus m, num + 1)
theorem op_start (G : List (Nat × List ByteArray)) (n : Nat) : Op (G, false, n) [] G (n + 1) n [] [] [] :=
  ⟨fun y => rfl, fun m => step_new G n m⟩
theorem op_plain {st : CSt} {c : List UInt8} {G : List (Nat × List ByteArray)} {q num : Nat} {A T : List ByteArray} {w : List UInt8} (h : Op st c G q num A T w) (x : List UInt8) (hx : ∀ b ∈ x, plainB b = true) : Op st (c ++ x) G q num A T (w ++ x) :=
  ⟨fun y => by rw [List.append_assoc, h.tok, tokG_all x w y hx], h.step⟩
theorem op_sep {st : CSt} {c : List UInt8} {G : List (Nat × List ByteArray)} {q num : Nat} {A T : List ByteArray} {w : List UInt8} (h : Op st c G q num A T w) (b : UInt8) (h1 : remB b = false) (h2 : sepB b = true) : Op st (c ++ [b]) G q num A (T ++ flushW w) [] :=
  ⟨fun y => by rw [List.append_assoc, h.tok, List.cons_append, tokG_sep w b _ h1 h2, List.nil_append, List.append_assoc], h.step⟩
theorem op_par {st : CSt} {c : List UInt8} {G : List (Nat × List ByteArray)} {q num : Nat} {A T : List ByteArray} {w : List UInt8} (h : Op st c G q num A T w) (b : UInt8) (h1 : remB b = false) (h2 : sepB b = false) (h3 : parB b = true) : Op st (c ++ [b]) G q num A (T ++ (flushW w ++ [byB [b]])) [] :=
  ⟨fun y => by rw [List.append_assoc, h.tok, List.cons_append, tokG_par w b _ h1 h2 h3, List.nil_append]; simp, h.step⟩
/-- the line goes on in the next one -/
theorem op_plus {st : CSt} {c : List UInt8} {G : List (Nat × List ByteArray)} {q num : Nat} {A T : List ByteArray} {w : List UInt8} (h : Op st c G q num A T w) (y r : List UInt8) (hy : ∀ b ∈ y, b ≠ 10) (ht : tokG w y = flushW w ++ [byB [43]]) :
    ∃ st', runC st c (y ++ 10 :: r) = runC st' [] r ∧ Op st' [] G q (num + 1) (A ++ (T ++ flushW w)) [] [] ∧ st' = (G ++ [(q, A ++ (T ++ flushW w))], true, num + 1) := by
  have e1 : tokL (c ++ y) = (T ++ flushW w) ++ [byB [43]] := by unfold tokL; rw [h.tok, ht, List.append_assoc]
  have e2 : isPlus ((T ++ flushW w) ++ [byB [43]]) = true := by unfold isPlus; rw [List.getLast?_concat]; exact ba_rfl [43]
  have e3 : cutP ((T ++ flushW w) ++ [byB [43]]) = T ++ flushW w := by unfold cutP; rw [if_pos e2, List.dropLast_concat]
  refine ⟨(G ++ [(q, A ++ (T ++ flushW w))], true, num + 1), ?_, ⟨fun y => rfl, fun m => ?_⟩, rfl⟩
  · rw [run_more _ _ _ _ hy, run_nl, h.step, e1, e2, e3]
  · unfold stepC
    simp only [if_true]
    have hm : ∀ {α : Type} (A : List α) (x : α) (f : α → α), (A ++ [x]).modify ((A ++ [x]).length - 1) f = A ++ [f x] := by
      intro α A x f
      rw [List.length_append, List.length_cons, List.length_nil, show A.length + (0 + 1) - 1 = A.length from by omega]
      induction A with
      | nil => rfl
      | cons a A ih => rw [List.cons_append, List.length_cons, List.modify_succ_cons, ih]; rfl
    rw [hm, List.append_assoc]
/-- the line ends -/
theorem op_end {st : CSt} {c : List UInt8} {G : List (Nat × List ByteArray)} {q num : Nat} {A T : List ByteArray} {w : List UInt8} (h : Op st c G q num A T w) (y r : List UInt8) (hy : ∀ b ∈ y, b ≠ 10) (ht : tokG w y = flushW w) (hp : isPlus (T ++ flushW w) = false) :
    runC st c (y ++ 10 :: r) = runC (G ++ [(q, A ++ (T ++ flushW w))], false, num + 1) [] r := by
  have e1 : tokL (c ++ y) = T ++ flushW w := by unfold tokL; rw [h.tok, ht]
  have e3 : cutP (T ++ flushW w) = T ++ flushW w := by unfold cutP; rw [hp]; rfl
  rw [run_more _ _ _ _ hy, run_nl, h.step, e1, hp, e3]
/-- open, with these tokens in all; its word being w -/
def Opn (st : CSt) (c : List UInt8) (G : List (Nat × List ByteArray)) (q : Nat) (B : List ByteArray) (w : List UInt8) : Prop := ∃ num A T, B = A ++ T ∧ Op st c G q num A T w
theorem opn_seps {G : List (Nat × List ByteArray)} {q : Nat} : ∀ (z : List UInt8) (st : CSt) (c : List UInt8) (B : List ByteArray), (∀ b ∈ z, remB b = false ∧ sepB b = true) → Opn st c G q B [] → Opn st (c ++ z) G q B [] := by
  intro z
  induction z with
  | nil => intro st c B _ h; rwa [List.append_nil]
  | cons b z ih =>
    rintro st c B hb ⟨num, A, T, rfl, h⟩
    have := op_sep h b (hb b (by simp)).1 (hb b (by simp)).2
    have h2 := ih st (c ++ [b]) (A ++ T) (fun d hd => hb d (by simp [hd])) ⟨num, A, T ++ flushW [], by simp [flushW], this⟩
    rwa [List.append_assoc] at h2
theorem opn_sep1 {st : CSt} {c : List UInt8} {G : List (Nat × List ByteArray)} {q : Nat} {B : List ByteArray} {w : List UInt8} (b : UInt8) (z : List UInt8) (h1 : remB b = false) (h2 : sepB b = true) (hz : ∀ b ∈ z, remB b = false ∧ sepB b = true) (h : Opn st c G q B w) : Opn st (c ++ b :: z) G q (B ++ flushW w) [] := by
  obtain ⟨num, A, T, rfl, h⟩ := h
  have := opn_seps (G := G) (q := q) z st (c ++ [b]) (A ++ (T ++ flushW w)) hz ⟨num, A, T ++ flushW w, rfl, op_sep h b h1 h2⟩
  rw [List.append_assoc] at this
  rw [List.append_assoc]
  exact this
theorem opn_plus {st : CSt} {c : List UInt8} {G : List (Nat × List ByteArray)} {q : Nat} {B : List ByteArray} {w : List UInt8} (h : Opn st c G q B w) (y r : List UInt8) (hy : ∀ b ∈ y, b ≠ 10) (ht : tokG w y = flushW w ++ [byB [43]]) :
    ∃ st', runC st c (y ++ 10 :: r) = runC st' [] r ∧ Opn st' [] G q (B ++ flushW w) [] := by
  obtain ⟨num, A, T, rfl, h⟩ := h
  obtain ⟨st', h1, h2, _⟩ := op_plus h y r hy ht
  exact ⟨st', h1, num + 1, _, [], by rw [List.append_nil, List.append_assoc], h2⟩
/-- a piece that parts words -/
theorem opn_piece {st : CSt} {c : List UInt8} {G : List (Nat × List ByteArray)} {q : Nat} {B : List ByteArray} {w : List UInt8} (p : List UInt8) (hp : p ∈ pcs) (h : Opn st c G q B w) (r : List UInt8) : ∃ st' c', runC st c (p ++ r) = runC st' c' r ∧ Opn st' c' G q (B ++ flushW w) [] := by
  have same : ∀ (b : UInt8) (z : List UInt8), remB b = false → sepB b = true → (∀ d ∈ z, remB d = false ∧ sepB d = true) → (∀ d ∈ b :: z, d ≠ 10) → ∃ st' c', runC st c ((b :: z) ++ r) = runC st' c' r ∧ Opn st' c' G q (B ++ flushW w) [] := by
    intro b z h1 h2 hz hn
    exact ⟨st, c ++ (b :: z), run_more _ _ _ _ hn, opn_sep1 b z h1 h2 hz h⟩
  have hsp : ∀ (b : UInt8) (y : List UInt8), remB b = false → sepB b = true → tokG [] y = [byB [43]] → tokG w (b :: y) = flushW w ++ [byB [43]] := fun b y h1 h2 h3 => by rw [tokG_sep w b y h1 h2, h3]
  simp only [pcs, List.mem_cons, List.not_mem_nil, or_false] at hp
  rcases hp with rfl | rfl | rfl | rfl | rfl | rfl | rfl | rfl
  · exact same 32 [] (by decide) (by decide) (by decide) (by decide)
  · exact same 44 [] (by decide) (by decide) (by decide) (by decide)
  · exact same 9 [44, 32, 13] (by decide) (by decide) (by decide) (by decide)
  · obtain ⟨st', h1, h2⟩ := opn_plus h [44, 32, 43] r (by decide) (hsp 44 [32, 43] (by decide) (by decide) (by rfl))
    exact ⟨st', [], h1, h2⟩
  · obtain ⟨st', h1, h2⟩ := opn_plus h [32, 43, 59, 32, 97, 110, 100, 32, 115, 111, 32, 111, 110] (9 :: r) (by decide) (hsp 32 [43, 59, 32, 97, 110, 100, 32, 115, 111, 32, 111, 110] (by decide) (by decide) (by rfl))
    have h3 := run_more st' [] [9] r (by decide)
    refine ⟨st', [] ++ [9], ?_, opn_seps [9] st' [] _ (by decide) h2⟩
    rw [← h3]; exact h1
  · obtain ⟨st', h1, h2⟩ := opn_plus h [32, 43] ([32, 43, 32, 42, 32, 109, 111, 114, 101, 32, 40, 32, 104, 101, 114, 101, 32] ++ 10 :: r) (by decide) (hsp 32 [43] (by decide) (by decide) (by rfl))
    obtain ⟨st2, h3, h4⟩ := opn_plus h2 [32, 43, 32, 42, 32, 109, 111, 114, 101, 32, 40, 32, 104, 101, 114, 101, 32] r (by decide) (by rfl)
    refine ⟨st2, [], by rw [← h3]; exact h1, ?_⟩
    simpa [flushW] using h4
  · exact same 44 [44] (by decide) (by decide) (by decide) (by decide)
  · obtain ⟨st', h1, h2⟩ := opn_plus h [32, 43, 32, 13] r (by decide) (hsp 32 [43, 32, 13] (by decide) (by decide) (by rfl))
    exact ⟨st', [], h1, h2⟩
theorem opn_word {st : CSt} {c : List UInt8} {G : List (Nat × List ByteArray)} {q : Nat} {B : List ByteArray} (x : List UInt8) (hx : ∀ b ∈ x, okB b = true) (h : Opn st c G q B []) (r : List UInt8) : runC st c (x ++ r) = runC st (c ++ x) r ∧ Opn st (c ++ x) G q B x := by
  obtain ⟨num, A, T, rfl, h⟩ := h
  exact ⟨run_more _ _ _ _ (fun b hb => okB_10 (hx b hb)), num, A, T, rfl, by simpa using op_plain h x (fun b hb => okB_pl (hx b hb))⟩
theorem opn_open {st : CSt} {c : List UInt8} {G : List (Nat × List ByteArray)} {q : Nat} {B : List ByteArray} {w : List UInt8} (h : Opn st c G q B w) (r : List UInt8) : runC st c (40 :: r) = runC st (c ++ [40]) r ∧ Opn st (c ++ [40]) G q (B ++ (flushW w ++ [byB [40]])) [] := by
  obtain ⟨num, A, T, rfl, h⟩ := h
  exact ⟨run_more st c [40] r (by decide), num, A, _, by rw [List.append_assoc], op_par h 40 (by decide) (by decide) (by decide)⟩
theorem opn_shut {st : CSt} {c : List UInt8} {G : List (Nat × List ByteArray)} {q : Nat} {B : List ByteArray} {w : List UInt8} (h : Opn st c G q B w) (r : List UInt8) : ∃ c' num A T, runC st c (32 :: 41 :: r) = runC st c' r ∧ B ++ (flushW w ++ [byB [41]]) = A ++ (T ++ [byB [41]]) ∧ Op st c' G q num A (T ++ [byB [41]]) [] := by
  obtain ⟨num, A, T, rfl, h⟩ := h
  have h2 := op_par (op_sep h 32 (by decide) (by decide)) 41 (by decide) (by decide) (by decide)
  refine ⟨c ++ [32] ++ [41], num, A, T ++ flushW w, ?_, by simp, by simpa [flushW] using h2⟩
  rw [List.append_assoc]; exact run_more st c [32, 41] r (by decide)
/-- an end -/
theorem op_ends {st : CSt} {c : List UInt8} {G : List (Nat × List ByteArray)} {q num : Nat} {A T : List ByteArray} {w : List UInt8} (h : Op st c G q num A T w) (hp : isPlus (T ++ flushW w) = false) (e : List UInt8) (he : e ∈ ends) (r : List UInt8) :
    ∃ G' n', runC st c (e ++ r) = runC (G', false, n') [] r ∧ (G' = G ++ [(q, A ++ (T ++ flushW w))] ∨ ∃ k, G' = G ++ [(q, A ++ (T ++ flushW w))] ++ [(k, [])]) := by
  have hrem : ∀ (b : UInt8) (y : List UInt8), remB b = true → tokG w (b :: y) = flushW w := fun b y h1 => tokG_rem w b y h1
  have hsp : ∀ (b : UInt8) (y : List UInt8), remB b = false → sepB b = true → tokG [] y = [] → tokG w (b :: y) = flushW w := fun b y h1 h2 h3 => by rw [tokG_sep w b y h1 h2, h3, List.append_nil]
  simp only [ends, List.mem_cons, List.not_mem_nil, or_false] at he
  rcases he with rfl | rfl | rfl | rfl
  · have h1 := op_end h [32, 59, 32, 114, 101, 109, 97, 114, 107] (10 :: r) (by decide) (hsp 32 _ (by decide) (by decide) (by rfl)) hp
    refine ⟨_, num + 1 + 1, h1.trans ((run_nl _ _ _).trans ?_), .inr ⟨num + 1 + 1, rfl⟩⟩
    have e : tokL [] = [] := rfl
    rw [e, step_new]; rfl
  · have h1 := op_end h [42, 32, 43, 32] r (by decide) (hrem 42 _ (by decide)) hp
    exact ⟨_, _, h1, .inl rfl⟩
  · obtain ⟨st', h1, h2, _⟩ := op_plus h [44, 43] (10 :: r) (by decide) (by rw [tokG_sep w 44 _ (by decide) (by decide)]; rfl)
    refine ⟨_, num + 1 + 1, h1.trans ((run_nl _ _ _).trans ?_), .inl rfl⟩
    have e : tokL [] = [] := rfl
    rw [e, h2.step]
    have e2 : cutP ([] : List ByteArray) = [] := rfl
    rw [e2, List.append_nil]; rfl
  · have h1 := op_end h [] r (by decide) (by rw [tokG]) hp
    exact ⟨_, _, h1, .inl rfl⟩
def joinW (M : List (List UInt8 × ByteArray)) : List UInt8 := M.flatMap fun p => p.1 ++ byL p.2
/-- a command's text, in another spelling -/
def Wr (k : Nat) (c : Mr) (t : List UInt8) : Prop := ∃ (pre nm : List UInt8) (pr : Bool) (M : List (List UInt8 × ByteArray)) (e : List UInt8),
  t = pre ++ (lawW.getD k [] ++ (nm ++ ((if pr then [40] else []) ++ (joinW M ++ ((if pr then [32, 41] else []) ++ e))))) ∧ (pre = [] ∨ pre = [32]) ∧ (if byL c.n = [] then nm = [] else ∃ p ∈ pcs, nm = p ++ byL c.n) ∧ (pr = true → k = 4 ∨ k = 9) ∧ ((k = 4 ∨ k = 9) → c.ns ≠ [] → pr = true)
  ∧ (∀ p ∈ M, p.1 ∈ pcs) ∧ M.map (·.2) = c.ns ∧ e ∈ ends
theorem clean_okB {x : ByteArray} (h : cleanN x = true) : ∀ b ∈ byL x, okB b = true := by
  unfold cleanN at h
  simp only [Bool.and_eq_true, List.all_eq_true] at h
  exact h.1.1
theorem join_run {G : List (Nat × List ByteArray)} {q : Nat} : ∀ (M : List (List UInt8 × ByteArray)) (st : CSt) (c : List UInt8) (B : List ByteArray) (w r : List UInt8), (∀ p ∈ M, p.1 ∈ pcs) → (∀ p ∈ M, cleanN p.2 = true) → Opn st c G q B w →
    ∃ st' c' B' w', runC st c (joinW M ++ r) = runC st' c' r ∧ Opn st' c' G q B' w' ∧ B' ++ flushW w' = B ++ flushW w ++ M.map (·.2) ∧ (w' = w ∨ (w' ≠ [] ∧ w' ≠ [43])) := by
  intro M
  induction M with
  | nil => intro st c B w r _ _ h; exact ⟨st, c, B, w, rfl, h, by simp, .inl rfl⟩
  | cons p M ih =>
    intro st c B w r hp hc h
    obtain ⟨s1, c1, e1, o1⟩ := opn_piece p.1 (hp p (by simp)) h (byL p.2 ++ (joinW M ++ r))
    have hcl := cleanN_all (hc p (by simp))
    obtain ⟨e2, o2⟩ := opn_word (byL p.2) (clean_okB (hc p (by simp))) o1 (joinW M ++ r)
    obtain ⟨s3, c3, B3, w3, e3, o3, t3, l3⟩ := ih s1 (c1 ++ byL p.2) _ _ r (fun x hx => hp x (by simp [hx])) (fun x hx => hc x (by simp [hx])) o2
    refine ⟨s3, c3, B3, w3, ?_, o3, ?_, ?_⟩
    · rw [← e3, ← e2, ← e1]
      unfold joinW
      rw [List.flatMap_cons]; simp
    · rw [t3, flush_clean hcl.2.1]; simp
    · rcases l3 with rfl | l3
      · exact .inr ⟨hcl.2.1, hcl.2.2⟩
      · exact .inr l3
theorem cmd_gen {c : Mr} {k : Nat} (h : Cl0 c k) {vb : ByteArray} (hvb : verbN vb = k) {rest : List ByteArray} (hr : namesA rest (kindV k) = some c.ns) : cmdA (vb :: ((if namedV k then [c.n] else []) ++ rest)) = .inr c := by
  unfold cmdA
  have h0 := h.pos
  simp only [hvb]
  rw [if_neg (by omega)]
  obtain ⟨cv, cn, cs⟩ := c
  have hv := h.v
  simp only at hv hr ⊢
  subst hv
  cases hn : namedV k
  · simp only [Bool.false_eq_true, if_false, List.nil_append, hr]
    have : cn = ⟨#[]⟩ := byL_inj (by rw [h.no hn]; rfl)
    rw [this]
  · simp only [if_true, List.cons_append, List.nil_append, cleanN_br (h.nm hn), Bool.false_eq_true, if_false, hr]
theorem words_clean {L : List ByteArray} (h : ∀ y ∈ L, cleanN y = true) : wordsA L = some L := by
  unfold wordsA
  rw [if_neg]
  simp only [Bool.not_eq_true, List.any_eq_false]
  intro y hy
  simp [cleanN_br (h y hy)]
theorem names_gen {c : Mr} {k : Nat} (h : Cl0 c k) (pr : Bool) (h1 : pr = true → k = 4 ∨ k = 9) (h2 : (k = 4 ∨ k = 9) → c.ns ≠ [] → pr = true) : namesA (if pr then byB [40] :: (c.ns ++ [byB [41]]) else c.ns) (kindV k) = some c.ns := by
  unfold namesA
  cases pr with
  | true =>
    have hk : kindV k = 2 := by rcases h1 rfl with rfl | rfl <;> rfl
    simp only [if_true, hk]
    rw [if_neg (by simp), if_pos]
    · simp only [List.tail_cons, List.dropLast_concat]; exact words_clean h.ns
    · refine ⟨trivial, by simp, rfl, ?_⟩
      rw [show byB [40] :: (c.ns ++ [byB [41]]) = (byB [40] :: c.ns) ++ [byB [41]] from rfl, List.getLast?_concat]
  | false =>
    simp only [Bool.false_eq_true, if_false]
    by_cases k1 : kindV k = 1
    · rw [if_pos ⟨k1, h.k1 k1⟩]; exact words_clean h.ns
    · have hns : c.ns = [] := by
        by_cases k4 : k = 4 ∨ k = 9
        · exact Classical.byContradiction fun q => by have := h2 k4 q; cases this
        · refine h.k0 ?_
          unfold kindV at k1 ⊢
          split at k1
          · exact absurd rfl k1
          · rw [if_neg (by assumption), if_neg]
            simp only [Bool.or_eq_true, beq_iff_eq]
            omega
      rw [hns, if_neg (by simp), if_neg (by simp), if_pos ⟨k1, rfl⟩]
theorem wr_run {c : Mr} {k : Nat} (h : Cl0 c k) {t : List UInt8} (hw : Wr k c t) (G : List (Nat × List ByteArray)) (n : Nat) (r : List UInt8) :
    ∃ G' n' tks, runC (G, false, n) [] (t ++ r) = runC (G', false, n') [] r ∧ (G' = G ++ [(n + 1, tks)] ∨ ∃ j, G' = G ++ [(n + 1, tks)] ++ [(j, [])]) ∧ cmdA tks = .inr c ∧ tks ≠ [] := by
  obtain ⟨pre, nm, pr, M, e, rfl, hpre, hnm, hp1, hp2, hM, hMn, he⟩ := hw
  have hv := lawW_ok k h.pos h.lt
  obtain ⟨V, hV⟩ : ∃ V, V = lawW.getD k [] := ⟨_, rfl⟩
  rw [← hV] at hv ⊢
  have o0 : Opn (G, false, n) [] G (n + 1) [] [] := ⟨n, [], [], rfl, op_start G n⟩
  -- the blank ahead
  have s1 : ∃ c1, (∀ r, runC (G, false, n) [] (pre ++ r) = runC (G, false, n) c1 r) ∧ Opn (G, false, n) c1 G (n + 1) [] [] := by
    rcases hpre with rfl | rfl
    · exact ⟨[], fun r => rfl, o0⟩
    · exact ⟨[] ++ [32], fun r => run_more _ [] [32] r (by decide), opn_seps [32] _ _ _ (by decide) o0⟩
  obtain ⟨c1, e1, o1⟩ := s1
  -- the verb
  have o2 := (opn_word V hv.1 o1 []).2
  have e2 := fun r => (opn_word V hv.1 o1 r).1
  -- the name
  have s3 : ∀ r, ∃ st3 c3 B3 w3, runC (G, false, n) (c1 ++ V) (nm ++ r) = runC st3 c3 r ∧ Opn st3 c3 G (n + 1) B3 w3 ∧ B3 ++ flushW w3 = byB V :: (if namedV k then [c.n] else []) ∧ w3 ≠ [] ∧ w3 ≠ [43] := by
    intro r
    have hf : flushW V = [byB V] := by unfold flushW; rw [if_neg hv.2.1]
    by_cases hn : byL c.n = []
    · rw [if_pos hn] at hnm
      subst hnm
      have hnk : namedV k = false := by
        cases q : namedV k with
        | false => rfl
        | true => exact absurd hn (cleanN_all (h.nm q)).2.1
      exact ⟨_, _, _, _, rfl, o2, by rw [hf, hnk]; simp, hv.2.1, hv.2.2.1⟩
    · rw [if_neg hn] at hnm
      obtain ⟨p, hp, rfl⟩ := hnm
      have hnk : namedV k = true := by
        cases q : namedV k with
        | true => rfl
        | false => exact absurd (h.no q) hn
      have hcl := cleanN_all (h.nm hnk)
      obtain ⟨s3, c3, e3, o3⟩ := opn_piece p hp o2 (byL c.n ++ r)
      obtain ⟨e4, o4⟩ := opn_word (byL c.n) (clean_okB (h.nm hnk)) o3 r
      refine ⟨s3, c3 ++ byL c.n, _, _, by rw [List.append_assoc, e3, e4], o4, ?_, hcl.2.1, hcl.2.2⟩
      rw [flush_clean hcl.2.1, hf, hnk]; simp
  have hMc : ∀ p ∈ M, cleanN p.2 = true := fun p hp => h.ns p.2 (by rw [← hMn]; exact List.mem_map.2 ⟨p, hp, rfl⟩)
  have last : ∀ {T : List ByteArray} {w : List UInt8}, w ≠ [] → w ≠ [43] → isPlus (T ++ flushW w) = false := by
    intro T w h1 h2
    unfold flushW
    rw [if_neg h1]
    exact last_clean (by rw [byL_byB]; exact h2)
  have hcm := cmd_gen h hv.2.2.2 (names_gen h pr hp1 hp2)
  cases pr with
  | false =>
    simp only [Bool.false_eq_true, if_false, List.nil_append] at hcm ⊢
    obtain ⟨s3, c3, B3, w3, e3, o3, t3, l3⟩ := s3 (joinW M ++ (e ++ r))
    obtain ⟨s4, c4, B4, w4, e4, o4, t4, l4⟩ := join_run M s3 c3 B3 w3 (e ++ r) hM hMc o3
    have hw4 : w4 ≠ [] ∧ w4 ≠ [43] := by rcases l4 with rfl | l4; exact l3; exact l4
    obtain ⟨num, A, T, hB, o5⟩ := o4
    obtain ⟨G', n', e5, hG⟩ := op_ends o5 (last hw4.1 hw4.2) e he r
    refine ⟨G', n', A ++ (T ++ flushW w4), ?_, hG, ?_, ?_⟩
    · rw [← e5, ← e4, ← e3, ← e2, ← e1]; simp
    · rw [← List.append_assoc, ← hB, t4, t3, hMn, List.cons_append]; exact hcm
    · rw [← List.append_assoc, ← hB, t4, t3]; simp
  | true =>
    simp only [if_true] at hcm ⊢
    obtain ⟨s3, c3, B3, w3, e3, o3, t3, l3⟩ := s3 (40 :: (joinW M ++ (32 :: 41 :: (e ++ r))))
    obtain ⟨e6, o6⟩ := opn_open o3 (joinW M ++ (32 :: 41 :: (e ++ r)))
    obtain ⟨s4, c4, B4, w4, e4, o4, t4, l4⟩ := join_run M s3 (c3 ++ [40]) _ [] (32 :: 41 :: (e ++ r)) hM hMc o6
    obtain ⟨c5, num, A, T, e7, hB, o5⟩ := opn_shut o4 (e ++ r)
    have hpl : isPlus ((T ++ [byB [41]]) ++ flushW []) = false := by
      have : flushW [] = [] := rfl
      rw [this, List.append_nil]
      exact last_clean (by rw [byL_byB]; decide)
    obtain ⟨G', n', e5, hG⟩ := op_ends o5 hpl e he r
    have htot : A ++ ((T ++ [byB [41]]) ++ flushW []) = byB V :: ((if namedV k then [c.n] else []) ++ (byB [40] :: (c.ns ++ [byB [41]]))) := by
      have e0 : flushW [] = [] := rfl
      rw [e0, List.append_nil, ← hB, ← List.append_assoc, t4, ← List.append_assoc B3, t3, hMn, e0]; simp
    refine ⟨G', n', _, ?_, hG, ?_, ?_⟩
    · rw [← e5, ← e7, ← e4, ← e6, ← e3, ← e2, ← e1]; simp
    · rw [htot]; exact hcm
    · rw [htot]; simp
/-- a text that has been read as these commands, whatever follows -/
def Rd (s : List UInt8) (L : List Mr) : Prop := ∀ r, ∃ G n, runC ([], false, 0) [] (s ++ r) = runC (G, false, n) [] r ∧ ∀ R acc, decG (G ++ R) acc = decG R (acc ++ L)
theorem rd_start : Rd [] [] := fun r => ⟨[], 0, rfl, fun R acc => by simp⟩
theorem rd_head : Rd [42, 32, 97, 32, 115, 99, 114, 105, 112, 116, 10] [] := fun r => by
  refine ⟨[(1, [])], 1, ?_, fun R acc => by rw [List.cons_append, List.nil_append, decG, if_pos rfl, List.append_nil]⟩
  have h1 := run_more ([], false, 0) [] [42, 32, 97, 32, 115, 99, 114, 105, 112, 116] (10 :: r) (by decide)
  exact h1.trans ((run_nl _ _ _).trans rfl)
theorem rd_step {s t : List UInt8} {L : List Mr} {c : Mr} {k : Nat} (h : Rd s L) (hc : Cl0 c k) (hw : Wr k c t) : Rd (s ++ t) (L ++ [c]) := by
  intro r
  obtain ⟨G, n, e1, d1⟩ := h (t ++ r)
  obtain ⟨G', n', tks, e2, hG, hcm, hne⟩ := wr_run hc hw G n r
  refine ⟨G', n', by rw [List.append_assoc, e1, e2], fun R acc => ?_⟩
  have one : ∀ R, decG ((G ++ [(n + 1, tks)]) ++ R) acc = decG R (acc ++ (L ++ [c])) := by
    intro R
    rw [List.append_assoc, d1, List.cons_append, List.nil_append, decG, if_neg hne, hcm, ← List.append_assoc]
  rcases hG with rfl | ⟨j, rfl⟩
  · exact one R
  · rw [List.append_assoc, one, List.cons_append, List.nil_append, decG, if_pos rfl]
theorem rd_end {s : List UInt8} {L : List Mr} (h : Rd s L) : decT s = (L, 0, 0) := by
  obtain ⟨G, n, e1, d1⟩ := h []
  rw [List.append_nil] at e1
  have e2 : groups ((linesL s).map tokL) = G := by
    have : groups ((linesL s).map tokL) = (runC ([], false, 0) [] s).1 := rfl
    rw [this, e1]; rfl
  unfold decT
  rw [e2]
  have := d1 [] []
  rw [List.append_nil] at this
  rw [this, decG]; simp
end Go.Proofs.YtdamhdceajmdfaaDoor
