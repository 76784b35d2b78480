
-- append, to a row whose block is one of F.
import Derived.Test.YtnnpdomfkedhpaaSB
import Derived.Maps.AppendAt
import Derived.Laws.AppendOwnNone
namespace Go.Proofs.Ytnnpdomfkedhpaa
open Go.ChangeShapes Go.WideShapes Go.ChangeAt Go.RowKit Go.MapKept
set_option linter.unusedVariables false
set_option maxRecDepth 100000
/-- how elements of a list lie in memory -/
structure El {α : Type} (c : α → List Value) (z e sl bytes : Nat) : Prop where
  sl : Try.prog.underlying sl = some (.slice e)
  info : ∃ zv : Value, (Try.prog.info? e).map (fun i => (i.zero, i.size, i.bytes)) = some (some zv, z, bytes) ∧ zv.cells.size = z
  len : ∀ x, (c x).length = z
  pos : 0 < z
/-- a row of one's own, its block in F -/
def OwnF (F : Nat → Prop) {α : Type} (c : α → List Value) (z e : Nat) (w : World) (v : Value) (L : List α) : Prop :=
  w.ownsRow 0 e z v L.length (L.flatMap c) ∧ ∀ g, v.ownBlock = some g → F g
section
variable {α : Type} {c : α → List Value} {z e sl bytes : Nat} {F : Nat → Prop}
theorem OwnF.row (E : El c z e sl bytes) {w : World} {v : Value} {L : List α} (h : OwnF F c z e w v L) : RowG c w v L := rowG_own E.pos E.len h.1
theorem OwnF.nil {w : World} : OwnF F c z e w (.slice none 0 0) ([] : List α) := ⟨⟨by simp, .inl ⟨rfl, rfl⟩⟩, by intro g h; simp [Value.ownBlock] at h⟩
theorem OwnF.weak {G : Nat → Prop} {w : World} {v : Value} {L : List α} (h : OwnF F c z e w v L) (hg : ∀ k, F k → G k) : OwnF G c z e w v L := ⟨h.1, fun g hh => hg g (h.2 g hh)⟩
theorem OwnF.keep {w w' : World} {v : Value} {L : List α} (h : OwnF F c z e w v L) (hk : ∀ g, v.ownBlock = some g → w'.heap[g]? = w.heap[g]?) : OwnF F c z e w' v L := by
  refine ⟨⟨h.1.1, ?_⟩, h.2⟩
  rcases h.1.2 with q | ⟨g, cap, cur, q1, q2, q3, q4⟩
  · exact .inl q
  · exact .inr ⟨g, cap, cur, q1, q2, (hk g (by rw [q1]; rfl)).trans q3, q4⟩
theorem OwnF.lt {w : World} {v : Value} {L : List α} (h : OwnF F c z e w v L) : ∀ g, v.ownBlock = some g → g < w.heap.size := own_ltK h.1
theorem OwnF.on {w w' : World} {v : Value} {L : List α} (h : OwnF F c z e w v L) (hb : Below w.heap.size w w') : OwnF F c z e w' v L := h.keep fun g hg => hb.block g (h.lt g hg)
theorem OwnF.kp {G : Nat → Prop} {w w' : World} {v : Value} {L : List α} (h : OwnF F c z e w v L) (hb : Kp G w w') (hn : ∀ g, v.ownBlock = some g → ¬ G g) : OwnF F c z e w' v L := h.keep fun g hg => hb.block g (h.lt g hg) (hn g hg)
theorem OwnF.own {B : Nat} {w : World} {v : Value} {L : List α} (h : OwnF (fun b => B ≤ b) c z e w v L) : w.ownsRow B e z v L.length (L.flatMap c) := by
  refine ⟨h.1.1, ?_⟩
  rcases h.1.2 with q | ⟨g, cap, cur, q1, q2, q3, q4⟩
  · exact .inl q
  · exact .inr ⟨g, cap, cur, q1, h.2 g (by rw [q1]; rfl), q3, q4⟩
theorem OwnF.of {B : Nat} {w : World} {v : Value} {L : List α} (h : w.ownsRow B e z v L.length (L.flatMap c)) : OwnF (fun b => B ≤ b) c z e w v L := by
  refine ⟨ownG_le h (Nat.zero_le _), fun g hg => ?_⟩
  rcases h.2 with ⟨q, _⟩ | ⟨g', cap, cur, q1, q2, q3, q4⟩
  · rw [q] at hg; simp [Value.ownBlock] at hg
  · rw [q1] at hg; simp [Value.ownBlock] at hg; omega
theorem OwnF.typed {w : World} {v : Value} {L : List α} (h : OwnF F c z e w v L) {k : Nat} (hk : v.ownBlock = some k) : ∃ cur, w.heap[k]? = some (.cells cur e (0, 0)) := by
  rcases h.1.2 with ⟨q, q'⟩ | ⟨g, cap, cur, q1, q2, q3, q4⟩
  · rw [q] at hk; simp [Value.ownBlock] at hk
  · rw [q1] at hk; simp [Value.ownBlock] at hk; subst hk; exact ⟨cur, q3⟩
theorem OwnF.form {w : World} {v : Value} {L : List α} (h : OwnF F c z e w v L) : ∃ ao cap, v = .slice ao L.length cap ∧ L.length ≤ cap := by
  rcases h.1.2 with ⟨q, q'⟩ | ⟨g, cap, cur, q1, q2, q3, q4, _⟩
  · exact ⟨none, 0, by rw [q, q'], by omega⟩
  · exact ⟨_, cap, q1, q4⟩
/-- what an append gives -/
theorem OwnF.grown {W w' : World} {v v' : Value} {L M : List α} {n : Nat} (hF : ∀ b, W.heap.size ≤ b → F b) (hO : OwnF F c z e W v L) (hn : n = L.length + M.length) (h : w'.ownsRow 0 e z v' n (L.flatMap c ++ M.flatMap c)) (hg : W.grownBy w' v.ownBlock) (hat : v'.ownBlock = v.ownBlock ∨ v'.ownBlock = some W.heap.size) : OwnF F c z e w' v' (L ++ M) ∧ Kp F W w' := by
  refine ⟨⟨?_, ?_⟩, Kp.grown hg (fun k hk => hO.2 k hk)⟩
  · rw [List.length_append, List.flatMap_append, ← hn]; exact h
  · intro g hgg
    rcases hat with q | q
    · exact hO.2 g (by rw [← q]; exact hgg)
    · rw [q] at hgg; injection hgg with hgg; exact hF g (by omega)
theorem wpG_all {ops : Array Oper} {rest : List Oper} {o : Oper} {a : Act} {W : World} {Q : Exit → Act → World → Prop} (E : El c z e sl bytes) (hgd : o.guard = none) (x y : Operand) (ho : o.op = .call { callee := .builtin .append, args := #[x, y], argTypes := #[sl, sl] })
    (v u : Value) (L M : List α) (hx : a.eval x = v) (hy : a.eval y = u) (hO : OwnF F c z e W v L) (hR : RowG c W u M) (hone : ∀ m ∈ M, ∀ u ∈ c m, u.oneCell' = true) (hl : (L.length + M.length) * (bytes + 1) ≤ 140737488355328) (hF : ∀ b, W.heap.size ≤ b → F b)
    (h : ∀ v' w', OwnF F c z e w' v' (L ++ M) → Kp (fun k => v.ownBlock = some k) W w' → (∀ g, v'.ownBlock = some g → v.ownBlock = some g ∨ W.heap.size ≤ g) → wpList Try.prog ops Q rest (a.put o.dst v') w') : wpList Try.prog ops Q (o :: rest) a W := by
  obtain ⟨zv, hinf, hzs⟩ := E.info
  obtain ⟨i0, hi, hz0, hz1, hz2⟩ := info_parts hinf
  have hl1 : L.length + M.length ≤ 140737488355328 := Nat.le_trans (Nat.le_mul_of_pos_right _ (by omega)) hl
  have hl2 : (L.length + M.length) * bytes ≤ 140737488355328 := Nat.le_trans (Nat.mul_le_mul_left _ (by omega)) hl
  obtain ⟨ao, cap, ev, h1, h2, h3, h4⟩ := hR
  cases ao with
  | none =>
    have hc := h3 rfl
    subst hc
    have hM : M = [] := List.eq_nil_of_length_eq_zero (by omega)
    subst hM
    refine wpList_append_own_none hgd x y sl ho 0 e i0 z E.sl hi v L.length (L.flatMap c) hx hO.1 (by rw [hy, ev]; rfl) ?_
    exact h v W (by rw [List.append_nil]; exact hO) (Kp.refl _ _) (fun g hg => .inl hg)
  | some ad =>
    have hcl : ∀ j u, (M.flatMap c)[j]? = some u → W.cell? (ad.add j) = some u := by
      intro j u hu
      have hj : j < (M.flatMap c).length := (List.getElem?_eq_some_iff.1 hu).1
      have hp : 0 < M.length := by
        cases M with
        | nil => simp at hj
        | cons _ _ => simp
      obtain ⟨b, off, e2, hc⟩ := h4 hp
      injection e2 with e2
      subst e2
      rw [Addr.add_mid]
      exact hc j u hu
    refine wpList_append_own_at _ hgd x y sl ho 0 e i0 zv z bytes E.sl hi hz0 hz1 hz2 hzs E.pos v L.length (L.flatMap c) hx hO.1 ad M.length cap (M.flatMap c) (by rw [hy, ev]) (flatG_len c z E.len M) hcl (by
      intro u hu
      obtain ⟨m, hm, hum⟩ := List.mem_flatMap.1 hu
      exact hone m hm u hum) (by unfold maxLen; omega) hl2 (Nat.zero_le _) ?_
    intro v' w' o1 g1 _ hat
    obtain ⟨k1, k2⟩ := OwnF.grown hF hO rfl o1 g1 hat
    exact h v' w' k1 (Kp.grown g1 (fun k hk => hk)) (fun g hg => by
      rcases hat with q | q
      · exact .inl (by rw [← q]; exact hg)
      · rw [q] at hg; injection hg with hg; exact .inr (by omega))
theorem rowG_new (E : El c z e sl bytes) (W : World) (x : α) (cs : Array Value) (hcs : cs.toList = c x) : RowG c (W.alloc (.cells cs e)) (.slice (some ⟨W.heap.size, 0, none⟩) 1 1) [x] := by
  refine ⟨_, 1, rfl, by simp, by decide, by simp, fun _ => ⟨W.heap.size, 0, rfl, fun j u hu => ?_⟩⟩
  have := new_rowK W cs e _ hcs j u (by simpa using hu)
  rw [Addr.add_mid] at this
  exact this
theorem wpG_one {ops : Array Oper} {rest : List Oper} {o : Oper} {a : Act} {W : World} {Q : Exit → Act → World → Prop} (E : El c z e sl bytes) (hgd : o.guard = none) (x y : Operand) (ho : o.op = .call { callee := .builtin .append, args := #[x, y], argTypes := #[sl, sl] })
    (v : Value) (L : List α) (m : α) (cs : Array Value) (hcs : cs.toList = c m) (hx : a.eval x = v) (hy : a.eval y = .slice (some ⟨W.heap.size, 0, none⟩) 1 1) (hO : OwnF F c z e W v L) (hone : ∀ u ∈ c m, u.oneCell' = true) (hl : (L.length + 1) * (bytes + 1) ≤ 140737488355328) (hF : ∀ b, W.heap.size ≤ b → F b)
    (h : ∀ v' w', OwnF F c z e w' v' (L ++ [m]) → Kp (fun k => v.ownBlock = some k) W w' → (∀ g, v'.ownBlock = some g → v.ownBlock = some g ∨ W.heap.size ≤ g) → wpList Try.prog ops Q rest (a.put o.dst v') w') : wpList Try.prog ops Q (o :: rest) a (W.alloc (.cells cs e)) := by
  have hb : Below W.heap.size W (W.alloc (.cells cs e)) := (Below.refl _ _).alloc (Nat.le_refl _) _
  refine wpG_all E hgd x y ho v _ L [m] hx hy (hO.on hb) (rowG_new E W m cs hcs) (by intro q hq; simp at hq; subst hq; exact hone) hl (fun b hh => hF b (by rw [World.size_alloc] at hh; omega)) ?_
  intro v' w' h1 h2 h3
  exact h v' w' h1 ((Kp.of_below hb).trans h2) (fun g hg => (h3 g hg).imp id (fun hh => by rw [World.size_alloc] at hh; omega))
end
end Go.Proofs.Ytnnpdomfkedhpaa
