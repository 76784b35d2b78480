
-- Command lines in memory.
import Derived.Test.YtdamhdceajmdfaaDoorAI
import Derived.Test.YtdamhdceajmdfaaDoorT5
import Derived.Test.YtdamhdceajmdfaaDoorW2
import Derived.Test.YtdamhdceajmdfaaDoorLJ
import Derived.Test.YtdamhdceajmdfaaDoorK3
namespace Go.Proofs.YtdamhdceajmdfaaDoor
open Go.ChangeShapes Go.WideShapes Go.ChangeAt Go.RowKit Go.MapKept
set_option linter.unusedVariables false
set_option maxRecDepth 100000
set_option linter.unusedSimpArgs false
abbrev Cl := (Nat × List ByteArray) × Value
def clL (p : Cl) : List Value := [.int .i64 (p.1.1 : Nat), p.2]
theorem clL_len (p : Cl) : (clL p).length = 2 := rfl
theorem infoCl : (Tryd.prog.info? 60).map (fun i => (i.zero, i.size, i.bytes)) = some (some (.agg #[.int .i64 0, .slice none 0 0]), 2, 32) := by kernel_rfl
theorem elC : El clL 2 60 57 32 := ⟨Tryd.underlying57, ⟨_, infoCl, rfl⟩, clL_len, by decide⟩
structure OwnL (B : Nat) (W : World) (v : Value) (P : List Cl) : Prop where
  row : OwnF (fun b => B ≤ b) clL 2 60 W v P
  toks : ∀ p ∈ P, OwnT B W p.2 p.1.2
  apart : P.Pairwise fun p q => ∀ g, p.2.ownBlock = some g → q.2.ownBlock ≠ some g
/-- blocks of cells from B on lie as they lay -/
theorem OwnL.keep {B : Nat} {W W' : World} {v : Value} {P : List Cl} (h : OwnL B W v P) (hk : ∀ g cs t fr, B ≤ g → W.heap[g]? = some (.cells cs t fr) → W'.heap[g]? = W.heap[g]?) : OwnL B W' v P :=
  ⟨h.row.keep fun g hg => by obtain ⟨cur, hc⟩ := h.row.typed hg; exact hk g _ _ _ (h.row.2 g hg) hc, fun p hp => ((h.toks p hp).f.keep fun g hg => by obtain ⟨cur, hc⟩ := (h.toks p hp).f.typed hg; exact hk g _ _ _ (own_lo (h.toks p hp) g hg) hc).t, h.apart⟩
structure ClI (S : Nat) (w : World) (P : List Cl) (v : Value) (ct : Bool) (nm : Nat) (W : World) : Prop where
  lst : W.heap[S]? = some (.cells #[v] 57 (0, 0))
  num : W.heap[S + 1]? = some (.cells #[.int .i64 (nm : Int)] 3 (0, 0))
  con : W.heap[S + 1 + 1]? = some (.cells #[.bool ct] 4 (0, 0))
  own : OwnL (S + 4) W v P
  below : Below S w W
  size : S + 4 ≤ W.heap.size
/-- what a round may turn -/
structure Fz (S : Nat) (W W' : World) : Prop where
  size : W.heap.size ≤ W'.heap.size
  keep : ∀ k o, W.heap[k]? = some o → k ≠ S → k ≠ S + 1 → k ≠ S + 1 + 1 → (k < S + 4 ∨ o.isCells = false) → W'.heap[k]? = some o
theorem Fz.trans {S : Nat} {A B C : World} (h : Fz S A B) (k : Fz S B C) : Fz S A C := ⟨Nat.le_trans h.size k.size, fun j o h0 h1 h2 h3 h4 => k.keep j o (h.keep j o h0 h1 h2 h3 h4) h1 h2 h3 h4⟩
theorem Fz.kp {S : Nat} {A B : World} {T : Nat → Prop} (h : Kp T A B) (hT : ∀ k, T k → k = S ∨ k = S + 1 ∨ k = S + 1 + 1 ∨ (S + 4 ≤ k ∧ ∃ cs t fr, A.heap[k]? = some (.cells cs t fr))) : Fz S A B := by
  refine ⟨h.size, fun k o h0 h1 h2 h3 h4 => (h.block k (Array.getElem?_eq_some_iff.1 h0).1 fun ht => ?_).trans h0⟩
  rcases hT k ht with q | q | q | ⟨q, cs, t, fr, e⟩
  · exact h1 q
  · exact h2 q
  · exact h3 q
  · rcases h4 with h4 | h4
    · omega
    · rw [h0] at e; injection e with e; rw [e] at h4; cases h4
theorem Fz.on {S : Nat} {A B : World} (h : Below A.heap.size A B) : Fz S A B := Fz.kp (T := fun _ => False) (Kp.of_below h) (fun _ h => h.elim)
theorem Fz.from {S : Nat} {A B : World} (h : Fz S A B) : KeepsFrom (S + 4) A B := ⟨h.size, fun k o hk h0 h1 => h.keep k o h0 (by omega) (by omega) (by omega) (.inr h1)⟩
theorem Fz.box {S : Nat} {A B : World} (h : Fz S A B) : Kb (S + 3) A B := fun o h0 => h.keep (S + 3) o h0 (by omega) (by omega) (by omega) (.inl (by omega))
theorem ClI.on {S : Nat} {w : World} {P : List Cl} {v : Value} {ct : Bool} {nm : Nat} {W W' : World} (h : ClI S w P v ct nm W) (hb : Below W.heap.size W W') : ClI S w P v ct nm W' :=
  ⟨hkeepK hb h.lst, hkeepK hb h.num, hkeepK hb h.con, h.own.keep fun g cs t fr _ hg => hb.block g (Array.getElem?_eq_some_iff.1 hg).1, h.below.trans (hb.mono (by have := h.size; omega)), Nat.le_trans h.size hb.size⟩
theorem ClI.tn {S : Nat} {w : World} {P : List Cl} {v : Value} {ct : Bool} {nm : Nat} {W W' : World} (h : ClI S w P v ct nm W) (hb : Tn (S + 3) (S + 4) W W') : ClI S w P v ct nm W' :=
  ⟨hb.block _ _ h.lst (by omega) (.inl (by omega)), hb.block _ _ h.num (by omega) (.inl (by omega)), hb.block _ _ h.con (by omega) (.inl (by omega)), h.own.keep fun g cs t fr hB hg => (hb.block g _ hg (by omega) (.inr rfl)).trans hg.symm,
    h.below.trans ⟨hb.os, hb.tape, hb.output, hb.size, fun k hk => by
      have hlt : k < W.heap.size := by have := h.size; omega
      have := hb.block k _ (Array.getElem?_eq_getElem hlt) (by omega) (.inl (by omega))
      rw [this, Array.getElem?_eq_getElem hlt]⟩, Nat.le_trans h.size hb.size⟩
theorem ClI.setN {S : Nat} {w : World} {P : List Cl} {v : Value} {ct : Bool} {nm m : Nat} {W W' : World} (h : ClI S w P v ct nm W) (hS : S ≤ w.heap.size) (hq : Kq (S + 1) W W') (hW : W'.heap[S + 1]? = some (.cells #[.int .i64 (m : Int)] 3 (0, 0))) : ClI S w P v ct m W' :=
  ⟨hq.keeps (by omega) h.lst, hW, hq.keeps (by omega) h.con, h.own.keep fun g cs t fr hB hg => hq.block g (by omega) (Array.getElem?_eq_some_iff.1 hg).1, hq.belowN h.below (by omega) hS, Nat.le_trans h.size hq.size⟩
theorem ClI.setC {S : Nat} {w : World} {P : List Cl} {v : Value} {ct ct' : Bool} {nm : Nat} {W W' : World} (h : ClI S w P v ct nm W) (hS : S ≤ w.heap.size) (hq : Kq (S + 1 + 1) W W') (hW : W'.heap[S + 1 + 1]? = some (.cells #[.bool ct'] 4 (0, 0))) : ClI S w P v ct' nm W' :=
  ⟨hq.keeps (by omega) h.lst, hq.keeps (by omega) h.num, hW, h.own.keep fun g cs t fr hB hg => hq.block g (by omega) (Array.getElem?_eq_some_iff.1 hg).1, hq.belowN h.below (by omega) hS, Nat.le_trans h.size hq.size⟩
theorem ne_cl {B : Nat} {W : World} {v u : Value} {P : List Cl} {t : List ByteArray} (hv : OwnF (fun b => B ≤ b) clL 2 60 W v P) (hu : OwnT B W u t) : ∀ g, u.ownBlock = some g → v.ownBlock ≠ some g := by
  intro g hg e
  obtain ⟨cur, hc⟩ := hv.typed e
  exact ne_ty hu.f hc (by decide) hg
/-- one more command line -/
theorem ClI.add {S : Nat} {w : World} {P : List Cl} {v v' : Value} {ct : Bool} {nm : Nat} {W A w' W' : World} (h : ClI S w P v ct nm W) (hS : S ≤ w.heap.size) (hA : Below W.heap.size W A) (ho : OwnF (fun b => S + 4 ≤ b) clL 2 60 w' v' (P ++ [((nm, []), .slice none 0 0)])) (hk : Kp (fun k => v.ownBlock = some k) A w')
    (hq : Kq S w' W') (hW : W'.heap[S]? = some (.cells #[v'] 57 (0, 0))) : ClI S w (P ++ [((nm, []), .slice none 0 0)]) v' ct nm W' ∧ Fz S W W' := by
  have hAo := (h.on hA)
  have hk0 : ∀ k, k < A.heap.size → v.ownBlock ≠ some k → w'.heap[k]? = A.heap[k]? := fun k h1 h2 => hk.block k h1 h2
  have hlo : ∀ g, v.ownBlock = some g → S + 4 ≤ g := fun g hg => h.own.row.2 g hg
  have hsz : S + 4 ≤ A.heap.size := hAo.size
  have kk : ∀ {j : Nat} {o : Obj}, j < S + 4 → j ≠ S → A.heap[j]? = some o → W'.heap[j]? = some o := fun {j o} h1 h2 h3 => hq.keeps h2 ((hk0 j (by omega) (fun e => by have := hlo j e; omega)).trans h3)
  have tk : ∀ {u : Value} {t : List ByteArray}, OwnT (S + 4) A u t → OwnT (S + 4) W' u t := fun {u t} hu => by
    have h1 : OwnT (S + 4) w' u t := (hu.f.keep fun g hg => hk0 g (hu.f.lt g hg) (ne_cl hAo.own.row hu g hg)).t
    exact (h1.f.keep fun g hg => hq.block g (by have := own_lo h1 g hg; omega) (h1.f.lt g hg)).t
  refine ⟨⟨hW, kk (by omega) (by omega) hAo.num, kk (by omega) (by omega) hAo.con, ⟨?_, ?_, ?_⟩, ?_, ?_⟩, ?_⟩
  · exact ho.keep fun g hg => hq.block g (by have := ho.2 g hg; simp only at this; omega) (ho.lt g hg)
  · intro p hp
    rcases List.mem_append.1 hp with q | q
    · exact tk (hAo.own.toks p q)
    · simp at q; subst q; exact ownT_nil _ _
  · rw [List.pairwise_append]
    exact ⟨h.own.apart, by simp, fun p _ q hq' => by simp at hq'; subst hq'; intro g _; simp [Value.ownBlock]⟩
  · exact hq.belowN (hAo.below.trans ((hk.below hlo hsz).mono (by omega))) (Nat.le_refl _) hS
  · exact Nat.le_trans hsz (Nat.le_trans hk.size hq.size)
  · refine (Fz.on hA).trans ((Fz.kp hk fun k hk' => .inr (.inr (.inr ⟨hlo k hk', ?_⟩))).trans (Fz.kp (T := fun k => k = S) (Kp.kq hq rfl) (fun k e => .inl e)))
    obtain ⟨cur, hc⟩ := hAo.own.row.typed hk'
    exact ⟨_, _, _, hc⟩
theorem putAt_one (cur : Array Value) (o : Nat) (n u : Value) (h : cur[o]? = some n) : putAt cur (o + 1) #[u] = putG cur o #[n, u] := by
  unfold putAt putG
  have e : cur.toList.take (o + 1) = cur.toList.take o ++ [n] := takeSucc (by rw [Array.getElem?_toList]; exact h)
  rw [e]
  simp
theorem set_last {α : Type} (Q : List α) (x y : α) : (Q ++ [x]).set Q.length y = Q ++ [y] := by
  rw [List.set_append_right _ _ (Nat.le_refl _), Nat.sub_self]; rfl
/-- tokens more for the last one -/
theorem ClI.last {S : Nat} {w : World} {Q : List Cl} {n : Nat} {t M : List ByteArray} {u u' : Value} {g cap : Nat} {cur : Array Value} {ct : Bool} {nm : Nat} {W w' W' : World} (hS : S ≤ w.heap.size) (h : ClI S w (Q ++ [((n, t), u)]) (.slice (some ⟨g, 0, none⟩) (Q.length + 1) cap) ct nm W)
    (hg : W.heap[g]? = some (.cells cur 60 (0, 0))) (ho : OwnF (fun b => S + 4 ≤ b) txL 1 9 w' u' (t ++ M)) (hk : Kp (fun k => u.ownBlock = some k) W w') (hn : ∀ g, u'.ownBlock = some g → u.ownBlock = some g ∨ W.heap.size ≤ g)
    (hq : Kq g w' W') (hW : W'.heap[g]? = some (.cells (putAt cur (Q.length * 2 + 1) #[u']) 60 (0, 0))) : ClI S w (Q ++ [((n, t ++ M), u')]) (.slice (some ⟨g, 0, none⟩) (Q.length + 1) cap) ct nm W' ∧ Fz S W W' := by
  have hu : OwnT (S + 4) W u t := h.own.toks ((n, t), u) (by simp)
  have hul : ∀ g, u.ownBlock = some g → S + 4 ≤ g := own_lo hu
  have hrow := h.own.row
  have hgl : S + 4 ≤ g := hrow.2 g rfl
  have hgs : g < W.heap.size := (Array.getElem?_eq_some_iff.1 hg).1
  have hgu : u.ownBlock ≠ some g := fun e => ne_ty hu.f hg (by decide) e
  have hg' : w'.heap[g]? = some (.cells cur 60 (0, 0)) := (hk.block g hgs hgu).trans hg
  have kk : ∀ {j : Nat} {o : Obj}, j < S + 4 → W.heap[j]? = some o → W'.heap[j]? = some o := fun {j o} h1 h3 => hq.keeps (by omega) ((hk.block j (by have := h.size; omega) (fun e => by have := hul j e; omega)).trans h3)
  obtain ⟨cur', h1, h2, h3, h4, h5, h6, h7⟩ := ownG_cur clL 2 (by decide) clL_len (by have := hrow.own; rw [List.length_append] at this; exact this)
  rw [hg] at h1
  injection h1 with h1
  injection h1 with h1 _ _
  subst h1
  have hc0 : cur[Q.length * 2]? = some (.int .i64 (n : Nat)) := by
    have hx : (Q ++ [((n, t), u)])[Q.length]? = some ((n, t), u) := by simp
    have := flatG_get clL_len (Q ++ [((n, t), u)]) Q.length 0 _ hx (by decide)
    rw [← h6, Nat.add_zero, List.getElem?_take_of_lt (by omega), Array.getElem?_toList] at this
    exact this
  refine ⟨⟨kk (by omega) h.lst, kk (by omega) h.num, kk (by omega) h.con, ⟨?_, ?_, ?_⟩, ?_, ?_⟩, ?_⟩
  · have hp : W'.heap[g]? = some (.cells (putG cur (Q.length * 2) (clL ((n, t ++ M), u')).toArray) 60 (0, 0)) := by
      rw [hW, putAt_one cur (Q.length * 2) (.int .i64 (n : Nat)) u' hc0]; rfl
    have := ownG_put clL 2 clL_len ((n, t ++ M), u') (Nat.lt_succ_self _) h2 h3 h4 h5 h6 h7 hp
    rw [set_last] at this
    exact OwnF.of (by rw [List.length_append]; exact this)
  · intro p hp
    rcases List.mem_append.1 hp with q | q
    · have hpt := h.own.toks p (by simp [q])
      have hap : ∀ k, p.2.ownBlock = some k → u.ownBlock ≠ some k := by
        have := (List.pairwise_append.1 h.own.apart).2.2 p q ((n, t), u) (by simp)
        exact this
      have e1 : OwnT (S + 4) w' p.2 p.1.2 := (hpt.f.keep fun k hk' => hk.block k (hpt.f.lt k hk') (hap k hk')).t
      exact (e1.f.keep fun k hk' => hq.block k (fun e => by subst e; exact ne_ty hpt.f hg (by decide) hk') (e1.f.lt k hk')).t
    · simp at q; subst q
      exact (ho.keep fun k hk' => hq.block k (fun e => by subst e; exact ne_ty ho hg' (by decide) hk') (ho.lt k hk')).t
  · rw [List.pairwise_append]
    refine ⟨(List.pairwise_append.1 h.own.apart).1, by simp, fun p hp q hq' => ?_⟩
    simp at hq'; subst hq'
    intro k hk' e
    have hpt := h.own.toks p (by simp [hp])
    rcases hn k e with q | q
    · exact (List.pairwise_append.1 h.own.apart).2.2 p hp ((n, t), u) (by simp) k hk' q
    · have := hpt.f.lt k hk'; omega
  · exact hq.belowN (h.below.trans ((hk.below hul h.size).mono (by omega))) (by omega) hS
  · exact Nat.le_trans h.size (Nat.le_trans hk.size hq.size)
  · refine (Fz.kp hk fun k hk' => .inr (.inr (.inr ⟨hul k hk', ?_⟩))).trans (Fz.kp (T := fun k => k = g) (Kp.kq hq rfl) (fun k (e : k = g) => by subst e; exact .inr (.inr (.inr ⟨hgl, _, _, _, hg'⟩))))
    obtain ⟨cs, hc⟩ := hu.f.typed hk'
    exact ⟨_, _, _, hc⟩
end Go.Proofs.YtdamhdceajmdfaaDoor
