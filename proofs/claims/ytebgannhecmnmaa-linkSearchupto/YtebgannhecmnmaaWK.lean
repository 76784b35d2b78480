
-- An append that leaves its list as it was; a list of one that is built.
import Derived.Test.YtebgannhecmnmaaRM
import Derived.Test.YtebgannhecmnmaaPR
import Derived.OrdersHeld
import Derived.Deep.RegionHeld3
namespace Go.Proofs.Ytebgannhecmnmaa
open Go.ChangeShapes Go.WideShapes Go.ChangeAt Go.RowKit Go.MapKept
set_option linter.unusedVariables false
set_option maxRecDepth 100000
theorem stepG_keep {α : Type} {c : α → List Value} {z e sl bytes : Nat} {F : Nat → Prop} {ops : Array Oper} {o : Oper} {a : Act} {W : World} {K : Act → World → Prop} {Q : Exit → Act → World → Prop} {EE : Prop} (E : El c z e sl bytes) (hgd : o.guard = none) (x y : Operand) (ho : o.op = .call { callee := .builtin .append, args := #[x, y], argTypes := #[sl, sl] })
    (v : Value) (L : List α) (n : Nat) (hLn : L.length = n) (m : α) (b cap : Nat) (hx : a.eval x = v) (hy : a.eval y = .slice (some ⟨b, 0, none⟩) 1 cap) (hO : OwnF F c z e W v L) (hR : RowG c W (.slice (some ⟨b, 0, none⟩) 1 cap) [m]) (hone : ∀ u ∈ c m, u.oneCell' = true) (hl : (L.length + 1) * (bytes + 1) ≤ 140737488355328)
    (h : ∀ ao cp w', OwnF F c z e w' v L → Kp (fun k => v.ownBlock = some k) W w' → K (a.put o.dst (.slice ao (n + 1) cp)) w') : if Region.wanted o (yielded ops a.tmps) = true then Oper.wp Try.prog o a W K Q else EE := by
  have hw : Region.wanted o (yielded ops a.tmps) = true := by simp [Region.wanted, hgd]
  rw [if_pos hw]
  obtain ⟨zv, hinf, hzs⟩ := E.info
  obtain ⟨i0, hi, hz0, hz1, hz2⟩ := info_parts hinf
  have hl1 : L.length + 1 ≤ 140737488355328 := Nat.le_trans (Nat.le_mul_of_pos_right _ (by omega)) hl
  have hl2 : (L.length + 1) * bytes ≤ 140737488355328 := Nat.le_trans (Nat.mul_le_mul_left _ (by omega)) hl
  have hnew : ∀ j u, (c m)[j]? = some u → W.cell? ((⟨b, 0, none⟩ : Addr).add j) = some u := by
    obtain ⟨ao, cp, ev, _, _, _, h4⟩ := hR
    obtain ⟨b', off, e2, hc⟩ := h4 (by simp)
    injection ev with e1 _ _
    rw [← e1] at e2
    injection e2 with e2
    injection e2 with q1 q2 q3
    subst q1; subst q2
    intro j u hu
    rw [Addr.add_mid]
    exact hc j u (by simpa using hu)
  have hnl : (c m).length = 1 * z := by rw [E.len, Nat.one_mul]
  unfold Oper.wp
  rcases hO.1.2 with ⟨q1, q2⟩ | ⟨g, cp, cur, q1, q2, q3, q4, q5, q6, q7⟩
  · obtain ⟨v', w', hrun, r1, r2, _, r3⟩ := run_append_own_at (P := Try.prog) W 0 sl o.type e i0 zv z bytes E.sl hi hz0 hz1 hz2 hzs E.pos v L.length (L.flatMap c) hO.1 ⟨b, 0, none⟩ 1 cap (c m) hnl hnew hone (by unfold maxLen; omega) hl2 (Nat.zero_le _)
    obtain ⟨ao, cp', ev, _⟩ := ownG_form z r1
    simp [execOp, ho, resolve, invoke, builtin, hx, hy, hrun, Result.andThen]
    rw [ev, hLn]
    refine h ao cp' w' ⟨⟨hO.1.1, .inl ⟨q1, q2⟩⟩, hO.2⟩ (Kp.grown r2 (fun k hk => hk))
  · subst q1
    by_cases hroom : L.length + 1 ≤ cp
    · obtain ⟨w', hrun, r1, r2⟩ := run_append_fits (P := Try.prog) W 0 sl o.type e i0 z E.sl hi hz1 g L.length cp (L.flatMap c) hO.1 ⟨b, 0, none⟩ 1 cap (c m) hnl hnew hone hroom
      simp [execOp, ho, resolve, invoke, builtin, hx, hy, hrun, Result.andThen]
      rw [hLn]
      refine h _ cp w' ⟨?_, hO.2⟩ (Kp.grown r2 (fun k hk => by rw [← hk]; rfl))
      have r1' : w'.ownsRow 0 e z (.slice (some ⟨g, 0, none⟩) (L.length + 1) cp) (L.length + 1) ((L ++ [m]).flatMap c) := by simpa using r1
      have := ownG_prefix c z E.pos E.len r1' (Nat.le_succ L.length)
      rw [List.take_left] at this
      exact this
    · obtain ⟨v', w', hrun, r1, r2⟩ := run_append_arg_grows (P := Try.prog) W sl o.type e i0 zv z bytes E.sl hi hz0 hz1 hz2 hzs E.pos ⟨g, 0, none⟩ L.length cp (L.flatMap c) hO.1.1 (fun j u hu => by
          rw [Addr.add_mid, Nat.zero_add]
          refine cell_rowK q3 j u ?_
          have hj : j < L.length * z := by have := (List.getElem?_eq_some_iff.1 hu).1; rwa [flatG_len c z E.len] at this
          rw [← q7, List.getElem?_take_of_lt hj, Array.getElem?_toList] at hu
          exact hu) ⟨b, 0, none⟩ 1 cap (c m) hnl hnew (by omega) (by unfold maxLen; omega) hl2
      obtain ⟨ao, cp', ev, _⟩ := ownG_form z r1
      simp [execOp, ho, resolve, invoke, builtin, hx, hy, hrun, Result.andThen]
      rw [ev, hLn]
      exact h ao cp' w' (hO.keep fun k hk => r2.block k (hO.lt k hk) (by simp)) (Kp.grown r2 (fun k hk => by cases hk))
theorem srcN {α : Type} {c : α → List Value} {F : Nat → Prop} {z e sl bytes : Nat} (E : El c z e sl bytes) (X : World) (m : α) (cs : Array Value) (hcs : cs.toList = c m) (hF : ¬ F X.heap.size) : RowN F c (X.alloc (.cells cs e)) (.slice (some ⟨X.heap.size, 0, none⟩) 1 1) [m] :=
  rowN_one m (heap_alloc_new X _) hcs hF
end Go.Proofs.Ytebgannhecmnmaa
