
-- Appends and stores inside a round of a range over a function.
import Derived.Test.YtdamhdceajmdfaaDoorAQ
import Derived.Test.YtdamhdceajmdfaaDoorRZ
import Derived.OwnWalkIn
import Derived.Laws.AppendOwnNone
namespace Go.Proofs.YtdamhdceajmdfaaDoor
open Go.ChangeShapes Go.WideShapes Go.ChangeAt Go.RowKit Go.MapKept
set_option linter.unusedVariables false
set_option maxRecDepth 100000
set_option linter.unusedSimpArgs false
section
variable {α : Type} {c : α → List Value} {z e sl bytes : Nat} {F : Nat → Prop}
theorem runG_all {W : World} (E : El c z e sl bytes) (ty : TypeId) (v u : Value) (L M : List α) (hO : OwnF F c z e W v L) (hR : RowG c W u M) (hone : ∀ m ∈ M, ∀ u ∈ c m, u.oneCell' = true) (hl : (L.length + M.length) * (bytes + 1) ≤ 140737488355328) (hF : ∀ b, W.heap.size ≤ b → F b) :
    ∃ v' w', (Builtin.append_ #[sl, sl] ty #[v, u]).run Tryd.prog W = .ok v' w' ∧ OwnF F c z e w' v' (L ++ M) ∧ Kp (fun k => v.ownBlock = some k) W w' ∧ (∀ g, v'.ownBlock = some g → v.ownBlock = some g ∨ W.heap.size ≤ g) := by
  obtain ⟨zv, hinf, hzs⟩ := E.info
  obtain ⟨i0, hi, hz0, hz1, hz2⟩ := info_parts hinf
  have hl1 : L.length + M.length ≤ 140737488355328 := Nat.le_trans (Nat.le_mul_of_pos_right _ (by omega)) hl
  have hl2 : (L.length + M.length) * bytes ≤ 140737488355328 := Nat.le_trans (Nat.mul_le_mul_left _ (by omega)) hl
  obtain ⟨ao, cap, ev, h1, h2, h3, h4⟩ := hR
  cases ao with
  | none =>
    have hc := h3 rfl
    subst hc
    have hM : M = [] := List.eq_nil_of_length_eq_zero (by omega)
    subst hM
    subst ev
    exact ⟨v, W, run_append_owned_none (P := Tryd.prog) (w := W) 0 sl ty e i0 z E.sl hi v L.length (L.flatMap c) hO.1, by rw [List.append_nil]; exact hO, Kp.refl _ _, fun g hg => .inl hg⟩
  | some ad =>
    have hcl : ∀ j u, (M.flatMap c)[j]? = some u → W.cell? (ad.add j) = some u := by
      intro j u hu
      have hj : j < (M.flatMap c).length := (List.getElem?_eq_some_iff.1 hu).1
      have hp : 0 < M.length := by
        cases M with
        | nil => simp at hj
        | cons _ _ => simp
      obtain ⟨b, off, e2, hc⟩ := h4 hp
      injection e2 with e2
      subst e2
      rw [Addr.add_mid]
      exact hc j u hu
    obtain ⟨v', w', hr, o1, g1, _, hat⟩ := run_append_own_at (P := Tryd.prog) W 0 sl ty e i0 zv z bytes E.sl hi hz0 hz1 hz2 hzs E.pos v L.length (L.flatMap c) hO.1 ad M.length cap (M.flatMap c) (flatG_len c z E.len M) hcl (by
      intro u hu
      obtain ⟨m, hm, hum⟩ := List.mem_flatMap.1 hu
      exact hone m hm u hum) (by unfold maxLen; omega) hl2 (Nat.zero_le _)
    obtain ⟨k1, k2⟩ := OwnF.grown hF hO rfl o1 g1 hat
    refine ⟨v', w', by rw [ev]; exact hr, k1, Kp.grown g1 (fun k hk => hk), fun g hg => ?_⟩
    rcases hat with q | q
    · exact .inl (by rw [← q]; exact hg)
    · rw [q] at hg; injection hg with hg; exact .inr (by omega)
theorem wpGIn_all {Fc : Fence} {n : Nat} {ops : Array Oper} {rest : List Oper} {o : Oper} {a : Act} {W : World} {Q : Exit → Act → World → Prop} (E : El c z e sl bytes) (hgd : o.guard = none) (x y : Operand) (ho : o.op = .call { callee := .builtin .append, args := #[x, y], argTypes := #[sl, sl] })
    (v u : Value) (L M : List α) (hx : a.eval x = v) (hy : a.eval y = u) (hO : OwnF F c z e W v L) (hR : RowG c W u M) (hone : ∀ m ∈ M, ∀ u ∈ c m, u.oneCell' = true) (hl : (L.length + M.length) * (bytes + 1) ≤ 140737488355328) (hF : ∀ b, W.heap.size ≤ b → F b)
    (h : ∀ v' w', OwnF F c z e w' v' (L ++ M) → Kp (fun k => v.ownBlock = some k) W w' → (∀ g, v'.ownBlock = some g → v.ownBlock = some g ∨ W.heap.size ≤ g) → wpListIn Fc n Tryd.prog ops Q rest (a.put o.dst v') w') : wpListIn Fc n Tryd.prog ops Q (o :: rest) a W := by
  refine wpListIn_plain hgd fun K hK' => ?_
  obtain ⟨v', w', hrun, r1, r2, r3⟩ := runG_all E o.type v u L M hO hR hone hl hF
  unfold Oper.wpIn
  refine ⟨?_, ?_⟩
  · simp [Oper.about, ho, resolve, Target.leads, Sem.run_pure]
  · rw [Oper.semAt_plain Fc _ _ (by rw [ho]; intro c hc'; cases hc')]
    simp [execOp, ho, resolve, invoke, builtin, hx, hy, hrun, Result.andThen]
    exact hK' _ _ (h v' w' r1 r2 r3)
end
theorem wpListIn_store_kz {Fc : Fence} {n : Nat} {P : Program} {ops : Array Oper} {rest : List Oper} {o : Oper} {a : Act} {w : World} {Q : Exit → Act → World → Prop} (hgd : o.guard = none) (hd : o.dst = none) (ty : TypeId) (x y : Operand) (ho : o.op = .store ty x y)
    (g off : Nat) (v : Value) (hx : a.eval x = .pointer (some ⟨g, off, none⟩)) (hy : a.eval y = v)
    (t : TypeId) (old new : Array Value) (hg : w.heap[g]? = some (.cells old t (0, 0))) (hi : (P.info? ty).map (·.size) = some v.cells.size)
    (hfit : Nat.ble (off + v.cells.size) old.size = true) (h1 : v.cells.toList.all (·.oneCell') = true) (hnew : putAt old off v.cells = new)
    (h : ∀ W : World, W.heap[g]? = some (.cells new t (0, 0)) → Kq g w W → wpListIn Fc n P ops Q rest a W) : wpListIn Fc n P ops Q (o :: rest) a w := by
  subst hy
  have hst : (storeVar ty ⟨g, off, none⟩ (a.eval y)).run P w = .ok () (w.setRow g new) := by
    have := run_storeCells_at (P := P) g off t (a.eval y).cells.toList 0 old w hg (by simpa using Nat.le_of_ble_eq_true hfit) (fun v hv => (List.all_eq_true.1 h1) v hv)
    cases hq : P.info? ty with
    | none => simp [hq] at hi
    | some i =>
      have hs : (a.eval y).cells.size = i.size := by simp [hq] at hi; omega
      simp only [Nat.add_zero, Array.length_toList] at this
      unfold putAt at hnew
      rw [hnew] at this
      simp [storeVar, sizeOf, typeInfo, hq, hs, this]
  refine wpListIn_plain hgd fun K hK => ?_
  unfold Oper.wpIn
  refine ⟨?_, ?_⟩
  · simp [Oper.about, ho, Sem.run_pure]
  · rw [Oper.semAt_plain Fc _ _ (by rw [ho]; intro c hc'; cases hc')]
    unfold execOp
    simp only [ho, hx, Instr.storeAt, Instr.sureAddr, Sem.run_bind, Sem.run_pure, Result.andThen_ok, hst]
    refine hK _ _ ?_
    rw [hd]
    exact h _ (setRow_heap w g old new t (0, 0) hg) (Kq.row w g new)
end Go.Proofs.YtdamhdceajmdfaaDoor
