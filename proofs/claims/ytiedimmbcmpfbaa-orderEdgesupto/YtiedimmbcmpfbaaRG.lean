
-- Laws for regions that draw.
import Derived.Test.YtiedimmbcmpfbaaSC
import Derived.Deep.RegionWith
import Derived.Deep.RegionLaw
import Derived.Deep.RegionHeld3
namespace Go.Proofs.Ytiedimmbcmpfbaa
open Go.ChangeShapes Go.WideShapes Go.ChangeAt Go.RowKit Go.MapKept
set_option linter.unusedVariables false
set_option maxRecDepth 100000
theorem blk_set {w : World} {b : Nat} {c : Array Value} {t : TypeId} {fr : Nat × Nat} (h : w.heap[b]? = some (.cells c t fr)) {k : Nat} (v : Value) : (w.setCell ⟨b, k, none⟩ v).heap[b]? = some (.cells (c.setIfInBounds k v) t fr) := by
  obtain ⟨hb, he⟩ := Array.getElem?_eq_some_iff.1 h
  simp [World.setCell, hb, Array.getElem_modify, he]
theorem kq_set (w : World) (b k : Nat) (v : Value) : Kq b w (w.setCell ⟨b, k, none⟩ v) := by
  refine ⟨rfl, rfl, rfl, by simp [World.setCell], fun j hj hl => ?_⟩
  have : ¬ b = j := fun e => hj e.symm
  simp [World.setCell, Array.getElem?_modify, this]
theorem Kp.undrew {F : Nat → Prop} {w w' : World} (h : Kp F w.drew w') : Kp F w w' := ⟨h.os, h.tape, h.output, h.size, h.block⟩
theorem stepG_all {α : Type} {c : α → List Value} {z e sl bytes : Nat} {F : Nat → Prop} {ops : Array Oper} {o : Oper} {a : Act} {W : World} {K : Act → World → Prop} {Q : Exit → Act → World → Prop} {EE : Prop} (E : El c z e sl bytes) (hgd : o.guard = none) (x y : Operand) (ho : o.op = .call { callee := .builtin .append, args := #[x, y], argTypes := #[sl, sl] })
    (v : Value) (L : List α) (m : α) (b cap : Nat) (hx : a.eval x = v) (hy : a.eval y = .slice (some ⟨b, 0, none⟩) 1 cap) (hO : OwnF F c z e W v L) (hR : RowG c W (.slice (some ⟨b, 0, none⟩) 1 cap) [m]) (hone : ∀ u ∈ c m, u.oneCell' = true) (hl : (L.length + 1) * (bytes + 1) ≤ 140737488355328) (hF : ∀ b, W.heap.size ≤ b → F b)
    (h : ∀ v' w', OwnF F c z e w' v' (L ++ [m]) → Kp (fun k => v.ownBlock = some k) W w' → (∀ g, v'.ownBlock = some g → v.ownBlock = some g ∨ W.heap.size ≤ g) → K (a.put o.dst v') w') : if Region.wanted o (yielded ops a.tmps) = true then Oper.wp Try.prog o a W K Q else EE := by
  have hw : Region.wanted o (yielded ops a.tmps) = true := by simp [Region.wanted, hgd]
  rw [if_pos hw]
  obtain ⟨zv, hinf, hzs⟩ := E.info
  obtain ⟨i0, hi, hz0, hz1, hz2⟩ := info_parts hinf
  have hl1 : L.length + 1 ≤ 140737488355328 := Nat.le_trans (Nat.le_mul_of_pos_right _ (by omega)) hl
  have hl2 : (L.length + 1) * bytes ≤ 140737488355328 := Nat.le_trans (Nat.mul_le_mul_left _ (by omega)) hl
  have hnew : ∀ j u, (c m)[j]? = some u → W.cell? ((⟨b, 0, none⟩ : Addr).add j) = some u := by
    obtain ⟨ao, cp, ev, _, _, _, h4⟩ := hR
    obtain ⟨b', off, e2, hc⟩ := h4 (by simp)
    injection ev with e1 _ _
    rw [← e1] at e2
    injection e2 with e2
    injection e2 with q1 q2 q3
    subst q1; subst q2
    intro j u hu
    rw [Addr.add_mid]
    exact hc j u (by simpa using hu)
  obtain ⟨v', w', hrun, r1, r2, _, r3⟩ := run_append_own_at (P := Try.prog) W 0 sl o.type e i0 zv z bytes E.sl hi hz0 hz1 hz2 hzs E.pos v L.length (L.flatMap c) hO.1 ⟨b, 0, none⟩ 1 cap (c m) (by rw [E.len, Nat.one_mul]) hnew hone (by unfold maxLen; omega) hl2 (Nat.zero_le _)
  unfold Oper.wp
  simp [execOp, ho, resolve, invoke, builtin, hx, hy, hrun, Result.andThen]
  obtain ⟨k1, k2⟩ := OwnF.grown (M := [m]) (n := L.length + 1) hF hO (by simp) (by simpa using r1) r2 r3
  refine h v' w' k1 (Kp.grown r2 (fun k hk => hk)) (fun g hg => ?_)
  rcases r3 with q | q
  · exact .inl (by rw [← q]; exact hg)
  · rw [q] at hg; injection hg with hg; exact .inr (by omega)
end Go.Proofs.Ytiedimmbcmpfbaa
