
-- Rows of texts that grow: one more, a whole row more.
import Derived.Test.YtmhamlhmmkbkaaaDoorC0
import Derived.Laws.AppendOwnNone
namespace Go.Proofs.YtmhamlhmmkbkaaaDoor
open Go.ChangeShapes Go.WideShapes Go.ChangeAt Go.RowKit
set_option linter.unusedVariables false
set_option maxRecDepth 100000
set_option linter.unusedSimpArgs false
theorem ownT_nil (B : Nat) (w : World) : OwnT B w (.slice none 0 0) [] := ⟨rfl, .inl ⟨rfl, rfl⟩⟩
theorem pushT {B n : Nat} {w : World} {v : Value} {L M : List ByteArray} (hn : n = L.length + M.length) (h : w.ownsRow B 9 1 v n (L.flatMap txL ++ M.flatMap txL)) : OwnT B w v (L ++ M) := by
  unfold OwnT
  rw [List.length_append, List.flatMap_append, ← hn]
  exact h
theorem lenT (L : List ByteArray) : (L.flatMap txL).length = L.length := by rw [flatG_len txL 1 txL_len, Nat.mul_one]
theorem wpT_one {ops : Array Oper} {rest : List Oper} {o : Oper} {a : Act} {W : World} {Q : Exit → Act → World → Prop} (hgd : o.guard = none) (x y : Operand) (ho : o.op = .call { callee := .builtin .append, args := #[x, y], argTypes := #[22, 22] })
    (A : World) (B : Nat) (v : Value) (L : List ByteArray) (s : ByteArray) (hx : a.eval x = v) (hy : a.eval y = .slice (some ⟨W.heap.size, 0, none⟩) 1 1) (hO : OwnT B W v L) (hl : L.length ≤ 268435456) (hA : B ≤ A.heap.size) (hB : Below B A W)
    (h : ∀ v' w', OwnT B w' v' (L ++ [s]) → Below B A w' → wpList Tryd.prog ops Q rest (a.put o.dst v') w') : wpList Tryd.prog ops Q (o :: rest) a (W.alloc (.cells #[.string s] 9)) := by
  obtain ⟨i0, hi, hz0, hz1, hz2⟩ := info_parts infoTx15
  have hBW : B ≤ W.heap.size := Nat.le_trans hA hB.size
  have hO2 : (W.alloc (.cells #[.string s] 9)).ownsRow B 9 1 v L.length (L.flatMap txL) := own_upK hO _
  refine wpList_append_own _ hgd x y 22 ho B 9 i0 (.string ⟨#[]⟩) 1 16 Tryd.underlying22 hi hz0 hz1 hz2 rfl (by decide) v L.length (L.flatMap txL) hx hO2 ⟨W.heap.size, 0, none⟩ 1 1 [.string s] hy rfl (new_rowK W #[.string s] 9 [.string s] rfl) (by intro u hu; simp at hu; subst hu; rfl) (by unfold maxLen; omega) (by omega) (by rw [World.size_alloc]; omega) ?_
  intro v' w' o1 g1 _
  refine h v' w' ?_ ?_
  · exact pushT (M := [s]) rfl o1
  · exact below_grow (hB.alloc hBW _) g1 hO2 hA
theorem wpT_all {ops : Array Oper} {rest : List Oper} {o : Oper} {a : Act} {W : World} {Q : Exit → Act → World → Prop} (hgd : o.guard = none) (x y : Operand) (ho : o.op = .call { callee := .builtin .append, args := #[x, y], argTypes := #[22, 22] })
    (A : World) (B : Nat) (v u : Value) (L M : List ByteArray) (hx : a.eval x = v) (hy : a.eval y = u) (hO : OwnT B W v L) (hR : RowT W u M) (hl : L.length ≤ 268435456) (hm : M.length ≤ 268435456) (hA : B ≤ A.heap.size) (hB : Below B A W)
    (h : ∀ v' w', OwnT B w' v' (L ++ M) → Below B A w' → wpList Tryd.prog ops Q rest (a.put o.dst v') w') : wpList Tryd.prog ops Q (o :: rest) a W := by
  obtain ⟨i0, hi, hz0, hz1, hz2⟩ := info_parts infoTx15
  have hBW : B ≤ W.heap.size := Nat.le_trans hA hB.size
  obtain ⟨ao, cap, e, h1, h2, h3, h4⟩ := hR
  cases ao with
  | none =>
    have hc := h3 rfl
    subst hc
    have hM : M = [] := List.eq_nil_of_length_eq_zero (by omega)
    subst hM
    refine wpList_append_own_none hgd x y 22 ho B 9 i0 1 Tryd.underlying22 hi v L.length (L.flatMap txL) hx hO (by rw [hy, e]; rfl) ?_
    exact h v W (by rw [List.append_nil]; exact hO) hB
  | some ad =>
    have hcl : ∀ j u, (M.flatMap txL)[j]? = some u → W.cell? (ad.add j) = some u := by
      intro j u hu
      have hj : j < (M.flatMap txL).length := (List.getElem?_eq_some_iff.1 hu).1
      rw [lenT] at hj
      obtain ⟨b, off, e, hc⟩ := h4 (by omega)
      injection e with e
      subst e
      rw [Addr.add_mid]
      exact hc j u hu
    refine wpList_append_own _ hgd x y 22 ho B 9 i0 (.string ⟨#[]⟩) 1 16 Tryd.underlying22 hi hz0 hz1 hz2 rfl (by decide) v L.length (L.flatMap txL) hx hO ad M.length cap (M.flatMap txL) (by rw [hy, e]) (by rw [lenT, Nat.mul_one]) hcl (flatG_one txL_one M) (by unfold maxLen; omega) (by omega) hBW ?_
    intro v' w' o1 g1 _
    refine h v' w' ?_ ?_
    · exact pushT rfl o1
    · exact below_grow hB g1 hO hA
/-- a beginning of a row -/
theorem rowT_take {w : World} {b cap n : Nat} {L : List ByteArray} (h : RowT w (.slice (some ⟨b, 0, none⟩) L.length cap) L) (hn : n ≤ L.length) : RowT w (.slice (some ⟨b, 0, none⟩) n cap) (L.take n) := by
  obtain ⟨ao, c, e, h1, h2, h3, h4⟩ := h
  injection e with e1 e2 e3
  subst e1; subst e3
  have hl : (L.take n).length = n := by rw [List.length_take]; omega
  refine ⟨some ⟨b, 0, none⟩, cap, by rw [hl], by omega, h2, by simp, ?_⟩
  intro hp
  obtain ⟨b', off, e, hc⟩ := h4 (by omega)
  refine ⟨b', off, e, fun j u hu => hc j u ?_⟩
  have e5 : (L.take n).flatMap txL = (L.flatMap txL).take n := by have := flatG_take txL 1 txL_len L n; rw [Nat.mul_one] at this; exact this.symm
  rw [e5] at hu
  have hj : j < n := by
    have := (List.getElem?_eq_some_iff.1 hu).1
    rw [List.length_take] at this; omega
  rw [List.getElem?_take, if_pos hj] at hu
  exact hu
end Go.Proofs.YtmhamlhmmkbkaaaDoor
