
-- Rows of one's own that grow, elements of any cells: one more, a whole row more.
import Derived.Test.YtnajnfnkpcpacaaOS
import Derived.Laws.AppendOwnNone
namespace Go.Proofs.Ytnajnfnkpcpacaa
open Go.ChangeShapes Go.WideShapes Go.ChangeAt Go.RowKit
set_option linter.unusedVariables false
set_option maxRecDepth 100000
set_option linter.unusedSimpArgs false
/-- a kind of element: its cells, its type, the type of its lists, its bytes -/
structure ElZ {α : Type} (c : α → List Value) (z : Nat) (e sl : TypeId) (bytes : Nat) : Prop where
  pos : 0 < z
  len : ∀ x, (c x).length = z
  one : ∀ x, ∀ u ∈ c x, u.oneCell' = true
  sl : Try.prog.underlying sl = some (.slice e)
  info : ∃ zv, (Try.prog.info? e).map (fun i => (i.zero, i.size, i.bytes)) = some (some zv, z, bytes) ∧ zv.cells.size = z
/-- a list in memory of its own, above B -/
def OwnZ {α : Type} (c : α → List Value) (z : Nat) (e : TypeId) (B : Nat) (w : World) (v : Value) (L : List α) : Prop := w.ownsRow B e z v L.length (L.flatMap c)
section
variable {α : Type} {c : α → List Value} {z : Nat} {e sl : TypeId} {bytes : Nat}
theorem OwnZ.row (E : ElZ c z e sl bytes) {B : Nat} {w : World} {v : Value} {L : List α} (h : OwnZ c z e B w v L) : RowG c w v L := rowG_own E.pos E.len h
theorem OwnZ.on {B : Nat} {w w' : World} {v : Value} {L : List α} (h : OwnZ c z e B w v L) (hb : Below w.heap.size w w') : OwnZ c z e B w' v L := ownG_on h hb
theorem OwnZ.le {B B' : Nat} {w : World} {v : Value} {L : List α} (h : OwnZ c z e B' w v L) (hb : B ≤ B') : OwnZ c z e B w v L := ownG_le h hb
theorem ownZ_nil (B : Nat) (w : World) : OwnZ c z e B w (.slice none 0 0) ([] : List α) := ⟨by simp, .inl ⟨rfl, rfl⟩⟩
theorem pushZ {B n : Nat} {w : World} {v : Value} {L M : List α} (hn : n = L.length + M.length) (h : w.ownsRow B e z v n (L.flatMap c ++ M.flatMap c)) : OwnZ c z e B w v (L ++ M) := by
  unfold OwnZ
  rw [List.length_append, List.flatMap_append, ← hn]
  exact h
theorem wpZ_one (E : ElZ c z e sl bytes) {ops : Array Oper} {rest : List Oper} {o : Oper} {a : Act} {W : World} {Q : Exit → Act → World → Prop} (hgd : o.guard = none) (x y : Operand) (ho : o.op = .call { callee := .builtin .append, args := #[x, y], argTypes := #[sl, sl] })
    (A : World) (B : Nat) (v : Value) (L : List α) (s : α) (hx : a.eval x = v) (hy : a.eval y = .slice (some ⟨W.heap.size, 0, none⟩) 1 1) (hO : OwnZ c z e B W v L) (hl : (L.length + 1) * (bytes + 1) ≤ 140737488355328) (hA : B ≤ A.heap.size) (hB : Below B A W)
    (h : ∀ v' w', OwnZ c z e B w' v' (L ++ [s]) → Below B A w' → wpList Try.prog ops Q rest (a.put o.dst v') w') : wpList Try.prog ops Q (o :: rest) a (W.alloc (.cells (c s).toArray e)) := by
  obtain ⟨zv, hinf, hzs⟩ := E.info
  obtain ⟨i0, hi, hz0, hz1, hz2⟩ := info_parts hinf
  have hBW : B ≤ W.heap.size := Nat.le_trans hA hB.size
  have hl1 : L.length + 1 ≤ 140737488355328 := Nat.le_trans (Nat.le_mul_of_pos_right _ (by omega)) hl
  have hl2 : (L.length + 1) * bytes ≤ 140737488355328 := Nat.le_trans (Nat.mul_le_mul_left _ (by omega)) hl
  have hO2 : (W.alloc (.cells (c s).toArray e)).ownsRow B e z v L.length (L.flatMap c) := own_upK hO _
  refine wpList_append_own _ hgd x y sl ho B e i0 zv z bytes E.sl hi hz0 hz1 hz2 hzs E.pos v L.length (L.flatMap c) hx hO2 ⟨W.heap.size, 0, none⟩ 1 1 (c s) hy (by rw [E.len, Nat.one_mul]) (new_rowK W (c s).toArray e (c s) rfl) (E.one s) (by unfold maxLen; omega) hl2 (by rw [World.size_alloc]; omega) ?_
  intro v' w' o1 g1 _
  refine h v' w' ?_ ?_
  · exact pushZ (M := [s]) rfl (by rw [List.flatMap_cons, List.flatMap_nil, List.append_nil]; exact o1)
  · exact below_grow (hB.alloc hBW _) g1 hO2 hA
theorem wpZ_all (E : ElZ c z e sl bytes) {ops : Array Oper} {rest : List Oper} {o : Oper} {a : Act} {W : World} {Q : Exit → Act → World → Prop} (hgd : o.guard = none) (x y : Operand) (ho : o.op = .call { callee := .builtin .append, args := #[x, y], argTypes := #[sl, sl] })
    (A : World) (B : Nat) (v u : Value) (L M : List α) (hx : a.eval x = v) (hy : a.eval y = u) (hO : OwnZ c z e B W v L) (hR : RowG c W u M) (hl : (L.length + M.length) * (bytes + 1) ≤ 140737488355328) (hA : B ≤ A.heap.size) (hB : Below B A W)
    (h : ∀ v' w', OwnZ c z e B w' v' (L ++ M) → Below B A w' → wpList Try.prog ops Q rest (a.put o.dst v') w') : wpList Try.prog ops Q (o :: rest) a W := by
  obtain ⟨zv, hinf, hzs⟩ := E.info
  obtain ⟨i0, hi, hz0, hz1, hz2⟩ := info_parts hinf
  have hBW : B ≤ W.heap.size := Nat.le_trans hA hB.size
  have hl1 : L.length + M.length ≤ 140737488355328 := Nat.le_trans (Nat.le_mul_of_pos_right _ (by omega)) hl
  have hl2 : (L.length + M.length) * bytes ≤ 140737488355328 := Nat.le_trans (Nat.mul_le_mul_left _ (by omega)) hl
  obtain ⟨ao, cap, ev, h1, h2, h3, h4⟩ := hR
  cases ao with
  | none =>
    have hc := h3 rfl
    subst hc
    have hM : M = [] := List.eq_nil_of_length_eq_zero (by omega)
    subst hM
    refine wpList_append_own_none hgd x y sl ho B e i0 z E.sl hi v L.length (L.flatMap c) hx hO (by rw [hy, ev]; rfl) ?_
    exact h v W (by rw [List.append_nil]; exact hO) hB
  | some ad =>
    have hcl : ∀ j u, (M.flatMap c)[j]? = some u → W.cell? (ad.add j) = some u := by
      intro j u hu
      have hj : j < (M.flatMap c).length := (List.getElem?_eq_some_iff.1 hu).1
      have hp : 0 < M.length := by
        cases M with
        | nil => simp at hj
        | cons _ _ => simp
      obtain ⟨b, off, e2, hc⟩ := h4 hp
      injection e2 with e2
      subst e2
      rw [Addr.add_mid]
      exact hc j u hu
    refine wpList_append_own _ hgd x y sl ho B e i0 zv z bytes E.sl hi hz0 hz1 hz2 hzs E.pos v L.length (L.flatMap c) hx hO ad M.length cap (M.flatMap c) (by rw [hy, ev]) (by rw [flatG_len c z E.len]) hcl (flatG_one E.one M) (by unfold maxLen; omega) hl2 hBW ?_
    intro v' w' o1 g1 _
    refine h v' w' ?_ ?_
    · exact pushZ rfl o1
    · exact below_grow hB g1 hO hA
end
theorem elSe : ElZ seL 8 50 29 64 := ⟨by decide, seL_len, seL_one, Try.underlying29, .agg #[.int .i64 0, .int .i64 0, .int .u64 0, .int .i64 0, .int .i64 0, .int .u64 0, .int .u64 0, .int .u64 0], by kernel_rfl, rfl⟩
theorem elRw : ElZ rwL 8 38 32 72 := ⟨by decide, rwL_len, rwL_one, Try.underlying32, .agg #[.string ⟨#[]⟩, .int .i64 0, .int .i64 0, .int .i64 0, .int .i64 0, .int .u64 0, .int .u64 0, .int .u8 0], by kernel_rfl, rfl⟩
end Go.Proofs.Ytnajnfnkpcpacaa
