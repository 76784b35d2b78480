
-- Commands in memory.
import Derived.Test.YtdamhdceajmdfaaDoorP0
import Derived.Laws.AppendOwnNone
namespace Go.Proofs.YtdamhdceajmdfaaDoor
open Go.ChangeShapes Go.WideShapes Go.ChangeAt Go.RowKit
set_option linter.unusedVariables false
set_option maxRecDepth 100000
set_option linter.unusedSimpArgs false
/-- a command's cells: its list of names is a value -/
def mrL (p : Mr × Value) : List Value := [.int .i64 p.1.v, .string p.1.n, p.2]
theorem mrL_len (p : Mr × Value) : (mrL p).length = 3 := rfl
/-- a slice that reads as commands, each with the slice of its names -/
structure RowR (w : World) (v : Value) (P : List (Mr × Value)) : Prop where
  row : RowG mrL w v P
  names : ∀ p ∈ P, RowT w p.2 p.1.ns
theorem RowR.on {w w' : World} {v : Value} {P : List (Mr × Value)} (h : RowR w v P) (hb : Below w.heap.size w w') : RowR w' v P := ⟨h.row.on hb, fun p hp => (h.names p hp).on hb⟩
theorem RowR.at {w : World} {v : Value} {P : List (Mr × Value)} {k : Nat} {p : Mr × Value} (h : RowR w v P) (hx : P[k]? = some p) : ∃ b off cap, v = .slice (some ⟨b, off, none⟩) P.length cap ∧ w.cell? ⟨b, off + k * 3, none⟩ = some (.int .i64 p.1.v) ∧ w.cell? ⟨b, off + k * 3 + 1, none⟩ = some (.string p.1.n) ∧ w.cell? ⟨b, off + k * 3 + 2, none⟩ = some p.2 := by
  obtain ⟨b, off, cap, e, _, _, hc⟩ := RowG.at mrL_len h.row hx
  exact ⟨b, off, cap, e, hc 0 _ rfl, hc 1 _ rfl, hc 2 _ rfl⟩
theorem RowT.slice {w : World} {v : Value} {L : List ByteArray} (h : RowT w v L) : ∃ ao cap, v = .slice ao L.length cap := by
  obtain ⟨ao, cap, e, _⟩ := h
  exact ⟨ao, cap, e⟩
/-- commands in rows of one's own -/
structure OwnR (B : Nat) (w : World) (v : Value) (P : List (Mr × Value)) : Prop where
  row : w.ownsRow B 28 3 v P.length (P.flatMap mrL)
  names : ∀ p ∈ P, OwnT B w p.2 p.1.ns
  apart : P.Pairwise fun p q => ∀ g h, p.2.ownBlock = some g → q.2.ownBlock = some h → g < h
theorem OwnR.toRow {B : Nat} {w : World} {v : Value} {P : List (Mr × Value)} (h : OwnR B w v P) : RowR w v P := ⟨rowG_own (by decide) mrL_len h.row, fun p hp => (h.names p hp).row⟩
theorem OwnR.on {B : Nat} {w w' : World} {v : Value} {P : List (Mr × Value)} (h : OwnR B w v P) (hb : Below w.heap.size w w') : OwnR B w' v P := ⟨ownG_on h.row hb, fun p hp => (h.names p hp).on hb, h.apart⟩
theorem OwnR.le {B B' : Nat} {w : World} {v : Value} {P : List (Mr × Value)} (h : OwnR B' w v P) (hb : B ≤ B') : OwnR B w v P := ⟨ownG_le h.row hb, fun p hp => (h.names p hp).le hb, h.apart⟩
theorem ownR_nil (B : Nat) (w : World) : OwnR B w (.slice none 0 0) [] := ⟨⟨rfl, .inl ⟨rfl, rfl⟩⟩, by simp, by simp⟩
theorem ownT_nil (B : Nat) (w : World) : OwnT B w (.slice none 0 0) [] := ⟨rfl, .inl ⟨rfl, rfl⟩⟩
theorem infoMr : (Tryd.prog.info? 28).map (fun i => (i.zero, i.size, i.bytes)) = some (some (.agg #[.int .i64 0, .string ⟨#[]⟩, .slice none 0 0]), 3, 48) := by kernel_rfl
theorem infoTx19 : (Tryd.prog.info? 9).map (fun i => (i.zero, i.size, i.bytes)) = some (some (.string ⟨#[]⟩), 1, 16) := by kernel_rfl
theorem OwnT.sl {B : Nat} {w : World} {v : Value} {L : List ByteArray} (h : OwnT B w v L) : ∃ ao cap, v = .slice ao L.length cap := by
  obtain ⟨ao, cap, e, _⟩ := h.row.form
  exact ⟨ao, cap, e⟩
/-- one more command -/
theorem wpR_one {ops : Array Oper} {rest : List Oper} {o : Oper} {a : Act} {W : World} {Q : Exit → Act → World → Prop} (hgd : o.guard = none) (x y : Operand) (ho : o.op = .call { callee := .builtin .append, args := #[x, y], argTypes := #[22, 22] })
    (A : World) (B : Nat) (v : Value) (P : List (Mr × Value)) (c : Mr) (u : Value) (hx : a.eval x = v) (hy : a.eval y = .slice (some ⟨W.heap.size, 0, none⟩) 1 1) (hO : OwnR B W v P) (hT : OwnT B W u c.ns) (hlast : ∀ p ∈ P, ∀ g h, p.2.ownBlock = some g → u.ownBlock = some h → g < h) (hl : P.length ≤ 268435456) (hA : B ≤ A.heap.size) (hB : Below B A W)
    (h : ∀ v' w', OwnR B w' v' (P ++ [(c, u)]) → Below B A w' → (W.alloc (.cells #[.int .i64 c.v, .string c.n, u] 28)).grownBy w' v.ownBlock → wpList Tryd.prog ops Q rest (a.put o.dst v') w') : wpList Tryd.prog ops Q (o :: rest) a (W.alloc (.cells #[.int .i64 c.v, .string c.n, u] 28)) := by
  obtain ⟨i0, hi, hz0, hz1, hz2⟩ := info_parts infoMr
  have hBW : B ≤ W.heap.size := Nat.le_trans hA hB.size
  have hO2 : (W.alloc (.cells #[.int .i64 c.v, .string c.n, u] 28)).ownsRow B 28 3 v P.length (P.flatMap mrL) := own_upK hO.row _
  obtain ⟨ao, cap, hu⟩ := hT.sl
  refine wpList_append_own _ hgd x y 22 ho B 28 i0 (.agg #[.int .i64 0, .string ⟨#[]⟩, .slice none 0 0]) 3 48 Tryd.underlying22 hi hz0 hz1 hz2 rfl (by decide) v P.length (P.flatMap mrL) hx hO2 ⟨W.heap.size, 0, none⟩ 1 1 (mrL (c, u)) hy rfl (new_rowK W #[.int .i64 c.v, .string c.n, u] 28 (mrL (c, u)) rfl) (by intro q hq; simp only [mrL, List.mem_cons, List.not_mem_nil, or_false] at hq; rcases hq with rfl | rfl | rfl; rfl; rfl; rw [hu]; rfl) (by unfold maxLen; omega) (by omega) (by rw [World.size_alloc]; omega) ?_
  intro v' w' o1 g1 _
  have hne : ∀ {e : Value} {L : List ByteArray}, OwnT B W e L → OwnT B w' e L := fun {e} {L} hq => own_ne (own_upK hq _) (own_ty (own_upK hq (.cells #[.int .i64 c.v, .string c.n, u] 28)) hO2 (by decide)) g1
  refine h v' w' ⟨?_, ?_, ?_⟩ (below_grow (hB.alloc hBW _) g1 hO2 hA) g1
  · rw [List.length_append, List.flatMap_append]
    have e : ([(c, u)] : List (Mr × Value)).flatMap mrL = mrL (c, u) := by simp
    rw [e]
    exact o1
  · intro p hp
    rcases List.mem_append.1 hp with hp | hp
    · exact hne (hO.names p hp)
    · simp at hp; subst hp; exact hne hT
  · rw [List.pairwise_append]
    exact ⟨hO.apart, by simp, fun p hp q hq => by simp at hq; subst hq; exact hlast p hp⟩
end Go.Proofs.YtdamhdceajmdfaaDoor
