
-- The line in memory; the maps of letters.
import Derived.Test.YtmhamlhmmkbkaaaDoorLT
import Derived.Test.YtmhamlhmmkbkaaaDoorMF
import Derived.Test.YtmhamlhmmkbkaaaDoorL0
import Derived.Shelf.Abstract
namespace Go.Proofs.YtmhamlhmmkbkaaaDoor
open Go.ChangeShapes Go.WideShapes Go.ChangeAt Go.RowKit Go.MapKept Go.Shelf
set_option linter.unusedVariables false
set_option maxRecDepth 100000
set_option linter.unusedSimpArgs false
def opF (op : UInt8) (s : Bool) : UInt8 := if op = 0 ∧ s = true then 115 else op
theorem opF_fin (r : Rd) : (fin r).op = opF r.op r.s := by
  unfold fin opF
  split <;> rfl
def lnRow (aw : Option Addr) (nw cw : Nat) (pr : Int) (r : Rd) (anc arc : ByteArray) : Array Value := #[.slice aw nw cw, .int .i64 pr, .int .u8 ((opF r.op r.s).toNat : Int), .bool r.vb, .bool r.up, .bool r.qu, .bool r.det, .bool r.dat, .bool r.bare, .bool r.thin, .int .i64 r.kind, .int .i64 (whOf r.po), .string anc, .string arc, .slice none 0 0, .string (byB (poL r.po))]
/-- the line that is being read lies in block b; w0: the world ahead of it -/
structure Ln (w0 : World) (b : Nat) (w : World) (pr : Int) (r : Rd) (anc arc : ByteArray) (L : List ByteArray) : Prop where
  lo : w0.heap.size ≤ b
  bel : Below w0.heap.size w0 w
  ops : r.op ≠ 115
  box : ∃ a n c, RowT w0 (.slice a n c) L ∧ w.heap[b]? = some (.cells (lnRow a n c pr r anc arc) 43 (0, 0))
/-- the line, turned by a call that turns no other block -/
theorem Ln.turn {w0 : World} {b : Nat} {w w' : World} {pr : Int} {r r' : Rd} {anc arc anc' arc' : ByteArray} {L L' : List ByteArray} (h : Ln w0 b w pr r anc arc L) (hq : Kq b w w') (ho : r'.op ≠ 115) (hb : ∃ a n c, RowT w0 (.slice a n c) L' ∧ w'.heap[b]? = some (.cells (lnRow a n c pr r' anc' arc') 43 (0, 0))) : Ln w0 b w' pr r' anc' arc' L' :=
  ⟨h.lo, hq.belowN h.bel h.lo (Nat.le_refl _), ho, hb⟩
/-- nothing turned but new blocks -/
theorem Ln.on {w0 : World} {b : Nat} {w w' : World} {pr : Int} {r : Rd} {anc arc : ByteArray} {L : List ByteArray} (h : Ln w0 b w pr r anc arc L) (hb : Below w.heap.size w w') : Ln w0 b w' pr r anc arc L := by
  obtain ⟨a, n, c, h1, h2⟩ := h.box
  exact ⟨h.lo, bel3K h.bel hb, h.ops, a, n, c, h1, hkeepK hb h2⟩
theorem Kq.ofBelow {b : Nat} {w w' : World} (h : Below w.heap.size w w') : Kq b w w' := ⟨h.os, h.tape, h.output, h.size, fun j _ hj => h.block j hj⟩
def ActPost (w0 : World) (b : Nat) (w : World) (pr : Int) (anc arc : ByteArray) (L : List ByteArray) (s : Sum Int Rd) (e : Ending) (w' : World) : Prop := match s with
  | .inl n => e = .returned (.int .i64 n) ∧ n ≠ 0 ∧ w' = w
  | .inr r => e = .returned (.int .i64 0) ∧ Ln w0 b w' pr r anc arc L ∧ Kq b w w'
def ActOk (st : Rd → UInt8 → Sum Int Rd) (P : Prs) : Prop :=
  (∀ p ∈ P, ∃ n : Nat, n < 128 ∧ p.1 = .int .i32 (n : Int)) ∧ (∀ r (c : UInt8), 128 ≤ c.toNat → st r c = .inl 153) ∧
  ∀ (c : UInt8), c.toNat < 128 →
    (∃ g, (Value.int .i32 (c.toNat : Int), Value.func (.func g) #[] #[]) ∈ P ∧ Enters Tryd.prog g ∧ ∀ w0 b w pr r anc arc L, Ln w0 b w pr r anc arc L → Calls Tryd.prog g #[.pointer (some ⟨b, 0, none⟩), .int .i32 (c.toNat : Int)] w (ActPost w0 b w pr anc arc L (st r c)))
    ∨ ((∀ p ∈ P, p.1 ≠ .int .i32 (c.toNat : Int)) ∧ ∀ r, st r c = .inl 153)
section
variable {P : Program} {w : World} {ops : Array Oper} {rest : List Oper} {o : Oper} {a : Act} {Q : Exit → Act → World → Prop}
theorem wp_insert {d : TypeDesc} {t k e : TypeId} (hg : o.guard = none) (hdst : o.dst = none) (m x v : Operand) (hop : o.op = Op.insert t m x v) (b : Nat) (l : Prs) (key val : Value) (hm : a.eval m = .map (some b)) (hx : a.eval x = key) (hv : a.eval v = val)
    (hM : MapAt d w b l) (ht : P.underlying t = some (.map k e)) (hd : P.underlying k = some d) (hkey : IsKey d key) (hne : ∀ p ∈ l, p.1 ≠ key)
    (hK : ∀ w', MapAt d w' b ((key, val) :: l) → Kq b w w' → wpList P ops Q rest a w') : wpList P ops Q (o :: rest) a w := by
  obtain ⟨w', hrun, hM', hT⟩ := hM.store_new ht hd hkey hne val
  refine wpList_plain hg fun K' hK' => ?_
  unfold Oper.wp
  simp [execOp, hop, hm, hx, hv, hrun, Result.andThen]
  refine hK' _ _ ?_
  rw [hdst]
  exact (hK w' hM' ⟨hT.os.1, hT.os.2.1, hT.os.2.2, by rw [hT.size]; exact Nat.le_refl _, fun j hj _ => hT.other hj⟩)
end
section
variable {P : Program} {w : World} {ops : Array Oper} {rest : List Oper} {o : Oper} {a : Act} {Q : Exit → Act → World → Prop}
/-- a call of a function's value, by its contract -/
theorem wp_callV {x y z : Operand} {ts : Array TypeId} (hg : o.guard = none) (hop : o.op = Op.call { callee := Callee.value x, args := #[y, z], argTypes := ts }) (g : FuncId) (u v : Value) (hx : a.eval x = .func (.func g) #[] #[]) (hy : a.eval y = u) (hz : a.eval z = v)
    (eg : Enters P g) {R : Ending → World → Prop} (hc : Calls P g #[u, v] w R) (hK : ∀ e w', R e w' → ∃ r, e = .returned r ∧ wpList P ops Q rest (a.put o.dst r) w') : wpList P ops Q (o :: rest) a w := by
  refine wpList_plain hg fun K hKK => ?_
  unfold Oper.wp
  have hr : ∀ ρ : Operand → Value, ρ x = .func (.func g) #[] #[] → ρ y = u → ρ z = v → (execOp ρ o).run P w = .ok (.enter g #[u, v]) w := by
    intro ρ h1 h2 h3
    have e1 := eg #[u, v] w
    simp [execOp, hop, resolve, invoke, h1, h2, h3, e1, go_sem]
  have hr := hr a.eval hx hy hz
  rw [hr, Oper.upon_enter]
  refine hc.mono ?_
  intro e w' h
  obtain ⟨r, rfl, hk⟩ := hK e w' h
  exact hKK _ _ hk
theorem wp_callV1 {x y : Operand} {ts : Array TypeId} (hg : o.guard = none) (hop : o.op = Op.call { callee := Callee.value x, args := #[y], argTypes := ts }) (g : FuncId) (u : Value) (hx : a.eval x = .func (.func g) #[] #[]) (hy : a.eval y = u)
    (eg : Enters P g) {R : Ending → World → Prop} (hc : Calls P g #[u] w R) (hK : ∀ e w', R e w' → ∃ r, e = .returned r ∧ wpList P ops Q rest (a.put o.dst r) w') : wpList P ops Q (o :: rest) a w := by
  refine wpList_plain hg fun K hKK => ?_
  unfold Oper.wp
  have hr : ∀ ρ : Operand → Value, ρ x = .func (.func g) #[] #[] → ρ y = u → (execOp ρ o).run P w = .ok (.enter g #[u]) w := by
    intro ρ h1 h2
    have e1 := eg #[u] w
    simp [execOp, hop, resolve, invoke, h1, h2, e1, go_sem]
  have hr := hr a.eval hx hy
  rw [hr, Oper.upon_enter]
  refine hc.mono ?_
  intro e w' h
  obtain ⟨r, rfl, hk⟩ := hK e w' h
  exact hKK _ _ hk
end
theorem mk_map15 (w : World) : (Instr.makeMap 53 none).run Tryd.prog w = .ok (.map (some w.heap.size)) (w.alloc (.map #[] 0)) := by
  simp [Instr.makeMap, run_underlying Tryd.underlying53, asInt, newObj, Result.andThen]
  rfl
def arP : Prs := [(.int .i32 108, .func (.func 51) #[] #[]), (.int .i32 118, .func (.func 50) #[] #[]), (.int .i32 117, .func (.func 49) #[] #[]), (.int .i32 84, .func (.func 48) #[] #[]), (.int .i32 83, .func (.func 47) #[] #[]), (.int .i32 111, .func (.func 46) #[] #[]), (.int .i32 68, .func (.func 39) #[] #[]), (.int .i32 99, .func (.func 45) #[] #[]), (.int .i32 105, .func (.func 44) #[] #[]), (.int .i32 98, .func (.func 44) #[] #[]), (.int .i32 97, .func (.func 44) #[] #[]), (.int .i32 115, .func (.func 43) #[] #[]), (.int .i32 120, .func (.func 42) #[] #[]), (.int .i32 116, .func (.func 42) #[] #[]), (.int .i32 114, .func (.func 42) #[] #[]), (.int .i32 113, .func (.func 42) #[] #[]), (.int .i32 112, .func (.func 42) #[] #[]), (.int .i32 109, .func (.func 42) #[] #[]), (.int .i32 100, .func (.func 42) #[] #[])]
set_option maxHeartbeats 4000000 in
theorem arLetters_c (w : World) : Calls Tryd.prog 35 #[] w fun e w' => e = .returned (.map (some w.heap.size)) ∧ MapAt (.int .i32) w' w.heap.size arP ∧ Below w.heap.size w w' := by
  have HMP := mk_map15
  go_enter Tryd.func35, Tryd.ntmps35
  go_wp2_with (first
    | (refine wp_insert (d := .int .i32) rfl rfl _ _ _ rfl w.heap.size [(.int .i32 118, .func (.func 50) #[] #[]), (.int .i32 117, .func (.func 49) #[] #[]), (.int .i32 84, .func (.func 48) #[] #[]), (.int .i32 83, .func (.func 47) #[] #[]), (.int .i32 111, .func (.func 46) #[] #[]), (.int .i32 68, .func (.func 39) #[] #[]), (.int .i32 99, .func (.func 45) #[] #[]), (.int .i32 105, .func (.func 44) #[] #[]), (.int .i32 98, .func (.func 44) #[] #[]), (.int .i32 97, .func (.func 44) #[] #[]), (.int .i32 115, .func (.func 43) #[] #[]), (.int .i32 120, .func (.func 42) #[] #[]), (.int .i32 116, .func (.func 42) #[] #[]), (.int .i32 114, .func (.func 42) #[] #[]), (.int .i32 113, .func (.func 42) #[] #[]), (.int .i32 112, .func (.func 42) #[] #[]), (.int .i32 109, .func (.func 42) #[] #[]), (.int .i32 100, .func (.func 42) #[] #[])] (.int .i32 108) (.func (.func 51) #[] #[]) rfl rfl rfl M18 Tryd.underlying53 Tryd.underlying21 rfl (by simp) ?_; intro W19 M19 q19)
    | (refine wp_insert (d := .int .i32) rfl rfl _ _ _ rfl w.heap.size [(.int .i32 117, .func (.func 49) #[] #[]), (.int .i32 84, .func (.func 48) #[] #[]), (.int .i32 83, .func (.func 47) #[] #[]), (.int .i32 111, .func (.func 46) #[] #[]), (.int .i32 68, .func (.func 39) #[] #[]), (.int .i32 99, .func (.func 45) #[] #[]), (.int .i32 105, .func (.func 44) #[] #[]), (.int .i32 98, .func (.func 44) #[] #[]), (.int .i32 97, .func (.func 44) #[] #[]), (.int .i32 115, .func (.func 43) #[] #[]), (.int .i32 120, .func (.func 42) #[] #[]), (.int .i32 116, .func (.func 42) #[] #[]), (.int .i32 114, .func (.func 42) #[] #[]), (.int .i32 113, .func (.func 42) #[] #[]), (.int .i32 112, .func (.func 42) #[] #[]), (.int .i32 109, .func (.func 42) #[] #[]), (.int .i32 100, .func (.func 42) #[] #[])] (.int .i32 118) (.func (.func 50) #[] #[]) rfl rfl rfl M17 Tryd.underlying53 Tryd.underlying21 rfl (by simp) ?_; intro W18 M18 q18)
    | (refine wp_insert (d := .int .i32) rfl rfl _ _ _ rfl w.heap.size [(.int .i32 84, .func (.func 48) #[] #[]), (.int .i32 83, .func (.func 47) #[] #[]), (.int .i32 111, .func (.func 46) #[] #[]), (.int .i32 68, .func (.func 39) #[] #[]), (.int .i32 99, .func (.func 45) #[] #[]), (.int .i32 105, .func (.func 44) #[] #[]), (.int .i32 98, .func (.func 44) #[] #[]), (.int .i32 97, .func (.func 44) #[] #[]), (.int .i32 115, .func (.func 43) #[] #[]), (.int .i32 120, .func (.func 42) #[] #[]), (.int .i32 116, .func (.func 42) #[] #[]), (.int .i32 114, .func (.func 42) #[] #[]), (.int .i32 113, .func (.func 42) #[] #[]), (.int .i32 112, .func (.func 42) #[] #[]), (.int .i32 109, .func (.func 42) #[] #[]), (.int .i32 100, .func (.func 42) #[] #[])] (.int .i32 117) (.func (.func 49) #[] #[]) rfl rfl rfl M16 Tryd.underlying53 Tryd.underlying21 rfl (by simp) ?_; intro W17 M17 q17)
    | (refine wp_insert (d := .int .i32) rfl rfl _ _ _ rfl w.heap.size [(.int .i32 83, .func (.func 47) #[] #[]), (.int .i32 111, .func (.func 46) #[] #[]), (.int .i32 68, .func (.func 39) #[] #[]), (.int .i32 99, .func (.func 45) #[] #[]), (.int .i32 105, .func (.func 44) #[] #[]), (.int .i32 98, .func (.func 44) #[] #[]), (.int .i32 97, .func (.func 44) #[] #[]), (.int .i32 115, .func (.func 43) #[] #[]), (.int .i32 120, .func (.func 42) #[] #[]), (.int .i32 116, .func (.func 42) #[] #[]), (.int .i32 114, .func (.func 42) #[] #[]), (.int .i32 113, .func (.func 42) #[] #[]), (.int .i32 112, .func (.func 42) #[] #[]), (.int .i32 109, .func (.func 42) #[] #[]), (.int .i32 100, .func (.func 42) #[] #[])] (.int .i32 84) (.func (.func 48) #[] #[]) rfl rfl rfl M15 Tryd.underlying53 Tryd.underlying21 rfl (by simp) ?_; intro W16 M16 q16)
    | (refine wp_insert (d := .int .i32) rfl rfl _ _ _ rfl w.heap.size [(.int .i32 111, .func (.func 46) #[] #[]), (.int .i32 68, .func (.func 39) #[] #[]), (.int .i32 99, .func (.func 45) #[] #[]), (.int .i32 105, .func (.func 44) #[] #[]), (.int .i32 98, .func (.func 44) #[] #[]), (.int .i32 97, .func (.func 44) #[] #[]), (.int .i32 115, .func (.func 43) #[] #[]), (.int .i32 120, .func (.func 42) #[] #[]), (.int .i32 116, .func (.func 42) #[] #[]), (.int .i32 114, .func (.func 42) #[] #[]), (.int .i32 113, .func (.func 42) #[] #[]), (.int .i32 112, .func (.func 42) #[] #[]), (.int .i32 109, .func (.func 42) #[] #[]), (.int .i32 100, .func (.func 42) #[] #[])] (.int .i32 83) (.func (.func 47) #[] #[]) rfl rfl rfl M14 Tryd.underlying53 Tryd.underlying21 rfl (by simp) ?_; intro W15 M15 q15)
    | (refine wp_insert (d := .int .i32) rfl rfl _ _ _ rfl w.heap.size [(.int .i32 68, .func (.func 39) #[] #[]), (.int .i32 99, .func (.func 45) #[] #[]), (.int .i32 105, .func (.func 44) #[] #[]), (.int .i32 98, .func (.func 44) #[] #[]), (.int .i32 97, .func (.func 44) #[] #[]), (.int .i32 115, .func (.func 43) #[] #[]), (.int .i32 120, .func (.func 42) #[] #[]), (.int .i32 116, .func (.func 42) #[] #[]), (.int .i32 114, .func (.func 42) #[] #[]), (.int .i32 113, .func (.func 42) #[] #[]), (.int .i32 112, .func (.func 42) #[] #[]), (.int .i32 109, .func (.func 42) #[] #[]), (.int .i32 100, .func (.func 42) #[] #[])] (.int .i32 111) (.func (.func 46) #[] #[]) rfl rfl rfl M13 Tryd.underlying53 Tryd.underlying21 rfl (by simp) ?_; intro W14 M14 q14)
    | (refine wp_insert (d := .int .i32) rfl rfl _ _ _ rfl w.heap.size [(.int .i32 99, .func (.func 45) #[] #[]), (.int .i32 105, .func (.func 44) #[] #[]), (.int .i32 98, .func (.func 44) #[] #[]), (.int .i32 97, .func (.func 44) #[] #[]), (.int .i32 115, .func (.func 43) #[] #[]), (.int .i32 120, .func (.func 42) #[] #[]), (.int .i32 116, .func (.func 42) #[] #[]), (.int .i32 114, .func (.func 42) #[] #[]), (.int .i32 113, .func (.func 42) #[] #[]), (.int .i32 112, .func (.func 42) #[] #[]), (.int .i32 109, .func (.func 42) #[] #[]), (.int .i32 100, .func (.func 42) #[] #[])] (.int .i32 68) (.func (.func 39) #[] #[]) rfl rfl rfl M12 Tryd.underlying53 Tryd.underlying21 rfl (by simp) ?_; intro W13 M13 q13)
    | (refine wp_insert (d := .int .i32) rfl rfl _ _ _ rfl w.heap.size [(.int .i32 105, .func (.func 44) #[] #[]), (.int .i32 98, .func (.func 44) #[] #[]), (.int .i32 97, .func (.func 44) #[] #[]), (.int .i32 115, .func (.func 43) #[] #[]), (.int .i32 120, .func (.func 42) #[] #[]), (.int .i32 116, .func (.func 42) #[] #[]), (.int .i32 114, .func (.func 42) #[] #[]), (.int .i32 113, .func (.func 42) #[] #[]), (.int .i32 112, .func (.func 42) #[] #[]), (.int .i32 109, .func (.func 42) #[] #[]), (.int .i32 100, .func (.func 42) #[] #[])] (.int .i32 99) (.func (.func 45) #[] #[]) rfl rfl rfl M11 Tryd.underlying53 Tryd.underlying21 rfl (by simp) ?_; intro W12 M12 q12)
    | (refine wp_insert (d := .int .i32) rfl rfl _ _ _ rfl w.heap.size [(.int .i32 98, .func (.func 44) #[] #[]), (.int .i32 97, .func (.func 44) #[] #[]), (.int .i32 115, .func (.func 43) #[] #[]), (.int .i32 120, .func (.func 42) #[] #[]), (.int .i32 116, .func (.func 42) #[] #[]), (.int .i32 114, .func (.func 42) #[] #[]), (.int .i32 113, .func (.func 42) #[] #[]), (.int .i32 112, .func (.func 42) #[] #[]), (.int .i32 109, .func (.func 42) #[] #[]), (.int .i32 100, .func (.func 42) #[] #[])] (.int .i32 105) (.func (.func 44) #[] #[]) rfl rfl rfl M10 Tryd.underlying53 Tryd.underlying21 rfl (by simp) ?_; intro W11 M11 q11)
    | (refine wp_insert (d := .int .i32) rfl rfl _ _ _ rfl w.heap.size [(.int .i32 97, .func (.func 44) #[] #[]), (.int .i32 115, .func (.func 43) #[] #[]), (.int .i32 120, .func (.func 42) #[] #[]), (.int .i32 116, .func (.func 42) #[] #[]), (.int .i32 114, .func (.func 42) #[] #[]), (.int .i32 113, .func (.func 42) #[] #[]), (.int .i32 112, .func (.func 42) #[] #[]), (.int .i32 109, .func (.func 42) #[] #[]), (.int .i32 100, .func (.func 42) #[] #[])] (.int .i32 98) (.func (.func 44) #[] #[]) rfl rfl rfl M9 Tryd.underlying53 Tryd.underlying21 rfl (by simp) ?_; intro W10 M10 q10)
    | (refine wp_insert (d := .int .i32) rfl rfl _ _ _ rfl w.heap.size [(.int .i32 115, .func (.func 43) #[] #[]), (.int .i32 120, .func (.func 42) #[] #[]), (.int .i32 116, .func (.func 42) #[] #[]), (.int .i32 114, .func (.func 42) #[] #[]), (.int .i32 113, .func (.func 42) #[] #[]), (.int .i32 112, .func (.func 42) #[] #[]), (.int .i32 109, .func (.func 42) #[] #[]), (.int .i32 100, .func (.func 42) #[] #[])] (.int .i32 97) (.func (.func 44) #[] #[]) rfl rfl rfl M8 Tryd.underlying53 Tryd.underlying21 rfl (by simp) ?_; intro W9 M9 q9)
    | (refine wp_insert (d := .int .i32) rfl rfl _ _ _ rfl w.heap.size [(.int .i32 120, .func (.func 42) #[] #[]), (.int .i32 116, .func (.func 42) #[] #[]), (.int .i32 114, .func (.func 42) #[] #[]), (.int .i32 113, .func (.func 42) #[] #[]), (.int .i32 112, .func (.func 42) #[] #[]), (.int .i32 109, .func (.func 42) #[] #[]), (.int .i32 100, .func (.func 42) #[] #[])] (.int .i32 115) (.func (.func 43) #[] #[]) rfl rfl rfl M7 Tryd.underlying53 Tryd.underlying21 rfl (by simp) ?_; intro W8 M8 q8)
    | (refine wp_insert (d := .int .i32) rfl rfl _ _ _ rfl w.heap.size [(.int .i32 116, .func (.func 42) #[] #[]), (.int .i32 114, .func (.func 42) #[] #[]), (.int .i32 113, .func (.func 42) #[] #[]), (.int .i32 112, .func (.func 42) #[] #[]), (.int .i32 109, .func (.func 42) #[] #[]), (.int .i32 100, .func (.func 42) #[] #[])] (.int .i32 120) (.func (.func 42) #[] #[]) rfl rfl rfl M6 Tryd.underlying53 Tryd.underlying21 rfl (by simp) ?_; intro W7 M7 q7)
    | (refine wp_insert (d := .int .i32) rfl rfl _ _ _ rfl w.heap.size [(.int .i32 114, .func (.func 42) #[] #[]), (.int .i32 113, .func (.func 42) #[] #[]), (.int .i32 112, .func (.func 42) #[] #[]), (.int .i32 109, .func (.func 42) #[] #[]), (.int .i32 100, .func (.func 42) #[] #[])] (.int .i32 116) (.func (.func 42) #[] #[]) rfl rfl rfl M5 Tryd.underlying53 Tryd.underlying21 rfl (by simp) ?_; intro W6 M6 q6)
    | (refine wp_insert (d := .int .i32) rfl rfl _ _ _ rfl w.heap.size [(.int .i32 113, .func (.func 42) #[] #[]), (.int .i32 112, .func (.func 42) #[] #[]), (.int .i32 109, .func (.func 42) #[] #[]), (.int .i32 100, .func (.func 42) #[] #[])] (.int .i32 114) (.func (.func 42) #[] #[]) rfl rfl rfl M4 Tryd.underlying53 Tryd.underlying21 rfl (by simp) ?_; intro W5 M5 q5)
    | (refine wp_insert (d := .int .i32) rfl rfl _ _ _ rfl w.heap.size [(.int .i32 112, .func (.func 42) #[] #[]), (.int .i32 109, .func (.func 42) #[] #[]), (.int .i32 100, .func (.func 42) #[] #[])] (.int .i32 113) (.func (.func 42) #[] #[]) rfl rfl rfl M3 Tryd.underlying53 Tryd.underlying21 rfl (by simp) ?_; intro W4 M4 q4)
    | (refine wp_insert (d := .int .i32) rfl rfl _ _ _ rfl w.heap.size [(.int .i32 109, .func (.func 42) #[] #[]), (.int .i32 100, .func (.func 42) #[] #[])] (.int .i32 112) (.func (.func 42) #[] #[]) rfl rfl rfl M2 Tryd.underlying53 Tryd.underlying21 rfl (by simp) ?_; intro W3 M3 q3)
    | (refine wp_insert (d := .int .i32) rfl rfl _ _ _ rfl w.heap.size [(.int .i32 100, .func (.func 42) #[] #[])] (.int .i32 109) (.func (.func 42) #[] #[]) rfl rfl rfl M1 Tryd.underlying53 Tryd.underlying21 rfl (by simp) ?_; intro W2 M2 q2)
    | (refine wp_insert (d := .int .i32) rfl rfl _ _ _ rfl w.heap.size [] (.int .i32 100) (.func (.func 42) #[] #[]) rfl rfl rfl (MapAt.made (.int .i32) w) Tryd.underlying53 Tryd.underlying21 rfl (by simp) ?_; intro W1 M1 q1))
  go_ret
  exact ⟨rfl, M19, (((((((((((((((((((q1).two q2).two q3).two q4).two q5).two q6).two q7).two q8).two q9).two q10).two q11).two q12).two q13).two q14).two q15).two q16).two q17).two q18).two q19).belowN (bupK (Below.refl _ _) _) (Nat.le_refl _) (Nat.le_refl _)⟩
def ranP : Prs := [(.int .i32 68, .func (.func 39) #[] #[])]
set_option maxHeartbeats 4000000 in
theorem ranLetters_c (w : World) : Calls Tryd.prog 26 #[] w fun e w' => e = .returned (.map (some w.heap.size)) ∧ MapAt (.int .i32) w' w.heap.size ranP ∧ Below w.heap.size w w' := by
  have HMP := mk_map15
  go_enter Tryd.func26, Tryd.ntmps26
  go_wp2_with (first
    | (refine wp_insert (d := .int .i32) rfl rfl _ _ _ rfl w.heap.size [] (.int .i32 68) (.func (.func 39) #[] #[]) rfl rfl rfl (MapAt.made (.int .i32) w) Tryd.underlying53 Tryd.underlying21 rfl (by simp) ?_; intro W1 M1 q1))
  go_ret
  exact ⟨rfl, M1, (q1).belowN (bupK (Below.refl _ _) _) (Nat.le_refl _) (Nat.le_refl _)⟩
end Go.Proofs.YtmhamlhmmkbkaaaDoor
