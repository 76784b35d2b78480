import Derived.Test.YtaeigacinefhnabDoorM3
import Derived.Test.YtaeigacinefhnabDoorM4
import Derived.Test.YtaeigacinefhnabDoorM1
import Derived.OwnWalk
import Derived.Laws.AppendOwnNone
import Derived.Test.YtaeigacinefhnabDoorR1
import Derived.Test.YtaeigacinefhnabDoorN2
import Derived.LoopTactic
import Derived.Deep.QuietTactic
import Derived.BigQuiet
import Derived.Test.YtaeigacinefhnabDoorC2

-- syms: a symbol at its place in the table: contracts.
namespace Go.Proofs.YtaeigacinefhnabDoor
open Go.ChangeShapes Go.WideShapes Go.ChangeAt Go.RowKit
set_option linter.unusedVariables false
set_option maxRecDepth 100000
theorem sym_32 (t names nm : ByteArray) (p k : Nat) (o : Int) (w : World) (hF : w.heap[k]? = some (.cells (tabCells col32 o t names) 75 (0, 0))) (hp : p + 16 ≤ t.size) (hm : names.size ≤ maxLen) (ho : o = 0 ∨ o = 1) (hN : nameOf names (num t p 4 o) = some nm) :
    Calls Tryd.prog 60 #[.pointer (some ⟨k, 0, none⟩), .string (t.extract p (p + 16))] w fun r w' => r = .returned (.tuple #[.agg (symV (symAt 32 o t p nm)).toArray, .int .i64 0]) ∧ Below w.heap.size w w' := by
  have e (a K : Nat) (h : p + a + K ≤ p + 16) : num (t.extract p (p + 16)) a K o = num t (p + a) K o := num_ext t p (p + 16) a K o h
  have i (a K : Nat) (h : p + a + K ≤ p + 16) : numI (t.extract p (p + 16)) (a : Int) (K : Int) o = ((num t (p + a) K o : Nat) : Int) := congrArg (Nat.cast : Nat → Int) (e a K h)
  refine (symbol_32 _ t names nm k o w hF (by rw [ByteArray.size_extract]; omega) hm ho (by rw [e 0 4 (by omega)]; exact hN)).mono fun r w' ⟨h1, h2⟩ => ⟨?_, h2⟩
  have e1 := e 12 1 (by omega)
  have e2 : numI (t.extract p (p + 16)) 13 1 o = ((num t (p + 13) 1 o : Nat) : Int) := i 13 1 (by omega)
  have e3 : numI (t.extract p (p + 16)) 14 2 o = ((num t (p + 14) 2 o : Nat) : Int) := i 14 2 (by omega)
  have e4 : numI (t.extract p (p + 16)) 4 4 o = ((num t (p + 4) 4 o : Nat) : Int) := i 4 4 (by omega)
  have e5 : numI (t.extract p (p + 16)) 8 4 o = ((num t (p + 8) 4 o : Nat) : Int) := i 8 4 (by omega)
  rw [h1, e1, e2, e3, e4, e5]
  unfold symAt
  rw [if_pos rfl]
  rfl
theorem sym_no_32 (t names : ByteArray) (p k : Nat) (o : Int) (w : World) (hF : w.heap[k]? = some (.cells (tabCells col32 o t names) 75 (0, 0))) (hp : p + 16 ≤ t.size) (hm : names.size ≤ maxLen) (ho : o = 0 ∨ o = 1) (hN : nameOf names (num t p 4 o) = none) :
    Calls Tryd.prog 60 #[.pointer (some ⟨k, 0, none⟩), .string (t.extract p (p + 16))] w fun r w' => r = .returned (.tuple #[.agg #[.string ⟨#[]⟩, .int .i64 0, .int .i64 0, .int .i64 0, .int .i64 0, .int .u64 0, .int .u64 0], .int .i64 56]) ∧ Below w.heap.size w w' := by
  have e (a K : Nat) (h : p + a + K ≤ p + 16) : num (t.extract p (p + 16)) a K o = num t (p + a) K o := num_ext t p (p + 16) a K o h
  exact symbol_no_32 _ t names k o w hF (by rw [ByteArray.size_extract]; omega) hm ho (by rw [e 0 4 (by omega)]; exact hN)
end Go.Proofs.YtaeigacinefhnabDoor

-- syms: a symbol at its place in the table: contracts.
namespace Go.Proofs.YtaeigacinefhnabDoor
open Go.ChangeShapes Go.WideShapes Go.ChangeAt Go.RowKit
set_option linter.unusedVariables false
set_option maxRecDepth 100000
theorem sym_64 (t names nm : ByteArray) (p k : Nat) (o : Int) (w : World) (hF : w.heap[k]? = some (.cells (tabCells col64 o t names) 75 (0, 0))) (hp : p + 24 ≤ t.size) (hm : names.size ≤ maxLen) (ho : o = 0 ∨ o = 1) (hN : nameOf names (num t p 4 o) = some nm) :
    Calls Tryd.prog 60 #[.pointer (some ⟨k, 0, none⟩), .string (t.extract p (p + 24))] w fun r w' => r = .returned (.tuple #[.agg (symV (symAt 64 o t p nm)).toArray, .int .i64 0]) ∧ Below w.heap.size w w' := by
  have e (a K : Nat) (h : p + a + K ≤ p + 24) : num (t.extract p (p + 24)) a K o = num t (p + a) K o := num_ext t p (p + 24) a K o h
  have i (a K : Nat) (h : p + a + K ≤ p + 24) : numI (t.extract p (p + 24)) (a : Int) (K : Int) o = ((num t (p + a) K o : Nat) : Int) := congrArg (Nat.cast : Nat → Int) (e a K h)
  refine (symbol_64 _ t names nm k o w hF (by rw [ByteArray.size_extract]; omega) hm ho (by rw [e 0 4 (by omega)]; exact hN)).mono fun r w' ⟨h1, h2⟩ => ⟨?_, h2⟩
  have e1 := e 4 1 (by omega)
  have e2 : numI (t.extract p (p + 24)) 5 1 o = ((num t (p + 5) 1 o : Nat) : Int) := i 5 1 (by omega)
  have e3 : numI (t.extract p (p + 24)) 6 2 o = ((num t (p + 6) 2 o : Nat) : Int) := i 6 2 (by omega)
  have e4 : numI (t.extract p (p + 24)) 8 8 o = ((num t (p + 8) 8 o : Nat) : Int) := i 8 8 (by omega)
  have e5 : numI (t.extract p (p + 24)) 16 8 o = ((num t (p + 16) 8 o : Nat) : Int) := i 16 8 (by omega)
  rw [h1, e1, e2, e3, e4, e5]
  unfold symAt
  rw [if_neg (by decide)]
  rfl
theorem sym_no_64 (t names : ByteArray) (p k : Nat) (o : Int) (w : World) (hF : w.heap[k]? = some (.cells (tabCells col64 o t names) 75 (0, 0))) (hp : p + 24 ≤ t.size) (hm : names.size ≤ maxLen) (ho : o = 0 ∨ o = 1) (hN : nameOf names (num t p 4 o) = none) :
    Calls Tryd.prog 60 #[.pointer (some ⟨k, 0, none⟩), .string (t.extract p (p + 24))] w fun r w' => r = .returned (.tuple #[.agg #[.string ⟨#[]⟩, .int .i64 0, .int .i64 0, .int .i64 0, .int .i64 0, .int .u64 0, .int .u64 0], .int .i64 56]) ∧ Below w.heap.size w w' := by
  have e (a K : Nat) (h : p + a + K ≤ p + 24) : num (t.extract p (p + 24)) a K o = num t (p + a) K o := num_ext t p (p + 24) a K o h
  exact symbol_no_64 _ t names k o w hF (by rw [ByteArray.size_extract]; omega) hm ho (by rw [e 0 4 (by omega)]; exact hN)
end Go.Proofs.YtaeigacinefhnabDoor

-- A world in which one block alone has changed.
namespace Go.Proofs.YtaeigacinefhnabDoor
open Go.ChangeShapes Go.WideShapes Go.ChangeAt Go.RowKit
set_option linter.unusedVariables false
set_option maxRecDepth 100000
/-- nothing has turned but block k, and blocks are new -/
structure Kq (k : Nat) (w w' : World) : Prop where
  os : w'.os = w.os
  tape : w'.tape = w.tape
  output : w'.output = w.output
  size : w.heap.size ≤ w'.heap.size
  block : ∀ j, j ≠ k → j < w.heap.size → w'.heap[j]? = w.heap[j]?
theorem Kq.of {k : Nat} {w w' : World} (h : Below w.heap.size w w') : Kq k w w' := ⟨h.os, h.tape, h.output, h.size, fun j _ hj => h.block j hj⟩
theorem Kq.trans {k : Nat} {a b c : World} (h : Kq k a b) (g : Kq k b c) : Kq k a c :=
  ⟨g.os.trans h.os, g.tape.trans h.tape, g.output.trans h.output, Nat.le_trans h.size g.size, fun j h1 h2 => (g.block j h1 (Nat.lt_of_lt_of_le h2 h.size)).trans (h.block j h1 h2)⟩
theorem Kq.set {k : Nat} {a w : World} (h : Kq k a w) (i : Nat) (v : Value) : Kq k a (w.setCell ⟨k, i, none⟩ v) := by
  have hb : Below 0 w (w.setCell ⟨k, i, none⟩ v) := Below.setCell (Below.refl _ _) (Nat.zero_le _) _
  exact ⟨hb.os.trans h.os, hb.tape.trans h.tape, hb.output.trans h.output, Nat.le_trans h.size hb.size, fun j h1 h2 => (Below.heap_setCell w _ _ j h1).trans (h.block j h1 h2)⟩
theorem Kq.below {k B : Nat} {w w' : World} (h : Kq k w w') (hk : B ≤ k) (hB : B ≤ w.heap.size) : Below B w w' := ⟨h.os, h.tape, h.output, h.size, fun j hj => h.block j (by omega) (by omega)⟩
theorem Kq.own {k B : Nat} {w w' : World} {e : TypeId} {s : Nat} {v : Value} {n : Nat} {xs : List Value} (h : Kq k w w') (ho : w.ownsRow B e s v n xs) (hk : k < B) : w'.ownsRow B e s v n xs := by
  refine ⟨ho.1, ?_⟩
  rcases ho.2 with h1 | ⟨g, cap, cur, h1, h2, h3, h4⟩
  · exact Or.inl h1
  · exact Or.inr ⟨g, cap, cur, h1, h2, (h.block g (by omega) (Array.getElem?_eq_some_iff.1 h3).1).trans h3, h4⟩
theorem secs_kq {k B : Nat} {w w' : World} {v : Value} {n : Nat} {s : Nat → Sec} (hq : Kq k w w') (h : SecsIn B w v n s) {t : TypeId} {cs : Array Value} (hk : w.heap[k]? = some (.cells cs t (0, 0))) (ht : t ≠ 77) : SecsIn B w' v n s := by
  obtain ⟨ao, c, hv, hr⟩ := h
  refine ⟨ao, c, hv, fun hn => ?_⟩
  obtain ⟨g, cur, h1, h2, h3, h4⟩ := hr hn
  refine ⟨g, cur, h1, h2, (hq.block g ?_ (Array.getElem?_eq_some_iff.1 h3).1).trans h3, h4⟩
  rintro rfl
  rw [h3] at hk
  simp only [Option.some.injEq, Obj.cells.injEq] at hk
  exact ht hk.2.1.symm
theorem set_row {w : World} {k i : Nat} {cs : Array Value} {t : TypeId} (v : Value) (h : w.heap[k]? = some (.cells cs t (0, 0))) : (w.setCell ⟨k, i, none⟩ v).heap[k]? = some (.cells (cs.setIfInBounds i v) t (0, 0)) := heap_setCell_same _ k i _ _ v h
end Go.Proofs.YtaeigacinefhnabDoor

-- append of a list of its own onto a list of its own; a list of symbols' cells.
namespace Go.Proofs.YtaeigacinefhnabDoor
open Go.ChangeShapes Go.WideShapes Go.ChangeAt Go.RowKit
set_option linter.unusedVariables false
set_option maxRecDepth 100000
theorem wpList_append_rows {P : Program} {w : World} {ops : Array Oper} {rest : List Oper} {op : Oper} {a : Act} {Q : Exit → Act → World → Prop} (hgd : op.guard = none) (s x : Operand) (t : TypeId)
    (ho : op.op = .call { callee := .builtin .append, args := #[s, x], argTypes := #[t, t] })
    (base : Nat) (e : TypeId) (i : TypeInfo) (z : Value) (size bytes : Nat) (ht : P.underlying t = some (.slice e)) (hi : P.info? e = some i) (hz : i.zero = some z)
    (hsize : i.size = size) (hby : i.bytes = bytes) (hzs : z.cells.size = size) (hsz : 0 < size)
    (v : Value) (n : Nat) (xs : List Value) (hs : a.eval s = v) (hown : w.ownsRow base e size v n xs)
    (C : Nat) (u : Value) (m : Nat) (ys : List Value) (hx : a.eval x = u) (hown2 : w.ownsRow C e size u m ys) (h1 : ∀ q ∈ ys, q.oneCell' = true)
    (h63 : n + m ≤ maxLen) (hbytes : (n + m) * bytes ≤ 140737488355328) (hbase : base ≤ w.heap.size)
    (h : ∀ v' w', w'.ownsRow base e size v' (n + m) (xs ++ ys) → w.grownBy w' v.ownBlock → wpList P ops Q rest (a.put op.dst v') w') : wpList P ops Q (op :: rest) a w := by
  rcases hown2.2 with ⟨rfl, rfl⟩ | ⟨g, cap, cur, rfl, _, hg, _, _, _, htk⟩
  · have hy : ys = [] := List.length_eq_zero_iff.1 (by rw [hown2.1, Nat.zero_mul])
    subst hy
    exact wpList_append_own_none hgd s x t ho base e i size ht hi v n xs hs hown hx (h v w (by rw [List.append_nil]; exact hown) (World.grownBy.refl _ _))
  · exact wpList_append_own _ hgd s x t ho base e i z size bytes ht hi hz hsize hby hzs hsz v n xs hs hown ⟨g, 0, none⟩ m cap ys hx hown2.1 (fun j q hj => hown2.cells rfl j q hj) h1 h63 hbytes hbase (fun v' w' h2 h3 _ => h v' w' h2 h3)
theorem symsV_one : ∀ (l : List Sym) (q : Value), q ∈ symsV l → q.oneCell' = true
  | [], q, h => by cases h
  | x :: l, q, h => by
    rw [symsV_cons] at h
    rcases List.mem_append.1 h with h | h
    · simp only [symV, List.mem_cons, List.not_mem_nil, or_false] at h
      rcases h with rfl | rfl | rfl | rfl | rfl | rfl | rfl <;> rfl
    · exact symsV_one l q h
end Go.Proofs.YtaeigacinefhnabDoor

-- The statement's sameSymbols: contract.
namespace Go.Proofs.YtaeigacinefhnabDoor
open Go.ChangeShapes Go.WideShapes Go.ChangeAt Go.RowKit
set_option linter.unusedVariables false
set_option maxRecDepth 100000
theorem eqSym (xn : ByteArray) (xb xt xo xs xv xz : Nat) (w : World) : (Op.equalIn 10000 61 (.agg #[.string xn, .int .i64 (xb : Int), .int .i64 (xt : Int), .int .i64 (xo : Int), .int .i64 (xs : Int), .int .u64 (xv : Int), .int .u64 (xz : Int)]) (.agg #[.string xn, .int .i64 (xb : Int), .int .i64 (xt : Int), .int .i64 (xo : Int), .int .i64 (xs : Int), .int .u64 (xv : Int), .int .u64 (xz : Int)])).run Tryd.prog w = .ok true w := by
  have u3 := Tryd.underlying3
  have a3 := Tryd.isAgg3
  have z3 := Tryd.sizeOf3
  have u4 := Tryd.underlying40
  have a4 := Tryd.isAgg40
  have z4 := Tryd.sizeOf40
  have u9 := Tryd.underlying9
  have a9 := Tryd.isAgg9
  have z9 := Tryd.sizeOf9
  have hS : Tryd.prog.underlying 61 = some (.struct (Tryd.prog.fieldsOf 61)) := by kernel_rfl
  rw [show (10000 : Nat) = 9999 + 1 from rfl, run_equalIn_agg w 9999 61 _ _ hS (by kernel_rfl)]
  simp only [Program.fieldsOf, Tryd.underlying61]
  go_simp
theorem symsV_get : ∀ (l : List Sym) (i m : Nat) (x : Sym), l[i]? = some x → m < 7 → (symsV l)[i * 7 + m]? = (symV x)[m]?
  | [], i, m, x, h, _ => by simp at h
  | y :: l, 0, m, x, h, hm => by
    obtain rfl : y = x := by simpa using h
    rw [symsV_cons, List.getElem?_append_left (by show 0 * 7 + m < 7; omega), Nat.zero_mul, Nat.zero_add]
  | y :: l, i + 1, m, x, h, hm => by
    have hl : (symV y).length = 7 := rfl
    rw [symsV_cons, List.getElem?_append_right (by rw [hl]; omega), hl, show (i + 1) * 7 + m - 7 = i * 7 + m by omega]
    exact symsV_get l i m x (by simpa using h) hm
theorem own_syms {w : World} {B : Nat} {v : Value} {l : List Sym} (h : w.ownsRow B 61 7 v l.length (symsV l)) : ∃ ao c, v = .slice ao l.length c ∧ (0 < l.length → ∃ g, ao = some ⟨g, 0, none⟩ ∧ B ≤ g ∧ ∀ i m x, l[i]? = some x → m < 7 → w.cell? ⟨g, i * 7 + m, none⟩ = (symV x)[m]?) := by
  rcases h.2 with ⟨hv, hn⟩ | ⟨g, cap, cur, hv, hb, hg, h1, h2, h3, h4⟩
  · rw [hn]
    exact ⟨none, 0, hv, fun h => absurd h (Nat.lt_irrefl _)⟩
  · refine ⟨_, _, hv, fun _ => ⟨g, rfl, hb, fun i m x hx hm => ?_⟩⟩
    have hi := (List.getElem?_eq_some_iff.1 hx).1
    rw [cell_of_row _ _ _ _ _ _ hg, ← symsV_get l i m x hx hm, ← h4, List.getElem?_take, if_pos (by omega), Array.getElem?_toList]
set_option maxHeartbeats 1000000 in
theorem sameSyms (B C : Nat) (a b : Value) (l : List Sym) (w : World) (hn : l.length ≤ 281474976710656) (ha : w.ownsRow B 61 7 a l.length (symsV l)) (hb : w.ownsRow C 61 7 b l.length (symsV l)) :
    Calls Tryd.prog 16 #[a, b] w fun r w' => r = .returned (.bool true) ∧ Dr w w' := by
  obtain ⟨ao, ac, rfl, hA⟩ := own_syms ha
  obtain ⟨bo, bc, rfl, hB⟩ := own_syms hb
  have HA := Hid.mk' hA
  have HB := Hid.mk' hB
  clear hA hB ha hb
  obtain ⟨n, hln⟩ : ∃ n, l.length = n := ⟨_, rfl⟩
  have HLN := Hid.mk' hln
  rw [hln] at hn ⊢
  clear hln
  go_enter Tryd.func16, Tryd.ntmps16
  go_wp2
  go_loopw [5] (fun i wx => ∃ j : Nat, j ≤ n ∧ i = .int .i64 j ∧ Dr w wx) (fun i _ => n - (intOf i).toNat)
  case atStart => exact ⟨0, Nat.zero_le _, rfl, Dr.refl _⟩
  case round =>
    obtain ⟨j, hj, rfl, hD⟩ := hrel
    by_cases hjn : j < n
    · have hlt : j < l.length := by rw [HLN.out]; exact hjn
      have hx : l[j]? = some l[j] := List.getElem?_eq_getElem hlt
      obtain ⟨g, rfl, _, hg⟩ := HA.out (by rw [HLN.out]; omega)
      obtain ⟨h, rfl, _, hh⟩ := HB.out (by rw [HLN.out]; omega)
      generalize l[j] = x at hx
      obtain ⟨xn, xb, xt, xo, xs, xv, xz⟩ := x
      have heq := eqSym xn xb xt xo xs xv xz
      have cw (q m : Nat) : wr.cell? ⟨q, m, none⟩ = w.cell? ⟨q, m, none⟩ := by obtain ⟨d, rfl⟩ := hD; rfl
      have a0 : wr.cell? ⟨g, j * 7, none⟩ = some (.string xn) := by rw [cw]; exact (hg j 0 _ hx (by omega))
      have a1 : wr.cell? ⟨g, j * 7 + 1, none⟩ = some (.int .i64 (xb : Int)) := by rw [cw]; exact (hg j 1 _ hx (by omega))
      have a2 : wr.cell? ⟨g, j * 7 + 2, none⟩ = some (.int .i64 (xt : Int)) := by rw [cw]; exact (hg j 2 _ hx (by omega))
      have a3 : wr.cell? ⟨g, j * 7 + 3, none⟩ = some (.int .i64 (xo : Int)) := by rw [cw]; exact (hg j 3 _ hx (by omega))
      have a4 : wr.cell? ⟨g, j * 7 + 4, none⟩ = some (.int .i64 (xs : Int)) := by rw [cw]; exact (hg j 4 _ hx (by omega))
      have a5 : wr.cell? ⟨g, j * 7 + 5, none⟩ = some (.int .u64 (xv : Int)) := by rw [cw]; exact (hg j 5 _ hx (by omega))
      have a6 : wr.cell? ⟨g, j * 7 + 6, none⟩ = some (.int .u64 (xz : Int)) := by rw [cw]; exact (hg j 6 _ hx (by omega))
      have b0 : wr.cell? ⟨h, j * 7, none⟩ = some (.string xn) := by rw [cw]; exact (hh j 0 _ hx (by omega))
      have b1 : wr.cell? ⟨h, j * 7 + 1, none⟩ = some (.int .i64 (xb : Int)) := by rw [cw]; exact (hh j 1 _ hx (by omega))
      have b2 : wr.cell? ⟨h, j * 7 + 2, none⟩ = some (.int .i64 (xt : Int)) := by rw [cw]; exact (hh j 2 _ hx (by omega))
      have b3 : wr.cell? ⟨h, j * 7 + 3, none⟩ = some (.int .i64 (xo : Int)) := by rw [cw]; exact (hh j 3 _ hx (by omega))
      have b4 : wr.cell? ⟨h, j * 7 + 4, none⟩ = some (.int .i64 (xs : Int)) := by rw [cw]; exact (hh j 4 _ hx (by omega))
      have b5 : wr.cell? ⟨h, j * 7 + 5, none⟩ = some (.int .u64 (xv : Int)) := by rw [cw]; exact (hh j 5 _ hx (by omega))
      have b6 : wr.cell? ⟨h, j * 7 + 6, none⟩ = some (.int .u64 (xz : Int)) := by rw [cw]; exact (hh j 6 _ hx (by omega))
      have hjI : (j : Int) < (n : Int) := by omega
      have hj0 : (0 : Int) ≤ (j : Int) := by omega
      clear hg hh cw hx HA HB HLN
      go_wp2_with fail
      go_quiet (fail)
      go_wp2
      go_roundw
      case rel => exact ⟨j + 1, by omega, by go_num, hD.more _⟩
      case measure => simp [intOf]; omega
    · obtain rfl : j = n := by omega
      go_wp2
      go_ret
      exact ⟨rfl, hD⟩
end Go.Proofs.YtaeigacinefhnabDoor

-- The statement's sameNames: contract.
namespace Go.Proofs.YtaeigacinefhnabDoor
open Go.ChangeShapes Go.WideShapes Go.ChangeAt Go.RowKit
set_option linter.unusedVariables false
set_option maxRecDepth 100000
theorem own_names {w : World} {B : Nat} {v : Value} {k : List ByteArray} (h : w.ownsRow B 9 1 v k.length (k.map .string)) : ∃ ao c, v = .slice ao k.length c ∧ (0 < k.length → ∃ g, ao = some ⟨g, 0, none⟩ ∧ ∀ i x, k[i]? = some x → w.cell? ⟨g, i, none⟩ = some (.string x)) := by
  rcases h.2 with ⟨hv, hn⟩ | ⟨g, cap, cur, hv, hb, hg, h1, h2, h3, h4⟩
  · rw [hn]
    exact ⟨none, 0, hv, fun h => absurd h (Nat.lt_irrefl _)⟩
  · refine ⟨_, _, hv, fun _ => ⟨g, rfl, fun i x hx => ?_⟩⟩
    have hi := (List.getElem?_eq_some_iff.1 hx).1
    have h5 : (k.map Value.string)[i]? = some (.string x) := by rw [List.getElem?_map, hx]; rfl
    rw [cell_of_row _ _ _ _ _ _ hg, ← h5, ← h4, List.getElem?_take, if_pos (by omega), Array.getElem?_toList]
set_option maxHeartbeats 1000000 in
theorem sameNms (B C : Nat) (a b : Value) (k : List ByteArray) (w : World) (hn : k.length ≤ 281474976710656) (ha : w.ownsRow B 9 1 a k.length (k.map .string)) (hb : w.ownsRow C 9 1 b k.length (k.map .string)) :
    Calls Tryd.prog 17 #[a, b] w fun r w' => r = .returned (.bool true) ∧ Dr w w' := by
  obtain ⟨ao, ac, rfl, hA⟩ := own_names ha
  obtain ⟨bo, bc, rfl, hB⟩ := own_names hb
  have HA := Hid.mk' hA
  have HB := Hid.mk' hB
  clear hA hB ha hb
  obtain ⟨n, hln⟩ : ∃ n, k.length = n := ⟨_, rfl⟩
  have HLN := Hid.mk' hln
  rw [hln] at hn ⊢
  clear hln
  go_enter Tryd.func17, Tryd.ntmps17
  go_wp2
  go_loopw [5] (fun i wx => ∃ j : Nat, j ≤ n ∧ i = .int .i64 j ∧ Dr w wx) (fun i _ => n - (intOf i).toNat)
  case atStart => exact ⟨0, Nat.zero_le _, rfl, Dr.refl _⟩
  case round =>
    obtain ⟨j, hj, rfl, hD⟩ := hrel
    by_cases hjn : j < n
    · have hlt : j < k.length := by rw [HLN.out]; exact hjn
      have hx : k[j]? = some k[j] := List.getElem?_eq_getElem hlt
      obtain ⟨g, rfl, hg⟩ := HA.out (by rw [HLN.out]; omega)
      obtain ⟨h, rfl, hh⟩ := HB.out (by rw [HLN.out]; omega)
      generalize k[j] = x at hx
      have cw (q m : Nat) : wr.cell? ⟨q, m, none⟩ = w.cell? ⟨q, m, none⟩ := by obtain ⟨d, rfl⟩ := hD; rfl
      have a0 : wr.cell? ⟨g, j, none⟩ = some (.string x) := by rw [cw]; exact hg j x hx
      have b0 : wr.cell? ⟨h, j, none⟩ = some (.string x) := by rw [cw]; exact hh j x hx
      have hjI : (j : Int) < (n : Int) := by omega
      have hj0 : (0 : Int) ≤ (j : Int) := by omega
      clear hg hh cw hx HA HB HLN
      go_wp2_with fail
      go_quiet (fail)
      go_wp2
      go_roundw
      case rel => exact ⟨j + 1, by omega, by go_num, hD.more _⟩
      case measure => simp [intOf]; omega
    · obtain rfl : j = n := by omega
      go_wp2
      go_ret
      exact ⟨rfl, hD⟩
end Go.Proofs.YtaeigacinefhnabDoor
