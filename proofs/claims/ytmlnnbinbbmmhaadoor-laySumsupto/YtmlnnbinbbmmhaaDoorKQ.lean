
-- One block turns; stores into a part of a row; rows of one's own beside them.
import Derived.Test.YtmlnnbinbbmmhaaDoorRows
import Derived.WalkKit
import Derived.ProofKit
import Derived.Below
import Derived.OwnWalk
import Derived.Laws.CopyRow
import Derived.Laws.Tables
import Derived.Laws.AppendOwn
import Derived.Laws.NewBlocks
import Derived.Maps.AppendAt
import Derived.Lib.AppendStr
import Derived.Deep.MidRow
namespace Go.Proofs.YtmlnnbinbbmmhaaDoor
open Go.ChangeShapes Go.WideShapes Go.ChangeAt Go.RowKit
set_option linter.unusedVariables false
set_option maxRecDepth 100000

structure Kq (k : Nat) (w w' : World) : Prop where
  os : w'.os = w.os
  tape : w'.tape = w.tape
  output : w'.output = w.output
  size : w.heap.size ≤ w'.heap.size
  block : ∀ j, j ≠ k → j < w.heap.size → w'.heap[j]? = w.heap[j]?
theorem Kq.row (w : World) (g : Nat) (cs : Array Value) : Kq g w (w.setRow g cs) :=
  ⟨rfl, rfl, rfl, by rw [setRow_size]; exact Nat.le_refl _, fun j h _ => setRow_other w g j cs h⟩
theorem Kq.below {k B : Nat} {w w' : World} (h : Kq k w w') (hk : B ≤ k) (hB : B ≤ w.heap.size) : Below B w w' := ⟨h.os, h.tape, h.output, h.size, fun j hj => h.block j (by omega) (by omega)⟩
theorem Kq.keeps {k j : Nat} {w W : World} {o : Obj} (h : Kq k w W) (hj : j ≠ k) (ho : w.heap[j]? = some o) : W.heap[j]? = some o := (h.block j hj (Array.getElem?_eq_some_iff.1 ho).1).trans ho
theorem Kq.belowN {k n : Nat} {a w W : World} (h : Kq k w W) (hb : Below n a w) (hk : n ≤ k) (hn : n ≤ a.heap.size) : Below n a W := hb.trans (h.below hk (Nat.le_trans hn hb.size))
def putAt (old : Array Value) (off : Nat) (v : Array Value) : Array Value := (old.toList.take off ++ v.toList ++ old.toList.drop (off + v.size)).toArray
theorem wpList_store_kz {P : Program} {ops : Array Oper} {rest : List Oper} {o : Oper} {a : Act} {w : World} {Q : Exit → Act → World → Prop} (hgd : o.guard = none) (hd : o.dst = none) (ty : TypeId) (x y : Operand) (ho : o.op = .store ty x y)
    (g off : Nat) (v : Value) (hx : a.eval x = .pointer (some ⟨g, off, none⟩)) (hy : a.eval y = v)
    (t : TypeId) (old new : Array Value) (hg : w.heap[g]? = some (.cells old t (0, 0))) (hi : (P.info? ty).map (·.size) = some v.cells.size)
    (hfit : Nat.ble (off + v.cells.size) old.size = true) (h1 : v.cells.toList.all (·.oneCell') = true) (hnew : putAt old off v.cells = new)
    (h : ∀ W : World, W.heap[g]? = some (.cells new t (0, 0)) → Kq g w W → wpList P ops Q rest a W) : wpList P ops Q (o :: rest) a w := by
  subst hy
  have hst : (storeVar ty ⟨g, off, none⟩ (a.eval y)).run P w = .ok () (w.setRow g new) := by
    have := run_storeCells_at (P := P) g off t (a.eval y).cells.toList 0 old w hg (by simpa using Nat.le_of_ble_eq_true hfit) (fun v hv => (List.all_eq_true.1 h1) v hv)
    cases hq : P.info? ty with
    | none => simp [hq] at hi
    | some i =>
      have hs : (a.eval y).cells.size = i.size := by simp [hq] at hi; omega
      simp only [Nat.add_zero, Array.length_toList] at this
      unfold putAt at hnew
      rw [hnew] at this
      simp [storeVar, sizeOf, typeInfo, hq, hs, this]
  refine wpList_plain hgd fun _ hK => ?_
  unfold Oper.wp execOp
  simp only [ho, hx, Instr.storeAt, Instr.sureAddr, Sem.run_bind, Sem.run_pure, Result.andThen_ok, hst]
  refine hK _ _ ?_
  rw [hd]
  exact h _ (setRow_heap w g old new t (0, 0) hg) (Kq.row w g new)
theorem bupK {w w' : World} (h : Below w.heap.size w w') (o : Obj) : Below w.heap.size w (w'.alloc o) := h.alloc h.size o
theorem hupK {w : World} {b : Nat} {x : Obj} (h : w.heap[b]? = some x) (o : Obj) : (w.alloc o).heap[b]? = some x := (Below.heap_alloc w o b (Array.getElem?_eq_some_iff.1 h).1).trans h
theorem hkeepK {w w' : World} {b : Nat} {x : Obj} (hb : Below w.heap.size w w') (h : w.heap[b]? = some x) : w'.heap[b]? = some x := (hb.block b (Array.getElem?_eq_some_iff.1 h).1).trans h
theorem bel3K {w a b : World} (h : Below w.heap.size w a) (k : Below a.heap.size a b) : Below w.heap.size w b := h.trans (k.mono h.size)
theorem heap_new2K (w : World) (o o' : Obj) : ((w.alloc o).alloc o').heap[w.heap.size + 1]? = some o' := by
  have h := heap_alloc_new (w.alloc o) o'
  rwa [World.size_alloc] at h
theorem heap_new3K (w : World) (o o' o'' : Obj) : (((w.alloc o).alloc o').alloc o'').heap[w.heap.size + 1 + 1]? = some o'' := by
  have h := heap_alloc_new ((w.alloc o).alloc o') o''
  rw [World.size_alloc, World.size_alloc] at h
  exact h
theorem cell_rowK {w : World} {k : Nat} {cs : Array Value} {t : TypeId} (h : w.heap[k]? = some (.cells cs t (0, 0))) (i : Nat) (v : Value) (hv : cs[i]? = some v) : w.cell? ⟨k, i, none⟩ = some v := by
  simp [World.cell?, h, hv]
theorem hidK {p : Prop} (h : p) : Hid p := h
theorem own_onK {n₀ : Nat} {W W' : World} {e : TypeId} {size k : Nat} {v : Value} {xs : List Value} (h : W.ownsRow n₀ e size v k xs) (hb : Below W.heap.size W W') : W'.ownsRow n₀ e size v k xs := by
  refine ⟨h.1, ?_⟩
  rcases h.2 with q | ⟨g, cap, cur, q1, q2, q3, q4⟩
  · exact .inl q
  · exact .inr ⟨g, cap, cur, q1, q2, (hb.block g (Array.getElem?_eq_some_iff.1 q3).1).trans q3, q4⟩
theorem own_upK {n₀ : Nat} {W : World} {e : TypeId} {size k : Nat} {v : Value} {xs : List Value} (h : W.ownsRow n₀ e size v k xs) (o : Obj) : (W.alloc o).ownsRow n₀ e size v k xs := own_onK h (bupK (Below.refl _ _) o)
theorem own_kqK {n₀ B : Nat} {W W' : World} {e t : TypeId} {size k : Nat} {v : Value} {xs : List Value} {cs : Array Value} (h : W.ownsRow n₀ e size v k xs) (hq : Kq B W W') (hB : W.heap[B]? = some (.cells cs t (0, 0))) (hte : t ≠ e) : W'.ownsRow n₀ e size v k xs := by
  refine ⟨h.1, ?_⟩
  rcases h.2 with q | ⟨g, cap, cur, q1, q2, q3, q4⟩
  · exact .inl q
  · refine .inr ⟨g, cap, cur, q1, q2, hq.keeps ?_ q3, q4⟩
    intro e'
    subst e'
    rw [q3] at hB
    injection hB with hB
    injection hB with _ hB _
    exact hte hB.symm
/-- a row of another block lies on through an append -/
theorem own_ne {n₀ : Nat} {W W' : World} {e : TypeId} {size k : Nat} {v v' : Value} {xs : List Value} (h : W.ownsRow n₀ e size v k xs) (hne : ∀ g, v.ownBlock = some g → v'.ownBlock ≠ some g) (hg : W.grownBy W' v'.ownBlock) : W'.ownsRow n₀ e size v k xs := by
  refine ⟨h.1, ?_⟩
  rcases h.2 with q | ⟨g, cap, cur, q1, q2, q3, q4⟩
  · exact .inl q
  · refine .inr ⟨g, cap, cur, q1, q2, (hg.block g (Array.getElem?_eq_some_iff.1 q3).1 ?_).trans q3, q4⟩
    subst q1
    exact fun e' => hne g rfl e'.symm
theorem own_ty {n₀ : Nat} {W : World} {e t : TypeId} {size k size' k' : Nat} {v v' : Value} {xs ys : List Value} (h : W.ownsRow n₀ e size v k xs) (h' : W.ownsRow n₀ t size' v' k' ys) (hte : t ≠ e) : ∀ g, v.ownBlock = some g → v'.ownBlock ≠ some g := by
  intro g h1 h2
  rcases h.2 with ⟨rfl, _⟩ | ⟨g1, cap, cur, rfl, _, q3, _⟩
  · simp [Value.ownBlock] at h1
  · rcases h'.2 with ⟨rfl, _⟩ | ⟨g2, cap', cur', rfl, _, q3', _⟩
    · simp [Value.ownBlock] at h2
    · have a1 : g1 = g := by simpa [Value.ownBlock] using h1
      have a2 : g2 = g := by simpa [Value.ownBlock] using h2
      rw [a1] at q3; rw [a2, q3] at q3'
      injection q3' with q3'
      injection q3' with _ q3' _
      exact hte q3'.symm
theorem own_ltK {n₀ : Nat} {W : World} {e : TypeId} {size k : Nat} {v : Value} {xs : List Value} (h : W.ownsRow n₀ e size v k xs) : ∀ g, v.ownBlock = some g → g < W.heap.size := by
  intro g h1
  rcases h.2 with ⟨rfl, _⟩ | ⟨g1, cap, cur, rfl, _, q3, _⟩
  · simp [Value.ownBlock] at h1
  · have a1 : g1 = g := by simpa [Value.ownBlock] using h1
    rw [← a1]; exact (Array.getElem?_eq_some_iff.1 q3).1
theorem row_ne {n₀ B : Nat} {W W' : World} {e t : TypeId} {size k : Nat} {v : Value} {xs : List Value} {cs : Array Value} (hB : W.heap[B]? = some (.cells cs t (0, 0))) (h : W.ownsRow n₀ e size v k xs) (hte : t ≠ e) (hg : W.grownBy W' v.ownBlock) : W'.heap[B]? = some (.cells cs t (0, 0)) := by
  refine (hg.block B (Array.getElem?_eq_some_iff.1 hB).1 ?_).trans hB
  intro eq
  rcases h.2 with ⟨rfl, _⟩ | ⟨g, cap, cur, rfl, _, hgb, _⟩
  · simp [Value.ownBlock] at eq
  · have e' : B = g := by simpa [Value.ownBlock] using eq
    subst e'
    rw [hB] at hgb
    injection hgb with hgb
    injection hgb with _ hgb _
    exact hte hgb
theorem below_grow {n₀ : Nat} {A W W' : World} {e : TypeId} {size k : Nat} {v : Value} {xs : List Value} (hb : Below n₀ A W) (hg : W.grownBy W' v.ownBlock) (ho : W.ownsRow n₀ e size v k xs) (hn : n₀ ≤ A.heap.size) : Below n₀ A W' :=
  hb.trans ((Below.refl _ _).grown hg (Nat.le_trans hn hb.size) (fun q hq => (ho.lt q hq).1))
theorem new_rowK (w : World) (cs : Array Value) (t : TypeId) (l : List Value) (hl : cs.toList = l) : ∀ j u, l[j]? = some u → (w.alloc (.cells cs t)).cell? (Addr.add ⟨w.heap.size, 0, none⟩ j) = some u := by
  intro j u hu
  rw [Addr.add_mid, Nat.zero_add]
  refine cell_rowK (heap_alloc_new w _) j u ?_
  rw [← hl] at hu
  simpa using hu
end Go.Proofs.YtmlnnbinbbmmhaaDoor
