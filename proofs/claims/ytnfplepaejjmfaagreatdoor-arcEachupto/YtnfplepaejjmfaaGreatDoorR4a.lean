
-- arc: an archive in memory; what add does to it.
import Derived.Test.YtnfplepaejjmfaaGreatDoorR3
import Derived.Deep.RegionLaw
import Derived.Deep.MidRow
import Derived.Laws.AppendOwn
import Derived.OwnWalk
namespace Go.Proofs.YtnfplepaejjmfaaGreatDoor
open Go.RowKit Go.Shelf
set_option linter.unusedVariables false
set_option maxRecDepth 100000

/-- a block that a caller's round may write: cells, of no type that the iterator leans on -/
def soft (o : Obj) : Prop := ∃ vs t fr, o = .cells vs t fr ∧ t ≠ 111 ∧ t ≠ 9 ∧ t ≠ 86
/-- what a caller's round keeps -/
structure Fr (n₀ : Nat) (W W' : World) : Prop where
  below : Below n₀ W W'
  kept : ∀ (r : Nat) (o : Obj), W.heap[r]? = some o → ¬ soft o → W'.heap[r]? = some o
theorem Fr.refl (n₀ : Nat) (W : World) : Fr n₀ W W := ⟨Below.refl _ _, fun _ _ h _ => h⟩
theorem Fr.trans {n₀ : Nat} {A B C : World} (h : Fr n₀ A B) (k : Fr n₀ B C) : Fr n₀ A C := ⟨h.below.trans k.below, fun r o h1 h2 => k.kept r o (h.kept r o h1 h2) h2⟩
theorem Fr.of {n₀ : Nat} {W W' : World} (h : Below W.heap.size W W') (hn : n₀ ≤ W.heap.size) : Fr n₀ W W' := ⟨h.mono hn, fun r o h1 _ => (h.block r (Array.getElem?_eq_some_iff.1 h1).1).trans h1⟩
theorem Fr.drew {n₀ : Nat} (W : World) : Fr n₀ W W.drew := ⟨Below.drew (Below.refl _ _), fun _ _ h _ => h⟩
theorem Fr.alloc {n₀ : Nat} {W : World} (hn : n₀ ≤ W.heap.size) (x : Obj) : Fr n₀ W (W.alloc x) := Fr.of (bup (Below.refl _ _) x) hn
theorem Fr.set {n₀ B i : Nat} {W : World} {cs : Array Value} {t : TypeId} {fr : Nat × Nat} (h : W.heap[B]? = some (.cells cs t fr)) (hn : n₀ ≤ B) (h1 : t ≠ 111) (h2 : t ≠ 9) (h3 : t ≠ 86) (v : Value) : Fr n₀ W (W.setCell ⟨B, i, none⟩ v) := by
  refine ⟨(Below.refl _ _).setCell hn v, fun r o hr ho => (Below.heap_setCell W _ _ r ?_).trans hr⟩
  intro e
  apply ho
  have e' : r = B := e
  subst e'
  rw [h] at hr
  injection hr with hr
  exact ⟨cs, t, fr, hr.symm, h1, h2, h3⟩
theorem Fr.grown {n₀ : Nat} {W W' : World} {e : TypeId} {size k : Nat} {v : Value} {xs : List Value} (hg : W.grownBy W' v.ownBlock) (ho : W.ownsRow n₀ e size v k xs) (hn : n₀ ≤ W.heap.size) (h1 : e ≠ 111) (h2 : e ≠ 9) (h3 : e ≠ 86) : Fr n₀ W W' := by
  refine ⟨(Below.refl _ _).grown hg hn (fun q hq => (ho.lt q hq).1), fun r o hr hs => (hg.block r (Array.getElem?_eq_some_iff.1 hr).1 ?_).trans hr⟩
  intro eq
  apply hs
  rcases ho.2 with ⟨rfl, _⟩ | ⟨q, cap, cur, rfl, _, hgb, _⟩
  · simp [Value.ownBlock] at eq
  · have e' : r = q := by simpa [Value.ownBlock] using eq
    subst e'
    rw [hgb] at hr
    injection hr with hr
    exact ⟨cur, e, (0, 0), hr.symm, h1, h2, h3⟩
theorem Fr.kp {n₀ : Nat} {W W' : World} (h : Fr n₀ W W') : Kp n₀ W W' := ⟨h.below, fun r vs t ht hr => h.kept r _ hr (by
  rintro ⟨vs', t', fr', e, q1, q2, q3⟩
  injection e with e1 e2 e3
  subst e2
  rcases ht with q | q | q
  · exact q1 q
  · exact q2 q
  · exact q3 q)⟩
theorem Fr.others {n₀ : Nat} {W W' : World} (h : Fr n₀ W W') : KeepsOthers W W' := ⟨h.below.size, fun k o hk ho => h.kept k o hk (by rintro ⟨vs, t, fr, rfl, _⟩; cases ho)⟩

theorem own_on {n₀ : Nat} {W W' : World} {e : TypeId} {size k : Nat} {v : Value} {xs : List Value} (h : W.ownsRow n₀ e size v k xs) (hb : Below W.heap.size W W') : W'.ownsRow n₀ e size v k xs := by
  refine ⟨h.1, ?_⟩
  rcases h.2 with q | ⟨g, cap, cur, q1, q2, q3, q4⟩
  · exact .inl q
  · exact .inr ⟨g, cap, cur, q1, q2, (hb.block g (Array.getElem?_eq_some_iff.1 q3).1).trans q3, q4⟩
/-- a block of another type turns -/
theorem own_set {n₀ B i : Nat} {W : World} {e t : TypeId} {size k : Nat} {v : Value} {xs : List Value} {cs : Array Value} {fr : Nat × Nat} (h : W.ownsRow n₀ e size v k xs) (hB : W.heap[B]? = some (.cells cs t fr)) (hte : t ≠ e) (u : Value) : (W.setCell ⟨B, i, none⟩ u).ownsRow n₀ e size v k xs := by
  refine ⟨h.1, ?_⟩
  rcases h.2 with q | ⟨g, cap, cur, q1, q2, q3, q4⟩
  · exact .inl q
  · refine .inr ⟨g, cap, cur, q1, q2, (Below.heap_setCell W _ _ g ?_).trans q3, q4⟩
    intro eq
    have e' : g = B := eq
    subst e'
    rw [q3] at hB
    injection hB with hB
    injection hB with _ hB _
    exact hte hB.symm
theorem own_grown {n₀ : Nat} {W W' : World} {e t : TypeId} {size k size' k' : Nat} {v v' : Value} {xs ys : List Value} (h : W.ownsRow n₀ e size v k xs) (h' : W.ownsRow n₀ t size' v' k' ys) (hte : t ≠ e) (hg : W.grownBy W' v'.ownBlock) : W'.ownsRow n₀ e size v k xs := by
  refine ⟨h.1, ?_⟩
  rcases h.2 with q | ⟨g, cap, cur, q1, q2, q3, q4⟩
  · exact .inl q
  · refine .inr ⟨g, cap, cur, q1, q2, (hg.block g (Array.getElem?_eq_some_iff.1 q3).1 ?_).trans q3, q4⟩
    intro eq
    rcases h'.2 with ⟨rfl, _⟩ | ⟨g', cap', cur', rfl, _, hgb, _⟩
    · simp [Value.ownBlock] at eq
    · have e' : g = g' := by simpa [Value.ownBlock] using eq
      subst e'
      rw [q3] at hgb
      injection hgb with hgb
      injection hgb with _ hgb _
      exact hte hgb.symm
/-- a box of another type lies on through an append -/
theorem row_grown {n₀ B : Nat} {W W' : World} {e t : TypeId} {size k : Nat} {v : Value} {xs : List Value} {cs : Array Value} (hB : W.heap[B]? = some (.cells cs t (0, 0))) (h : W.ownsRow n₀ e size v k xs) (hte : t ≠ e) (hg : W.grownBy W' v.ownBlock) : W'.heap[B]? = some (.cells cs t (0, 0)) := by
  refine (hg.block B (Array.getElem?_eq_some_iff.1 hB).1 ?_).trans hB
  intro eq
  rcases h.2 with ⟨rfl, _⟩ | ⟨g, cap, cur, rfl, _, hgb, _⟩
  · simp [Value.ownBlock] at eq
  · have e' : B = g := by simpa [Value.ownBlock] using eq
    subst e'
    rw [hB] at hgb
    injection hgb with hgb
    injection hgb with _ hgb _
    exact hte hgb
theorem new_row (w : World) (cs : Array Value) (t : TypeId) (l : List Value) (hl : cs.toList = l) : ∀ j u, l[j]? = some u → (w.alloc (.cells cs t)).cell? (Addr.add ⟨w.heap.size, 0, none⟩ j) = some u := by
  intro j u hu
  rw [Addr.add_mid, Nat.zero_add]
  refine cell_row (heap_alloc_new w _) j u ?_
  rw [← hl] at hu
  simpa using hu
/-- append to a row of one's own, as a step of a region that draws -/
theorem step_append_own {P : Program} {ops : Array Oper} {o : Oper} {a : Act} {w : World} {K : Act → World → Prop} {Q : Exit → Act → World → Prop} {E : Prop}
    (hg : o.guard = none) (s x : Operand) (t : TypeId) (hop : o.op = Op.call { callee := Callee.builtin Builtin.append, args := #[s, x], argTypes := #[t, t] })
    (base : Nat) (e : TypeId) (i : TypeInfo) (z : Value) (size bytes : Nat) (h1 : P.underlying t = some (.slice e)) (h2 : P.info? e = some i) (h3 : i.zero = some z) (h4 : i.size = size) (h5 : i.bytes = bytes) (h6 : z.cells.size = size) (h7 : 0 < size)
    (v : Value) (k : Nat) (xs : List Value) (hs : a.eval s = v) (hown : w.ownsRow base e size v k xs) (ad : Addr) (m c : Nat) (news : List Value) (hx : a.eval x = .slice (some ad) m c) (hn : news.length = m * size)
    (hc : ∀ j u, news[j]? = some u → w.cell? (ad.add j) = some u) (h1c : ∀ u ∈ news, u.oneCell' = true) (b1 : k + m ≤ maxLen) (b2 : (k + m) * bytes ≤ 140737488355328) (b3 : base ≤ w.heap.size)
    (hK : ∀ v' w', w'.ownsRow base e size v' (k + m) (xs ++ news) → w.grownBy w' v.ownBlock → K (a.put o.dst v') w') :
    if Region.wanted o (yielded ops a.tmps) = true then Oper.wp P o a w K Q else E := by
  rw [if_pos (by simp [Region.wanted, hg])]
  obtain ⟨v', w', hrun, r1, r2, _⟩ := run_append_own (P := P) w base t o.type e i z size bytes h1 h2 h3 h4 h5 h6 h7 v k xs hown ad m c news hn hc h1c b1 b2 b3
  unfold Oper.wp
  simp [execOp, hop, resolve, invoke, builtin, hs, hx, hrun, Result.andThen]
  exact hK v' w' r1 r2
/-- a call by its contract, as such a step -/
theorem step_call {P : Program} {ops : Array Oper} {o : Oper} {a : Act} {w : World} {K : Act → World → Prop} {Q : Exit → Act → World → Prop} {E : Prop}
    (hg : o.guard = none) (f : FuncId) (x : Operand) (t : TypeId) (hop : o.op = Op.call { callee := Callee.value (Operand.func f), args := #[x], argTypes := #[t] })
    (v : Value) (hx : a.eval x = v) (eg : ∀ args w, (callFunc f args).run P w = .ok (.enter f args) w) {R : Ending → World → Prop} (hc : Calls P f #[v] w R) (hK : ∀ e w', R e w' → ∃ u, e = .returned u ∧ K (a.put o.dst u) w') :
    if Region.wanted o (yielded ops a.tmps) = true then Oper.wp P o a w K Q else E := by
  rw [if_pos (by simp [Region.wanted, hg])]
  unfold Oper.wp
  subst hx
  have hr : (execOp a.eval o).run P w = .ok (.enter f #[a.eval x]) w := by
    simp [execOp, hop, resolve, invoke, eg, go_sem]
  rw [hr, Oper.upon_enter]
  refine hc.mono ?_
  intro e w' h
  obtain ⟨u, rfl, hk⟩ := hK e w' h
  exact hk

def mbCells (x : Mb) : List Value := [.int .i64 x.h.date, .int .i64 x.h.uid, .int .i64 x.h.gid, .int .i64 x.h.mode, .string x.h.name, .int .i64 x.h.size, .string x.data]
def mbsV (l : List Mb) : List Value := l.flatMap mbCells
def atsV (l : List Int) : List Value := l.map (Value.int .i64)
theorem mbsV_snoc (l : List Mb) (x : Mb) : mbsV (l ++ [x]) = mbsV l ++ mbCells x := by simp [mbsV]
theorem atsV_snoc (l : List Int) (x : Int) : atsV (l ++ [x]) = atsV l ++ [.int .i64 x] := by simp [atsV]
/-- an archive whose lists are rows of its own -/
structure PRows (n₀ : Nat) (W : World) (p : Ar) (vm va : Value) : Prop where
  mem : W.ownsRow n₀ 54 7 vm p.mem.length (mbsV p.mem)
  ats : W.ownsRow n₀ 3 1 va p.ats.length (atsV p.ats)
def parRow (p : Ar) (vm va : Value) : Array Value := #[.int .i64 p.kind, .int .i64 p.form, .string p.index, .int .i64 p.stamp, vm, va]
def PAt (n₀ : Nat) (W : World) (B : Nat) (p : Ar) : Prop := ∃ vm va, W.heap[B]? = some (.cells (parRow p vm va) 43 (0, 0)) ∧ PRows n₀ W p vm va
theorem infoM : (Tryz.prog.info? 54).map (fun i => (i.zero, i.size, i.bytes)) = some (some (.agg #[.int .i64 0, .int .i64 0, .int .i64 0, .int .i64 0, .string ⟨#[]⟩, .int .i64 0, .string ⟨#[]⟩]), 7, 72) := by kernel_rfl
theorem info3 : (Tryz.prog.info? 3).map (fun i => (i.zero, i.size, i.bytes)) = some (some (.int .i64 0), 1, 8) := by kernel_rfl

end Go.Proofs.YtnfplepaejjmfaaGreatDoor
