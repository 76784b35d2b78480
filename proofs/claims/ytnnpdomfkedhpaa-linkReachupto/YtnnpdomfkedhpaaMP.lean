
-- Maps: what is of no program. A map's block as a list of pairs, in whatever order.
import Derived.Test.YtnnpdomfkedhpaaK0
import Derived.Maps.RangeWalk
namespace Go.Proofs.Ytnnpdomfkedhpaa
open Go.RowKit Go.MapKept Go.ChangeMaps
set_option linter.unusedVariables false
set_option maxRecDepth 100000
/-- which values are keys of a type, and that they are looked for by being the same -/
structure KeyK (P : Program) (kt : TypeId) (K : Value → Prop) : Prop where
  chk : ∀ (w : World) (b : Bool) (key : Value), K key → (Instr.checkKey b 10000 kt key).run P w = .ok () w
  stay : ∀ (w : World) (key : Value), K key → (Instr.keyThatStays key key).run P w = .ok key w
  find : ∀ (w : World) (key : Value) (es : List MapEntry), K key → (∀ x ∈ es, K x.key) → ((Instr.findKey kt key es).run P w = .ok none w ∧ ∀ x ∈ es, x.key ≠ key) ∨ ∃ j x, (Instr.findKey kt key es).run P w = .ok (some (j, x.val)) w ∧ es[j]? = some x ∧ x.key = key
theorem keyK_plain {P : Program} {kt : TypeId} {d : TypeDesc} (hd : P.underlying kt = some d) : KeyK P kt (IsKey d) := by
  refine ⟨fun w b key hk => run_checkKey hd hk b 9999, fun w key hk => run_keyThatStays hk, fun w key es hkey hk => ?_⟩
  rcases findNow_spec hkey es 0 hk with ⟨h1, h2⟩ | ⟨j, x, h1, h2, h3⟩
  · exact .inl ⟨run_findKey hd h1, h2⟩
  · exact .inr ⟨j, x, by simpa using run_findKey hd h1, h2, h3⟩
abbrev Prs := List (Value × Value)
def pr (e : MapEntry) : Value × Value := (e.key, e.val)
/-- Block b is a map, its keys of kind d, whose entries are those of l, in some order. -/
def MapAt (d : Value → Prop) (w : World) (b : Nat) (l : Prs) : Prop :=
  ∃ es clock, w.heap[b]? = some (.map es clock) ∧ Stamped es clock ∧ (∀ x ∈ es.toList, d x.key) ∧ (es.toList.map pr).Perm l
theorem MapAt.keep {d : Value → Prop} {w w' : World} {b : Nat} {l : Prs} (h : MapAt d w b l) (hk : w'.heap[b]? = w.heap[b]?) : MapAt d w' b l := by
  obtain ⟨es, clock, hb, r⟩ := h
  exact ⟨es, clock, hk.trans hb, r⟩
theorem MapAt.perm {d : Value → Prop} {w : World} {b : Nat} {l l' : Prs} (h : MapAt d w b l) (hp : l.Perm l') : MapAt d w b l' := by
  obtain ⟨es, clock, hb, hs, hk, hp'⟩ := h
  exact ⟨es, clock, hb, hs, hk, hp'.trans hp⟩
theorem MapAt.lt {d : Value → Prop} {w : World} {b : Nat} {l : Prs} (h : MapAt d w b l) : b < w.heap.size := by
  obtain ⟨es, clock, hb, _⟩ := h
  exact (Array.getElem?_eq_some_iff.1 hb).1
theorem MapAt.apart {d : Value → Prop} {w : World} {b : Nat} {l : Prs} (h : MapAt d w b l) : l.Pairwise fun p q => p.1 ≠ q.1 := by
  obtain ⟨es, clock, hb, hs, hk, hp⟩ := h
  refine (hp.pairwise_iff (fun {x y} (e : x.1 ≠ y.1) => e.symm)).1 ?_
  rw [List.pairwise_map]
  exact ((stamped_iff es clock).1 hs).2.2
theorem MapAt.made (d : Value → Prop) (w : World) : MapAt d (w.alloc (.map #[] 0)) w.heap.size [] :=
  ⟨#[], 0, (MapKept.heap_alloc w _).1, stamped_empty 0, by simp, by simp⟩
theorem MapAt.ne_cells {d : Value → Prop} {w : World} {b k : Nat} {l : Prs} (h : MapAt d w b l) {cs : Array Value} {t : TypeId} {fr : Nat × Nat} (hk : w.heap[k]? = some (.cells cs t fr)) : b ≠ k := by
  obtain ⟨es, clock, hb, _⟩ := h
  intro e; subst e; rw [hb] at hk; cases hk
/-- w' is w but for the entries of the map in block b. -/
def Turned (w w' : World) (b : Nat) : Prop := ∃ es clock es' clock', w.heap[b]? = some (.map es clock) ∧ w' = setBlock w b (.map es' clock')
theorem Turned.other {w w' : World} {b : Nat} (h : Turned w w' b) {k : Nat} (hk : k ≠ b) : w'.heap[k]? = w.heap[k]? := by
  obtain ⟨es, clock, es', clock', hb, rfl⟩ := h
  exact heap_setBlock_other hb _ hk
theorem Turned.size {w w' : World} {b : Nat} (h : Turned w w' b) : w'.heap.size = w.heap.size := by
  obtain ⟨es, clock, es', clock', hb, rfl⟩ := h
  simp [setBlock]
theorem Turned.os {w w' : World} {b : Nat} (h : Turned w w' b) : w'.os = w.os ∧ w'.tape = w.tape ∧ w'.output = w.output := by
  obtain ⟨es, clock, es', clock', hb, rfl⟩ := h
  exact ⟨rfl, rfl, rfl⟩
theorem Turned.kp {F : Nat → Prop} {w w' : World} {b : Nat} (h : Turned w w' b) (hF : F b) : Kp F w w' :=
  ⟨h.os.1, h.os.2.1, h.os.2.2, Nat.le_of_eq h.size.symm, fun k _ hk => h.other (fun e => hk (e ▸ hF))⟩
theorem MapAt.refl {d : Value → Prop} {w : World} {b : Nat} {l : Prs} (h : MapAt d w b l) : Turned w w b := by
  obtain ⟨es, clock, hb, _⟩ := h
  refine ⟨es, clock, es, clock, hb, ?_⟩
  have e : w.heap.setIfInBounds b (.map es clock) = w.heap := by
    apply Array.ext_getElem?
    intro i
    by_cases hi : i = b
    · subst hi; exact (heap_setBlock_same hb _).trans hb.symm
    · exact heap_setBlock_other hb _ hi
  unfold setBlock; rw [e]
section
variable {P : Program} {w : World} {d : Value → Prop} {b : Nat} {l : Prs} {t k e : TypeId} {key : Value}
theorem MapAt.find (h : MapAt d w b l) (hd : KeyK P k d) (hkey : d key) : ∃ es clock, w.heap[b]? = some (.map es clock) ∧ Stamped es clock ∧ (∀ x ∈ es.toList, d x.key) ∧ (es.toList.map pr).Perm l ∧
    (((Instr.findKey k key es.toList).run P w = .ok none w ∧ ∀ x ∈ es.toList, x.key ≠ key) ∨ ∃ j x, (Instr.findKey k key es.toList).run P w = .ok (some (j, x.val)) w ∧ es.toList[j]? = some x ∧ x.key = key) := by
  obtain ⟨es, clock, hb, hs, hk, hp⟩ := h
  refine ⟨es, clock, hb, hs, hk, hp, ?_⟩
  exact hd.find w key es.toList hkey hk
theorem MapAt.look (c : Bool) (h : MapAt d w b l) (ht : P.underlying t = some (.map k e)) (hd : KeyK P k d) (hkey : d key) {v : Value} (hv : (key, v) ∈ l) :
    (Instr.lookup t (.map (some b)) key c).run P w = .ok (if c then .tuple #[v, .bool true] else v) w := by
  have hap := h.apart
  obtain ⟨es, clock, hb, hs, hk, hp, hf⟩ := h.find hd hkey
  rcases hf with ⟨h1, h2⟩ | ⟨j, x, h1, h2, h3⟩
  · obtain ⟨y, hy, hyv⟩ := List.mem_map.1 (hp.mem_iff.2 hv)
    exact absurd (congrArg Prod.fst hyv) (h2 y hy)
  · have hx : (x.key, x.val) ∈ l := hp.mem_iff.1 (List.mem_map.2 ⟨x, List.mem_of_getElem? h2, rfl⟩)
    have hxv : x.val = v := by
      by_cases hne : x.val = v
      · exact hne
      · obtain ⟨i1, e1⟩ := List.getElem?_of_mem hx
        obtain ⟨i2, e2⟩ := List.getElem?_of_mem hv
        obtain ⟨l1, f1⟩ := List.getElem?_eq_some_iff.1 e1
        obtain ⟨l2, f2⟩ := List.getElem?_eq_some_iff.1 e2
        have hall := List.pairwise_iff_getElem.1 hap
        rcases Nat.lt_trichotomy i1 i2 with hl | hl | hl
        · exact absurd (by rw [f1, f2]; exact h3) (hall i1 i2 l1 l2 hl)
        · subst hl; rw [f1] at f2; exact congrArg Prod.snd f2
        · exact absurd (by rw [f1, f2]; exact h3.symm) (hall i2 i1 l2 l1 hl)
    rw [hxv] at h1
    simp [Instr.lookup, run_underlying ht, MapKept.run_getObj_map hb, hd.chk _ _ _ hkey, h1, Result.andThen]
theorem MapAt.look_no (c : Bool) (h : MapAt d w b l) (ht : P.underlying t = some (.map k e)) (hd : KeyK P k d) (hkey : d key) (hv : ∀ p ∈ l, p.1 ≠ key) {z : Value} (hz : (zeroValue e).run P w = .ok z w) :
    (Instr.lookup t (.map (some b)) key c).run P w = .ok (if c then .tuple #[z, .bool false] else z) w := by
  obtain ⟨es, clock, hb, hs, hk, hp, hf⟩ := h.find hd hkey
  rcases hf with ⟨h1, h2⟩ | ⟨j, x, h1, h2, h3⟩
  · simp [Instr.lookup, run_underlying ht, MapKept.run_getObj_map hb, hd.chk _ _ _ hkey, h1, hz, Result.andThen]
  · exact absurd h3 (hv (x.key, x.val) (hp.mem_iff.1 (List.mem_map.2 ⟨x, List.mem_of_getElem? h2, rfl⟩)))
theorem MapAt.len (h : MapAt d w b l) (ht : P.underlying t = some (.map k e)) (ty : TypeId) : (Builtin.len_ #[t] ty #[.map (some b)]).run P w = .ok (.int .i64 l.length) w := by
  obtain ⟨es, clock, hb, hs, hk, hp⟩ := h
  have hl : es.size = l.length := by rw [← hp.length_eq]; simp
  rw [← hl]
  simp [Builtin.len_, run_underlying ht, MapKept.run_getObj_map hb, goInt, Result.andThen]
theorem modify_set {α : Type} (l : List α) (j : Nat) (f : α → α) {x : α} (h : l[j]? = some x) : l.modify j f = l.set j (f x) := ChangeMaps.modify_eq_set _ _ _ _ h
theorem perm_erase {α : Type} : ∀ {l : List α} {j : Nat} {x : α}, l[j]? = some x → l.Perm (x :: l.eraseIdx j)
  | [], _, _, h => by simp at h
  | a :: r, 0, x, h => by simp at h; subst h; simp
  | a :: r, j + 1, x, h => by
    have := perm_erase (l := r) (j := j) (x := x) (by simpa using h)
    simp only [List.eraseIdx_cons_succ]
    exact (this.cons a).trans (List.Perm.swap _ _ _)
theorem perm_set {α : Type} : ∀ {l : List α} {j : Nat} {x : α} (y : α), l[j]? = some x → (l.set j y).Perm (y :: l.eraseIdx j)
  | [], _, _, _, h => by simp at h
  | a :: r, 0, x, y, h => by simp
  | a :: r, j + 1, x, y, h => by
    have := perm_set (l := r) (j := j) (x := x) y (by simpa using h)
    simp only [List.eraseIdx_cons_succ, List.set_cons_succ]
    exact (this.cons a).trans (List.Perm.swap _ _ _)
theorem MapAt.store_new (h : MapAt d w b l) (ht : P.underlying t = some (.map k e)) (hd : KeyK P k d) (hkey : d key) (hv : ∀ p ∈ l, p.1 ≠ key) (val : Value) :
    ∃ w', (Instr.mapUpdate t (.map (some b)) key val).run P w = .ok () w' ∧ MapAt d w' b ((key, val) :: l) ∧ Turned w w' b := by
  obtain ⟨es, clock, hb, hs, hk, hp, hf⟩ := h.find hd hkey
  rcases hf with ⟨h1, h2⟩ | ⟨j, x, h1, h2, h3⟩
  · refine ⟨setBlock w b (.map (es.push ⟨key, val, clock⟩) (clock + 1)), ?_, ⟨_, _, heap_setBlock_same hb _, stamped_push hs h2, ?_, ?_⟩, es, clock, _, _, hb, rfl⟩
    · simp [Instr.mapUpdate, run_underlying ht, MapKept.run_getObj_map hb, hd.chk _ _ _ hkey, h1, MapKept.run_setObj_map _ hb, Result.andThen, setBlock]
    · intro x hx
      simp only [Array.toList_push, List.mem_append, List.mem_singleton] at hx
      rcases hx with hx | rfl
      · exact hk x hx
      · exact hkey
    · rw [Array.toList_push, List.map_append]
      exact (List.perm_append_singleton _ _).trans (hp.cons _)
  · exact absurd h3 (hv (x.key, x.val) (hp.mem_iff.1 (List.mem_map.2 ⟨x, List.mem_of_getElem? h2, rfl⟩)))
theorem map_erase {α β : Type} (f : α → β) (l : List α) (j : Nat) : (l.eraseIdx j).map f = (l.map f).eraseIdx j := ChangeMaps.map_eraseIdx f l j
theorem MapAt.old {es : Array MapEntry} {v : Value} {l0 : Prs} (hap : l.Pairwise fun p q => p.1 ≠ q.1) (hp : (es.toList.map pr).Perm l) (hl : l.Perm ((key, v) :: l0)) {j : Nat} {x : MapEntry} (h2 : es.toList[j]? = some x) (h3 : x.key = key) : ((es.toList.eraseIdx j).map pr).Perm l0 := by
  rw [map_erase]
  have h4 : (es.toList.map pr)[j]? = some (pr x) := by simp [h2]
  have h5 := (perm_erase h4).symm.trans (hp.trans hl)
  have hxm : pr x ∈ (key, v) :: l0 := h5.mem_iff.1 (by simp)
  have hap2 := (hl.pairwise_iff (fun {x y} (e : x.1 ≠ y.1) => e.symm)).1 hap
  have hxe : pr x = (key, v) := by
    rcases List.mem_cons.1 hxm with h | h
    · exact h
    · exact absurd h3.symm ((List.pairwise_cons.1 hap2).1 _ h)
  rw [hxe] at h5
  exact (List.perm_cons _).1 h5
theorem MapAt.store_old (h : MapAt d w b l) (ht : P.underlying t = some (.map k e)) (hd : KeyK P k d) (hkey : d key) {v : Value} {l0 : Prs} (hl : l.Perm ((key, v) :: l0)) (val : Value) :
    ∃ w', (Instr.mapUpdate t (.map (some b)) key val).run P w = .ok () w' ∧ MapAt d w' b ((key, val) :: l0) ∧ Turned w w' b := by
  have hap := h.apart
  obtain ⟨es, clock, hb, hs, hk, hp, hf⟩ := h.find hd hkey
  rcases hf with ⟨h1, h2⟩ | ⟨j, x, h1, h2, h3⟩
  · have : (key, v) ∈ l := hl.mem_iff.2 (by simp)
    obtain ⟨y, hy, hyv⟩ := List.mem_map.1 (hp.mem_iff.2 this)
    exact absurd (congrArg Prod.fst hyv) (h2 y hy)
  · have hj : es[j]? = some x := by simpa using h2
    have hlist : (es.modify j (fun e' => { e' with key := key, val := val })).toList = es.toList.set j { x with key := key, val := val } := by rw [Array.toList_modify, modify_set _ _ _ h2]
    refine ⟨setBlock w b (.map (es.modify j (fun e' => { e' with key := key, val := val })) clock), ?_, ⟨_, _, heap_setBlock_same hb _, stamped_modify hs _ _ (fun _ _ => rfl) (fun e' _ he' => by rw [hj] at he'; cases he'; exact h3.symm), ?_, ?_⟩, es, clock, _, _, hb, rfl⟩
    · simp [Instr.mapUpdate, run_underlying ht, MapKept.run_getObj_map hb, hd.chk _ _ _ hkey, h1, hj, h3, hd.stay _ _ hkey, MapKept.run_setObj_map _ hb, Result.andThen, setBlock]
    · intro y hy
      rw [hlist] at hy
      rcases List.mem_or_eq_of_mem_set hy with hy | rfl
      · exact hk y hy
      · exact hkey
    · rw [hlist, List.map_set]
      have h4 : (es.toList.map pr)[j]? = some (pr x) := by simp [h2]
      refine (perm_set _ h4).trans ?_
      rw [← map_erase]
      exact (MapAt.old hap hp hl h2 h3).cons _
theorem MapAt.drop_no (h : MapAt d w b l) (ht : P.underlying t = some (.map k e)) (hd : KeyK P k d) (hkey : d key) (hv : ∀ p ∈ l, p.1 ≠ key) (ty : TypeId) :
    ∃ w', (Builtin.delete_ #[t, k] ty #[.map (some b), key]).run P w = .ok (.tuple #[]) w' ∧ MapAt d w' b l ∧ Turned w w' b := by
  have hr := h.refl
  have h0 := h
  obtain ⟨es, clock, hb, hs, hk, hp, hf⟩ := h.find hd hkey
  rcases hf with ⟨h1, h2⟩ | ⟨j, x, h1, h2, h3⟩
  · refine ⟨setBlock w b (.map es clock), ?_, ⟨es, clock, heap_setBlock_same hb _, hs, hk, hp⟩, es, clock, _, _, hb, rfl⟩
    simp [Builtin.delete_, run_underlying ht, MapKept.run_getObj_map hb, hd.chk _ _ _ hkey, h1, MapKept.run_setObj_map _ hb, Result.andThen, setBlock]
  · exact absurd h3 (hv (x.key, x.val) (hp.mem_iff.1 (List.mem_map.2 ⟨x, List.mem_of_getElem? h2, rfl⟩)))
theorem MapAt.drop (h : MapAt d w b l) (ht : P.underlying t = some (.map k e)) (hd : KeyK P k d) (hkey : d key) {v : Value} {l0 : Prs} (hl : l.Perm ((key, v) :: l0)) (ty : TypeId) :
    ∃ w', (Builtin.delete_ #[t, k] ty #[.map (some b), key]).run P w = .ok (.tuple #[]) w' ∧ MapAt d w' b l0 ∧ Turned w w' b := by
  have hap := h.apart
  obtain ⟨es, clock, hb, hs, hk, hp, hf⟩ := h.find hd hkey
  rcases hf with ⟨h1, h2⟩ | ⟨j, x, h1, h2, h3⟩
  · have : (key, v) ∈ l := hl.mem_iff.2 (by simp)
    obtain ⟨y, hy, hyv⟩ := List.mem_map.1 (hp.mem_iff.2 this)
    exact absurd (congrArg Prod.fst hyv) (h2 y hy)
  · have hjl : j < es.toList.length := (List.getElem?_eq_some_iff.1 h2).1
    have hjs : j < es.size := by simpa using hjl
    have hsub : (es.eraseIdxIfInBounds j).toList = es.toList.eraseIdx j := by
      unfold Array.eraseIdxIfInBounds
      rw [dif_pos hjs]
      simp
    refine ⟨setBlock w b (.map (es.eraseIdxIfInBounds j) clock), ?_, ⟨_, _, heap_setBlock_same hb _, stamped_erase hs j, ?_, ?_⟩, es, clock, _, _, hb, rfl⟩
    · simp [Builtin.delete_, run_underlying ht, MapKept.run_getObj_map hb, hd.chk _ _ _ hkey, h1, MapKept.run_setObj_map _ hb, Result.andThen, setBlock]
    · intro y hy
      rw [hsub] at hy
      exact hk y ((List.eraseIdx_sublist _ _).subset hy)
    · rw [hsub]; exact MapAt.old hap hp hl h2 h3
end
section
variable {P : Program} (w : World) {ops : Array Oper} {rest : List Oper} {o : Oper} {a : Act} {Q : Exit → Act → World → Prop}
theorem wp_look (hg : o.guard = none) (m x : Operand) (t : TypeId) (c : Bool) (hop : o.op = Op.lookup t m x c) (mv key v : Value) (hm : a.eval m = mv) (hx : a.eval x = key) (hrun : (Instr.lookup t mv key c).run P w = .ok v w)
    (hK : wpList P ops Q rest (a.put o.dst v) w) : wpList P ops Q (o :: rest) a w := by
  refine wpList_plain hg fun K' hK' => ?_
  unfold Oper.wp
  simp [execOp, hop, hm, hx, hrun, Result.andThen]
  exact hK' _ _ hK
theorem wp_store (hg : o.guard = none) (m x v : Operand) (t : TypeId) (hop : o.op = Op.mapUpdate t m x v) (mv key val : Value) (hm : a.eval m = mv) (hx : a.eval x = key) (hv : a.eval v = val) (w' : World) (hrun : (Instr.mapUpdate t mv key val).run P w = .ok () w')
    (hK : wpList P ops Q rest (a.put o.dst undef) w') : wpList P ops Q (o :: rest) a w := by
  refine wpList_plain hg fun K' hK' => ?_
  unfold Oper.wp
  simp [execOp, hop, hm, hx, hv, hrun, Result.andThen]
  exact hK' _ _ hK
theorem wp_delete (hg : o.guard = none) (m x : Operand) (t k : TypeId) (hop : o.op = Op.call { callee := Callee.builtin Builtin.delete, args := #[m, x], argTypes := #[t, k] }) (mv key : Value) (hm : a.eval m = mv) (hx : a.eval x = key) (w' : World) (hrun : (Builtin.delete_ #[t, k] o.type #[mv, key]).run P w = .ok (.tuple #[]) w')
    (hK : wpList P ops Q rest (a.put o.dst (.tuple #[])) w') : wpList P ops Q (o :: rest) a w := by
  refine wpList_plain hg fun K' hK' => ?_
  unfold Oper.wp
  simp [execOp, hop, resolve, invoke, builtin, hm, hx, hrun, Result.andThen]
  exact hK' _ _ hK
theorem wp_len (hg : o.guard = none) (m : Operand) (t : TypeId) (hop : o.op = Op.call { callee := Callee.builtin Builtin.len, args := #[m], argTypes := #[t] }) (mv : Value) (n : Int) (hm : a.eval m = mv) (hrun : (Builtin.len_ #[t] o.type #[mv]).run P w = .ok (.int .i64 n) w)
    (hK : wpList P ops Q rest (a.put o.dst (.int .i64 n)) w) : wpList P ops Q (o :: rest) a w := by
  refine wpList_plain hg fun K' hK' => ?_
  unfold Oper.wp
  simp [execOp, hop, resolve, invoke, builtin, hm, hrun, Result.andThen]
  exact hK' _ _ hK
end
end Go.Proofs.Ytnnpdomfkedhpaa
