import Derived.Test.YtmlnnbinbbmmhaaDoorK0
import Derived.Maps.RangeWalk
import Derived.Laws.StructEq
import Derived.Laws.Cover2
import Derived.WalkKit
import Derived.ProofKit
import Derived.Maps.OwnOps
import Derived.Maps.AppendAt
import Derived.Laws.AppendOwnNone
import Derived.Test.YtmlnnbinbbmmhaaDoorYB0
import Derived.Test.YtmlnnbinbbmmhaaDoorYP
import Derived.Test.YtmlnnbinbbmmhaaDoorYF0
import Derived.Test.YtmlnnbinbbmmhaaDoorB1

-- Maps: what is of no program. A map's block as a list of pairs, in whatever order.
namespace Go.Proofs.YtmlnnbinbbmmhaaDoor
open Go.RowKit Go.MapKept Go.ChangeMaps
set_option linter.unusedVariables false
set_option maxRecDepth 100000
/-- which values are keys of a type, and that they are looked for by being the same -/
structure KeyK (P : Program) (kt : TypeId) (K : Value → Prop) : Prop where
  chk : ∀ (w : World) (b : Bool) (key : Value), K key → (Instr.checkKey b 10000 kt key).run P w = .ok () w
  stay : ∀ (w : World) (key : Value), K key → (Instr.keyThatStays key key).run P w = .ok key w
  find : ∀ (w : World) (key : Value) (es : List MapEntry), K key → (∀ x ∈ es, K x.key) → ((Instr.findKey kt key es).run P w = .ok none w ∧ ∀ x ∈ es, x.key ≠ key) ∨ ∃ j x, (Instr.findKey kt key es).run P w = .ok (some (j, x.val)) w ∧ es[j]? = some x ∧ x.key = key
theorem keyK_plain {P : Program} {kt : TypeId} {d : TypeDesc} (hd : P.underlying kt = some d) : KeyK P kt (IsKey d) := by
  refine ⟨fun w b key hk => run_checkKey hd hk b 9999, fun w key hk => run_keyThatStays hk, fun w key es hkey hk => ?_⟩
  rcases findNow_spec hkey es 0 hk with ⟨h1, h2⟩ | ⟨j, x, h1, h2, h3⟩
  · exact .inl ⟨run_findKey hd h1, h2⟩
  · exact .inr ⟨j, x, by simpa using run_findKey hd h1, h2, h3⟩
abbrev Prs := List (Value × Value)
def pr (e : MapEntry) : Value × Value := (e.key, e.val)
/-- Block b is a map, its keys of kind d, whose entries are those of l, in some order. -/
def MapAt (d : Value → Prop) (w : World) (b : Nat) (l : Prs) : Prop :=
  ∃ es clock, w.heap[b]? = some (.map es clock) ∧ Stamped es clock ∧ (∀ x ∈ es.toList, d x.key) ∧ (es.toList.map pr).Perm l
theorem MapAt.keep {d : Value → Prop} {w w' : World} {b : Nat} {l : Prs} (h : MapAt d w b l) (hk : w'.heap[b]? = w.heap[b]?) : MapAt d w' b l := by
  obtain ⟨es, clock, hb, r⟩ := h
  exact ⟨es, clock, hk.trans hb, r⟩
theorem MapAt.perm {d : Value → Prop} {w : World} {b : Nat} {l l' : Prs} (h : MapAt d w b l) (hp : l.Perm l') : MapAt d w b l' := by
  obtain ⟨es, clock, hb, hs, hk, hp'⟩ := h
  exact ⟨es, clock, hb, hs, hk, hp'.trans hp⟩
theorem MapAt.lt {d : Value → Prop} {w : World} {b : Nat} {l : Prs} (h : MapAt d w b l) : b < w.heap.size := by
  obtain ⟨es, clock, hb, _⟩ := h
  exact (Array.getElem?_eq_some_iff.1 hb).1
theorem MapAt.apart {d : Value → Prop} {w : World} {b : Nat} {l : Prs} (h : MapAt d w b l) : l.Pairwise fun p q => p.1 ≠ q.1 := by
  obtain ⟨es, clock, hb, hs, hk, hp⟩ := h
  refine (hp.pairwise_iff (fun {x y} (e : x.1 ≠ y.1) => e.symm)).1 ?_
  rw [List.pairwise_map]
  exact ((stamped_iff es clock).1 hs).2.2
theorem MapAt.made (d : Value → Prop) (w : World) : MapAt d (w.alloc (.map #[] 0)) w.heap.size [] :=
  ⟨#[], 0, (MapKept.heap_alloc w _).1, stamped_empty 0, by simp, by simp⟩
theorem MapAt.ne_cells {d : Value → Prop} {w : World} {b k : Nat} {l : Prs} (h : MapAt d w b l) {cs : Array Value} {t : TypeId} {fr : Nat × Nat} (hk : w.heap[k]? = some (.cells cs t fr)) : b ≠ k := by
  obtain ⟨es, clock, hb, _⟩ := h
  intro e; subst e; rw [hb] at hk; cases hk
/-- w' is w but for the entries of the map in block b. -/
def Turned (w w' : World) (b : Nat) : Prop := ∃ es clock es' clock', w.heap[b]? = some (.map es clock) ∧ w' = setBlock w b (.map es' clock')
theorem Turned.other {w w' : World} {b : Nat} (h : Turned w w' b) {k : Nat} (hk : k ≠ b) : w'.heap[k]? = w.heap[k]? := by
  obtain ⟨es, clock, es', clock', hb, rfl⟩ := h
  exact heap_setBlock_other hb _ hk
theorem Turned.size {w w' : World} {b : Nat} (h : Turned w w' b) : w'.heap.size = w.heap.size := by
  obtain ⟨es, clock, es', clock', hb, rfl⟩ := h
  simp [setBlock]
theorem Turned.os {w w' : World} {b : Nat} (h : Turned w w' b) : w'.os = w.os ∧ w'.tape = w.tape ∧ w'.output = w.output := by
  obtain ⟨es, clock, es', clock', hb, rfl⟩ := h
  exact ⟨rfl, rfl, rfl⟩
theorem Turned.kp {F : Nat → Prop} {w w' : World} {b : Nat} (h : Turned w w' b) (hF : F b) : Kp F w w' :=
  ⟨h.os.1, h.os.2.1, h.os.2.2, Nat.le_of_eq h.size.symm, fun k _ hk => h.other (fun e => hk (e ▸ hF))⟩
theorem MapAt.refl {d : Value → Prop} {w : World} {b : Nat} {l : Prs} (h : MapAt d w b l) : Turned w w b := by
  obtain ⟨es, clock, hb, _⟩ := h
  refine ⟨es, clock, es, clock, hb, ?_⟩
  have e : w.heap.setIfInBounds b (.map es clock) = w.heap := by
    apply Array.ext_getElem?
    intro i
    by_cases hi : i = b
    · subst hi; exact (heap_setBlock_same hb _).trans hb.symm
    · exact heap_setBlock_other hb _ hi
  unfold setBlock; rw [e]
section
variable {P : Program} {w : World} {d : Value → Prop} {b : Nat} {l : Prs} {t k e : TypeId} {key : Value}
theorem MapAt.find (h : MapAt d w b l) (hd : KeyK P k d) (hkey : d key) : ∃ es clock, w.heap[b]? = some (.map es clock) ∧ Stamped es clock ∧ (∀ x ∈ es.toList, d x.key) ∧ (es.toList.map pr).Perm l ∧
    (((Instr.findKey k key es.toList).run P w = .ok none w ∧ ∀ x ∈ es.toList, x.key ≠ key) ∨ ∃ j x, (Instr.findKey k key es.toList).run P w = .ok (some (j, x.val)) w ∧ es.toList[j]? = some x ∧ x.key = key) := by
  obtain ⟨es, clock, hb, hs, hk, hp⟩ := h
  refine ⟨es, clock, hb, hs, hk, hp, ?_⟩
  exact hd.find w key es.toList hkey hk
theorem MapAt.look (c : Bool) (h : MapAt d w b l) (ht : P.underlying t = some (.map k e)) (hd : KeyK P k d) (hkey : d key) {v : Value} (hv : (key, v) ∈ l) :
    (Instr.lookup t (.map (some b)) key c).run P w = .ok (if c then .tuple #[v, .bool true] else v) w := by
  have hap := h.apart
  obtain ⟨es, clock, hb, hs, hk, hp, hf⟩ := h.find hd hkey
  rcases hf with ⟨h1, h2⟩ | ⟨j, x, h1, h2, h3⟩
  · obtain ⟨y, hy, hyv⟩ := List.mem_map.1 (hp.mem_iff.2 hv)
    exact absurd (congrArg Prod.fst hyv) (h2 y hy)
  · have hx : (x.key, x.val) ∈ l := hp.mem_iff.1 (List.mem_map.2 ⟨x, List.mem_of_getElem? h2, rfl⟩)
    have hxv : x.val = v := by
      by_cases hne : x.val = v
      · exact hne
      · obtain ⟨i1, e1⟩ := List.getElem?_of_mem hx
        obtain ⟨i2, e2⟩ := List.getElem?_of_mem hv
        obtain ⟨l1, f1⟩ := List.getElem?_eq_some_iff.1 e1
        obtain ⟨l2, f2⟩ := List.getElem?_eq_some_iff.1 e2
        have hall := List.pairwise_iff_getElem.1 hap
        rcases Nat.lt_trichotomy i1 i2 with hl | hl | hl
        · exact absurd (by rw [f1, f2]; exact h3) (hall i1 i2 l1 l2 hl)
        · subst hl; rw [f1] at f2; exact congrArg Prod.snd f2
        · exact absurd (by rw [f1, f2]; exact h3.symm) (hall i2 i1 l2 l1 hl)
    rw [hxv] at h1
    simp [Instr.lookup, run_underlying ht, MapKept.run_getObj_map hb, hd.chk _ _ _ hkey, h1, Result.andThen]
theorem MapAt.look_no (c : Bool) (h : MapAt d w b l) (ht : P.underlying t = some (.map k e)) (hd : KeyK P k d) (hkey : d key) (hv : ∀ p ∈ l, p.1 ≠ key) {z : Value} (hz : (zeroValue e).run P w = .ok z w) :
    (Instr.lookup t (.map (some b)) key c).run P w = .ok (if c then .tuple #[z, .bool false] else z) w := by
  obtain ⟨es, clock, hb, hs, hk, hp, hf⟩ := h.find hd hkey
  rcases hf with ⟨h1, h2⟩ | ⟨j, x, h1, h2, h3⟩
  · simp [Instr.lookup, run_underlying ht, MapKept.run_getObj_map hb, hd.chk _ _ _ hkey, h1, hz, Result.andThen]
  · exact absurd h3 (hv (x.key, x.val) (hp.mem_iff.1 (List.mem_map.2 ⟨x, List.mem_of_getElem? h2, rfl⟩)))
theorem MapAt.len (h : MapAt d w b l) (ht : P.underlying t = some (.map k e)) (ty : TypeId) : (Builtin.len_ #[t] ty #[.map (some b)]).run P w = .ok (.int .i64 l.length) w := by
  obtain ⟨es, clock, hb, hs, hk, hp⟩ := h
  have hl : es.size = l.length := by rw [← hp.length_eq]; simp
  rw [← hl]
  simp [Builtin.len_, run_underlying ht, MapKept.run_getObj_map hb, goInt, Result.andThen]
theorem modify_set {α : Type} (l : List α) (j : Nat) (f : α → α) {x : α} (h : l[j]? = some x) : l.modify j f = l.set j (f x) := ChangeMaps.modify_eq_set _ _ _ _ h
theorem perm_erase {α : Type} : ∀ {l : List α} {j : Nat} {x : α}, l[j]? = some x → l.Perm (x :: l.eraseIdx j)
  | [], _, _, h => by simp at h
  | a :: r, 0, x, h => by simp at h; subst h; simp
  | a :: r, j + 1, x, h => by
    have := perm_erase (l := r) (j := j) (x := x) (by simpa using h)
    simp only [List.eraseIdx_cons_succ]
    exact (this.cons a).trans (List.Perm.swap _ _ _)
theorem perm_set {α : Type} : ∀ {l : List α} {j : Nat} {x : α} (y : α), l[j]? = some x → (l.set j y).Perm (y :: l.eraseIdx j)
  | [], _, _, _, h => by simp at h
  | a :: r, 0, x, y, h => by simp
  | a :: r, j + 1, x, y, h => by
    have := perm_set (l := r) (j := j) (x := x) y (by simpa using h)
    simp only [List.eraseIdx_cons_succ, List.set_cons_succ]
    exact (this.cons a).trans (List.Perm.swap _ _ _)
theorem MapAt.store_new (h : MapAt d w b l) (ht : P.underlying t = some (.map k e)) (hd : KeyK P k d) (hkey : d key) (hv : ∀ p ∈ l, p.1 ≠ key) (val : Value) :
    ∃ w', (Instr.mapUpdate t (.map (some b)) key val).run P w = .ok () w' ∧ MapAt d w' b ((key, val) :: l) ∧ Turned w w' b := by
  obtain ⟨es, clock, hb, hs, hk, hp, hf⟩ := h.find hd hkey
  rcases hf with ⟨h1, h2⟩ | ⟨j, x, h1, h2, h3⟩
  · refine ⟨setBlock w b (.map (es.push ⟨key, val, clock⟩) (clock + 1)), ?_, ⟨_, _, heap_setBlock_same hb _, stamped_push hs h2, ?_, ?_⟩, es, clock, _, _, hb, rfl⟩
    · simp [Instr.mapUpdate, run_underlying ht, MapKept.run_getObj_map hb, hd.chk _ _ _ hkey, h1, MapKept.run_setObj_map _ hb, Result.andThen, setBlock]
    · intro x hx
      simp only [Array.toList_push, List.mem_append, List.mem_singleton] at hx
      rcases hx with hx | rfl
      · exact hk x hx
      · exact hkey
    · rw [Array.toList_push, List.map_append]
      exact (List.perm_append_singleton _ _).trans (hp.cons _)
  · exact absurd h3 (hv (x.key, x.val) (hp.mem_iff.1 (List.mem_map.2 ⟨x, List.mem_of_getElem? h2, rfl⟩)))
theorem map_erase {α β : Type} (f : α → β) (l : List α) (j : Nat) : (l.eraseIdx j).map f = (l.map f).eraseIdx j := ChangeMaps.map_eraseIdx f l j
theorem MapAt.old {es : Array MapEntry} {v : Value} {l0 : Prs} (hap : l.Pairwise fun p q => p.1 ≠ q.1) (hp : (es.toList.map pr).Perm l) (hl : l.Perm ((key, v) :: l0)) {j : Nat} {x : MapEntry} (h2 : es.toList[j]? = some x) (h3 : x.key = key) : ((es.toList.eraseIdx j).map pr).Perm l0 := by
  rw [map_erase]
  have h4 : (es.toList.map pr)[j]? = some (pr x) := by simp [h2]
  have h5 := (perm_erase h4).symm.trans (hp.trans hl)
  have hxm : pr x ∈ (key, v) :: l0 := h5.mem_iff.1 (by simp)
  have hap2 := (hl.pairwise_iff (fun {x y} (e : x.1 ≠ y.1) => e.symm)).1 hap
  have hxe : pr x = (key, v) := by
    rcases List.mem_cons.1 hxm with h | h
    · exact h
    · exact absurd h3.symm ((List.pairwise_cons.1 hap2).1 _ h)
  rw [hxe] at h5
  exact (List.perm_cons _).1 h5
theorem MapAt.store_old (h : MapAt d w b l) (ht : P.underlying t = some (.map k e)) (hd : KeyK P k d) (hkey : d key) {v : Value} {l0 : Prs} (hl : l.Perm ((key, v) :: l0)) (val : Value) :
    ∃ w', (Instr.mapUpdate t (.map (some b)) key val).run P w = .ok () w' ∧ MapAt d w' b ((key, val) :: l0) ∧ Turned w w' b := by
  have hap := h.apart
  obtain ⟨es, clock, hb, hs, hk, hp, hf⟩ := h.find hd hkey
  rcases hf with ⟨h1, h2⟩ | ⟨j, x, h1, h2, h3⟩
  · have : (key, v) ∈ l := hl.mem_iff.2 (by simp)
    obtain ⟨y, hy, hyv⟩ := List.mem_map.1 (hp.mem_iff.2 this)
    exact absurd (congrArg Prod.fst hyv) (h2 y hy)
  · have hj : es[j]? = some x := by simpa using h2
    have hlist : (es.modify j (fun e' => { e' with key := key, val := val })).toList = es.toList.set j { x with key := key, val := val } := by rw [Array.toList_modify, modify_set _ _ _ h2]
    refine ⟨setBlock w b (.map (es.modify j (fun e' => { e' with key := key, val := val })) clock), ?_, ⟨_, _, heap_setBlock_same hb _, stamped_modify hs _ _ (fun _ _ => rfl) (fun e' _ he' => by rw [hj] at he'; cases he'; exact h3.symm), ?_, ?_⟩, es, clock, _, _, hb, rfl⟩
    · simp [Instr.mapUpdate, run_underlying ht, MapKept.run_getObj_map hb, hd.chk _ _ _ hkey, h1, hj, h3, hd.stay _ _ hkey, MapKept.run_setObj_map _ hb, Result.andThen, setBlock]
    · intro y hy
      rw [hlist] at hy
      rcases List.mem_or_eq_of_mem_set hy with hy | rfl
      · exact hk y hy
      · exact hkey
    · rw [hlist, List.map_set]
      have h4 : (es.toList.map pr)[j]? = some (pr x) := by simp [h2]
      refine (perm_set _ h4).trans ?_
      rw [← map_erase]
      exact (MapAt.old hap hp hl h2 h3).cons _
theorem MapAt.drop_no (h : MapAt d w b l) (ht : P.underlying t = some (.map k e)) (hd : KeyK P k d) (hkey : d key) (hv : ∀ p ∈ l, p.1 ≠ key) (ty : TypeId) :
    ∃ w', (Builtin.delete_ #[t, k] ty #[.map (some b), key]).run P w = .ok (.tuple #[]) w' ∧ MapAt d w' b l ∧ Turned w w' b := by
  have hr := h.refl
  have h0 := h
  obtain ⟨es, clock, hb, hs, hk, hp, hf⟩ := h.find hd hkey
  rcases hf with ⟨h1, h2⟩ | ⟨j, x, h1, h2, h3⟩
  · refine ⟨setBlock w b (.map es clock), ?_, ⟨es, clock, heap_setBlock_same hb _, hs, hk, hp⟩, es, clock, _, _, hb, rfl⟩
    simp [Builtin.delete_, run_underlying ht, MapKept.run_getObj_map hb, hd.chk _ _ _ hkey, h1, MapKept.run_setObj_map _ hb, Result.andThen, setBlock]
  · exact absurd h3 (hv (x.key, x.val) (hp.mem_iff.1 (List.mem_map.2 ⟨x, List.mem_of_getElem? h2, rfl⟩)))
theorem MapAt.drop (h : MapAt d w b l) (ht : P.underlying t = some (.map k e)) (hd : KeyK P k d) (hkey : d key) {v : Value} {l0 : Prs} (hl : l.Perm ((key, v) :: l0)) (ty : TypeId) :
    ∃ w', (Builtin.delete_ #[t, k] ty #[.map (some b), key]).run P w = .ok (.tuple #[]) w' ∧ MapAt d w' b l0 ∧ Turned w w' b := by
  have hap := h.apart
  obtain ⟨es, clock, hb, hs, hk, hp, hf⟩ := h.find hd hkey
  rcases hf with ⟨h1, h2⟩ | ⟨j, x, h1, h2, h3⟩
  · have : (key, v) ∈ l := hl.mem_iff.2 (by simp)
    obtain ⟨y, hy, hyv⟩ := List.mem_map.1 (hp.mem_iff.2 this)
    exact absurd (congrArg Prod.fst hyv) (h2 y hy)
  · have hjl : j < es.toList.length := (List.getElem?_eq_some_iff.1 h2).1
    have hjs : j < es.size := by simpa using hjl
    have hsub : (es.eraseIdxIfInBounds j).toList = es.toList.eraseIdx j := by
      unfold Array.eraseIdxIfInBounds
      rw [dif_pos hjs]
      simp
    refine ⟨setBlock w b (.map (es.eraseIdxIfInBounds j) clock), ?_, ⟨_, _, heap_setBlock_same hb _, stamped_erase hs j, ?_, ?_⟩, es, clock, _, _, hb, rfl⟩
    · simp [Builtin.delete_, run_underlying ht, MapKept.run_getObj_map hb, hd.chk _ _ _ hkey, h1, MapKept.run_setObj_map _ hb, Result.andThen, setBlock]
    · intro y hy
      rw [hsub] at hy
      exact hk y ((List.eraseIdx_sublist _ _).subset hy)
    · rw [hsub]; exact MapAt.old hap hp hl h2 h3
end
section
variable {P : Program} (w : World) {ops : Array Oper} {rest : List Oper} {o : Oper} {a : Act} {Q : Exit → Act → World → Prop}
theorem wp_look (hg : o.guard = none) (m x : Operand) (t : TypeId) (c : Bool) (hop : o.op = Op.lookup t m x c) (mv key v : Value) (hm : a.eval m = mv) (hx : a.eval x = key) (hrun : (Instr.lookup t mv key c).run P w = .ok v w)
    (hK : wpList P ops Q rest (a.put o.dst v) w) : wpList P ops Q (o :: rest) a w := by
  refine wpList_plain hg fun K' hK' => ?_
  unfold Oper.wp
  simp [execOp, hop, hm, hx, hrun, Result.andThen]
  exact hK' _ _ hK
theorem wp_store (hg : o.guard = none) (m x v : Operand) (t : TypeId) (hop : o.op = Op.mapUpdate t m x v) (mv key val : Value) (hm : a.eval m = mv) (hx : a.eval x = key) (hv : a.eval v = val) (w' : World) (hrun : (Instr.mapUpdate t mv key val).run P w = .ok () w')
    (hK : wpList P ops Q rest (a.put o.dst undef) w') : wpList P ops Q (o :: rest) a w := by
  refine wpList_plain hg fun K' hK' => ?_
  unfold Oper.wp
  simp [execOp, hop, hm, hx, hv, hrun, Result.andThen]
  exact hK' _ _ hK
theorem wp_delete (hg : o.guard = none) (m x : Operand) (t k : TypeId) (hop : o.op = Op.call { callee := Callee.builtin Builtin.delete, args := #[m, x], argTypes := #[t, k] }) (mv key : Value) (hm : a.eval m = mv) (hx : a.eval x = key) (w' : World) (hrun : (Builtin.delete_ #[t, k] o.type #[mv, key]).run P w = .ok (.tuple #[]) w')
    (hK : wpList P ops Q rest (a.put o.dst (.tuple #[])) w') : wpList P ops Q (o :: rest) a w := by
  refine wpList_plain hg fun K' hK' => ?_
  unfold Oper.wp
  simp [execOp, hop, resolve, invoke, builtin, hm, hx, hrun, Result.andThen]
  exact hK' _ _ hK
theorem wp_len (hg : o.guard = none) (m : Operand) (t : TypeId) (hop : o.op = Op.call { callee := Callee.builtin Builtin.len, args := #[m], argTypes := #[t] }) (mv : Value) (n : Int) (hm : a.eval m = mv) (hrun : (Builtin.len_ #[t] o.type #[mv]).run P w = .ok (.int .i64 n) w)
    (hK : wpList P ops Q rest (a.put o.dst (.int .i64 n)) w) : wpList P ops Q (o :: rest) a w := by
  refine wpList_plain hg fun K' hK' => ?_
  unfold Oper.wp
  simp [execOp, hop, resolve, invoke, builtin, hm, hrun, Result.andThen]
  exact hK' _ _ hK
end
end Go.Proofs.YtmlnnbinbbmmhaaDoor

-- Keys: names, numbers, places.
namespace Go.Proofs.YtmlnnbinbbmmhaaDoor
open Go.RowKit Go.MapKept Go.ChangeMaps
set_option linter.unusedVariables false
set_option maxRecDepth 100000
abbrev IsSt : Value → Prop := IsKey .string
abbrev IsNm : Value → Prop := IsKey (.int .i64)
def plV (p : Int × Int) : Value := .agg #[.int .i64 p.1, .int .i64 p.2]
def IsPl (v : Value) : Prop := ∃ p, v = plV p
theorem keySt : KeyK Tryd.prog 9 IsSt := keyK_plain Tryd.underlying9
theorem keyNm : KeyK Tryd.prog 3 IsNm := keyK_plain Tryd.underlying3
theorem plV_inj {p q : Int × Int} (h : plV p = plV q) : p = q := by
  obtain ⟨a, b⟩ := p; obtain ⟨c, d⟩ := q
  simp [plV] at h
  simp [h.1, h.2]
end Go.Proofs.YtmlnnbinbbmmhaaDoor

-- A map as a function of its keys.
namespace Go.Proofs.YtmlnnbinbbmmhaaDoor
open Go.RowKit Go.MapKept Go.ChangeMaps
set_option linter.unusedVariables false
set_option maxRecDepth 100000
/-- block b is a map that holds just what f says -/
def MpAt {α : Type} (K : Value → Prop) (kf : α → Value) (w : World) (b : Nat) (f : α → Option Value) : Prop :=
  ∃ l, MapAt K w b l ∧ (∀ p ∈ l, ∃ x v, p = (kf x, v) ∧ f x = some v) ∧ ∀ x v, f x = some v → (kf x, v) ∈ l
section
variable {α : Type} {K : Value → Prop} {kf : α → Value} {w : World} {b : Nat} {f : α → Option Value}
theorem MpAt.keep {w' : World} (h : MpAt K kf w b f) (hk : w'.heap[b]? = w.heap[b]?) : MpAt K kf w' b f := by
  obtain ⟨l, h1, h2⟩ := h
  exact ⟨l, h1.keep hk, h2⟩
theorem MpAt.on {w' : World} (h : MpAt K kf w b f) (hb : Below w.heap.size w w') : MpAt K kf w' b f := by
  have : b < w.heap.size := by obtain ⟨l, h1, _⟩ := h; exact h1.lt
  exact h.keep (hb.block b this)
theorem MpAt.lt (h : MpAt K kf w b f) : b < w.heap.size := by obtain ⟨l, h1, _⟩ := h; exact h1.lt
theorem MpAt.kp {F : Nat → Prop} {w' : World} (h : MpAt K kf w b f) (hk : Kp F w w') (hn : ¬ F b) : MpAt K kf w' b f := h.keep (hk.block b h.lt hn)
theorem MpAt.ne_cells (h : MpAt K kf w b f) {k : Nat} {cs : Array Value} {t : TypeId} {fr : Nat × Nat} (hk : w.heap[k]? = some (.cells cs t fr)) : b ≠ k := by
  obtain ⟨l, h1, _⟩ := h; exact h1.ne_cells hk
theorem MpAt.congr {g : α → Option Value} (h : MpAt K kf w b f) (e : ∀ x, f x = g x) : MpAt K kf w b g := by
  have : f = g := funext e
  exact this ▸ h
theorem MpAt.made (K : Value → Prop) (kf : α → Value) (w : World) : MpAt K kf (w.alloc (.map #[] 0)) w.heap.size (fun _ => none) :=
  ⟨[], MapAt.made K w, by simp, by simp⟩
variable {P : Program} {t k e : TypeId}
theorem MpAt.look (c : Bool) (h : MpAt K kf w b f) (ht : P.underlying t = some (.map k e)) (hd : KeyK P k K) (hkey : ∀ x, K (kf x)) (hinj : ∀ x y, kf x = kf y → x = y) {z : Value} (hz : (zeroValue e).run P w = .ok z w) (x : α) :
    (Instr.lookup t (.map (some b)) (kf x) c).run P w = .ok (if c then .tuple #[(f x).getD z, .bool (f x).isSome] else (f x).getD z) w := by
  obtain ⟨l, h1, h2, h3⟩ := h
  cases hf : f x with
  | some v => simpa [hf] using h1.look c ht hd (hkey x) (h3 x v hf)
  | none =>
    have := h1.look_no c ht hd (hkey x) (fun p hp e => by
      obtain ⟨y, v, rfl, hy⟩ := h2 p hp
      have := hinj _ _ e
      subst this
      rw [hf] at hy; cases hy) hz
    simpa [hf] using this
theorem MpAt.split (h : MpAt K kf w b f) (hinj : ∀ x y, kf x = kf y → x = y) {x : α} {v : Value} (hf : f x = some v) : ∃ l l0, MapAt K w b l ∧ l.Perm ((kf x, v) :: l0) ∧ (∀ p ∈ l0, ∃ y u, p = (kf y, u) ∧ f y = some u ∧ y ≠ x) ∧ ∀ y u, f y = some u → y ≠ x → (kf y, u) ∈ l0 := by
  obtain ⟨l, h1, h2, h3⟩ := h
  obtain ⟨s, t, rfl⟩ := List.append_of_mem (h3 x v hf)
  have hp : (s ++ (kf x, v) :: t).Perm ((kf x, v) :: (s ++ t)) := List.perm_middle
  have hap := (h1.perm hp).apart
  refine ⟨_, s ++ t, h1, hp, fun p hpp => ?_, fun y u hy hne => ?_⟩
  · obtain ⟨y, u, rfl, hy⟩ := h2 p (hp.mem_iff.2 (.tail _ hpp))
    refine ⟨y, u, rfl, hy, fun e => ?_⟩
    subst e
    exact (List.pairwise_cons.1 hap).1 _ hpp rfl
  · have := hp.mem_iff.1 (h3 y u hy)
    rcases List.mem_cons.1 this with e | hm
    · injection e with e1 e2
      exact absurd (hinj _ _ e1) hne
    · exact hm
theorem MpAt.store [DecidableEq α] (h : MpAt K kf w b f) (ht : P.underlying t = some (.map k e)) (hd : KeyK P k K) (hkey : ∀ x, K (kf x)) (hinj : ∀ x y, kf x = kf y → x = y) (x : α) (v : Value) :
    ∃ w', (Instr.mapUpdate t (.map (some b)) (kf x) v).run P w = .ok () w' ∧ MpAt K kf w' b (fun y => if y = x then some v else f y) ∧ Turned w w' b := by
  cases hf : f x with
  | none =>
    obtain ⟨l, h1, h2, h3⟩ := h
    obtain ⟨w', r1, r2, r3⟩ := h1.store_new ht hd (hkey x) (fun p hp e => by
      obtain ⟨y, u, rfl, hy⟩ := h2 p hp
      have := hinj _ _ e
      subst this
      rw [hf] at hy; cases hy) v
    refine ⟨w', r1, ⟨_, r2, fun p hp => ?_, fun y u hy => ?_⟩, r3⟩
    · rcases List.mem_cons.1 hp with rfl | hp
      · exact ⟨x, v, rfl, by simp⟩
      · obtain ⟨y, u, rfl, hy⟩ := h2 p hp
        refine ⟨y, u, rfl, ?_⟩
        have : y ≠ x := fun e => by subst e; rw [hf] at hy; cases hy
        simp [this, hy]
    · by_cases hyx : y = x
      · subst hyx; simp at hy; subst hy; exact .head _
      · simp [hyx] at hy
        exact .tail _ (h3 y u hy)
  | some u0 =>
    obtain ⟨l, l0, h1, hp, h2, h3⟩ := h.split hinj hf
    obtain ⟨w', r1, r2, r3⟩ := h1.store_old ht hd (hkey x) hp v
    refine ⟨w', r1, ⟨_, r2, fun p hp => ?_, fun y u hy => ?_⟩, r3⟩
    · rcases List.mem_cons.1 hp with rfl | hp
      · exact ⟨x, v, rfl, by simp⟩
      · obtain ⟨y, u, rfl, hy, hne⟩ := h2 p hp
        exact ⟨y, u, rfl, by simp [hne, hy]⟩
    · by_cases hyx : y = x
      · subst hyx; simp at hy; subst hy; exact .head _
      · simp [hyx] at hy
        exact .tail _ (h3 y u hy hyx)
theorem MpAt.drop [DecidableEq α] (h : MpAt K kf w b f) (ht : P.underlying t = some (.map k e)) (hd : KeyK P k K) (hkey : ∀ x, K (kf x)) (hinj : ∀ x y, kf x = kf y → x = y) (x : α) (ty : TypeId) :
    ∃ w', (Builtin.delete_ #[t, k] ty #[.map (some b), kf x]).run P w = .ok (.tuple #[]) w' ∧ MpAt K kf w' b (fun y => if y = x then none else f y) ∧ Turned w w' b := by
  cases hf : f x with
  | none =>
    obtain ⟨l, h1, h2, h3⟩ := h
    obtain ⟨w', r1, r2, r3⟩ := h1.drop_no ht hd (hkey x) (fun p hp e => by
      obtain ⟨y, u, rfl, hy⟩ := h2 p hp
      have := hinj _ _ e
      subst this
      rw [hf] at hy; cases hy) ty
    refine ⟨w', r1, ⟨_, r2, fun p hp => ?_, fun y u hy => ?_⟩, r3⟩
    · obtain ⟨y, u, rfl, hy⟩ := h2 p hp
      have : y ≠ x := fun e => by subst e; rw [hf] at hy; cases hy
      exact ⟨y, u, rfl, by simp [this, hy]⟩
    · by_cases hyx : y = x
      · subst hyx; simp at hy
      · simp [hyx] at hy
        exact h3 y u hy
  | some u0 =>
    obtain ⟨l, l0, h1, hp, h2, h3⟩ := h.split hinj hf
    obtain ⟨w', r1, r2, r3⟩ := h1.drop ht hd (hkey x) hp ty
    refine ⟨w', r1, ⟨_, r2, fun p hp => ?_, fun y u hy => ?_⟩, r3⟩
    · obtain ⟨y, u, rfl, hy, hne⟩ := h2 p hp
      exact ⟨y, u, rfl, by simp [hne, hy]⟩
    · by_cases hyx : y = x
      · subst hyx; simp at hy
      · simp [hyx] at hy
        exact h3 y u hy hyx
end
/-- is it in the list? -/
def isIn {α : Type} [DecidableEq α] (L : List α) (x : α) : Bool := L.any (fun y => decide (y = x))
theorem isIn_iff {α : Type} [DecidableEq α] {L : List α} {x : α} : isIn L x = true ↔ x ∈ L := by
  unfold isIn; simp
theorem isIn_no {α : Type} [DecidableEq α] {L : List α} {x : α} : isIn L x = false ↔ x ∉ L := by
  rw [← isIn_iff]; simp
/-- a set -/
def setF {α : Type} [DecidableEq α] (L : List α) : α → Option Value := fun y => if isIn L y then some (.agg #[]) else none
theorem setF_some {α : Type} [DecidableEq α] (L : List α) (x : α) : (setF L x).isSome = isIn L x := by unfold setF; cases isIn L x <;> rfl
theorem setF_getD {α : Type} [DecidableEq α] (L : List α) (x : α) : (setF L x).getD (.agg #[]) = .agg #[] := by unfold setF; split <;> rfl
theorem isIn_congr {α : Type} [DecidableEq α] {L M : List α} {x : α} (h : x ∈ L ↔ x ∈ M) : isIn L x = isIn M x := by
  rw [Bool.eq_iff_iff, isIn_iff, isIn_iff, h]
theorem setF_congr {α : Type} [DecidableEq α] {L M : List α} (h : ∀ x, x ∈ L ↔ x ∈ M) (y : α) : setF L y = setF M y := by
  unfold setF; rw [isIn_congr (h y)]
theorem setF_add {α : Type} [DecidableEq α] (L : List α) (x y : α) : (if y = x then some (Value.agg #[]) else setF L y) = setF (L ++ [x]) y := by
  unfold setF
  by_cases h : y = x
  · subst h
    rw [if_pos rfl, if_pos (isIn_iff.2 (by simp))]
  · rw [if_neg h, isIn_congr (M := L ++ [x]) (by simp [h])]
/-- without a name -/
def woN {α : Type} [DecidableEq α] (L : List α) (x : α) : List α := L.filter (fun z => decide (z ≠ x))
theorem mem_woN {α : Type} [DecidableEq α] {L : List α} {x y : α} : y ∈ woN L x ↔ y ∈ L ∧ y ≠ x := by
  unfold woN; simp
theorem setF_del {α : Type} [DecidableEq α] (L : List α) (x y : α) : (if y = x then none else setF L y) = setF (woN L x) y := by
  unfold setF
  by_cases h : y = x
  · subst h
    rw [if_pos rfl, if_neg (fun e => by have := mem_woN.1 (isIn_iff.1 e); exact this.2 rfl)]
  · rw [if_neg h, isIn_congr (M := woN L x) (by rw [mem_woN]; simp [h])]
abbrev SetS := MpAt (α := ByteArray) IsSt Value.string
abbrev SetP := MpAt (α := Int × Int) IsPl plV
abbrev MpN := MpAt (α := Int) IsNm (Value.int .i64)
theorem isSt (x : ByteArray) : IsSt (.string x) := trivial
theorem isNm (x : Int) : IsNm (.int .i64 x) := rfl
theorem isPl (x : Int × Int) : IsPl (plV x) := ⟨x, rfl⟩
theorem injSt (x y : ByteArray) (h : Value.string x = Value.string y) : x = y := by injection h
theorem injNm (x y : Int) (h : Value.int .i64 x = Value.int .i64 y) : x = y := by injection h
theorem injPl (x y : Int × Int) (h : plV x = plV y) : x = y := plV_inj h
end Go.Proofs.YtmlnnbinbbmmhaaDoor

-- has, add.
namespace Go.Proofs.YtmlnnbinbbmmhaaDoor
open Go.ChangeShapes Go.WideShapes Go.ChangeAt Go.RowKit Go.MapKept
set_option linter.unusedVariables false
set_option maxRecDepth 100000
theorem zeroN (w : World) : (zeroValue 3).run Tryd.prog w = .ok (.int .i64 0) w := by
  have : (Tryd.prog.info? 3).map (·.zero) = some (some (.int .i64 0)) := by kernel_rfl
  cases h : Tryd.prog.info? 3 with
  | none => simp [h] at this
  | some i => simp [h] at this; simp [zeroValue, typeInfo, h, this, Result.andThen]
end Go.Proofs.YtmlnnbinbbmmhaaDoor

-- setOf, numbersByPlace, Clone.
namespace Go.Proofs.YtmlnnbinbbmmhaaDoor
open Go.ChangeShapes Go.WideShapes Go.ChangeAt Go.RowKit Go.MapKept
set_option linter.unusedVariables false
set_option maxRecDepth 100000
/-- a place -/
def paL (p : Int × Int) : List Value := [.int .i64 p.1, .int .i64 p.2]
theorem paL_len (x : Int × Int) : (paL x).length = 2 := rfl
theorem paL_one : ∀ x, ∀ u ∈ paL x, u.oneCell' = true := by
  intro x u hu
  simp only [paL, List.mem_cons, List.not_mem_nil, or_false] at hu
  rcases hu with rfl | rfl <;> rfl
abbrev RowP := RowG paL
theorem RowG.pa {w : World} {v : Value} {L : List (Int × Int)} {k : Nat} {x : Int × Int} (h : RowP w v L) (hx : L[k]? = some x) : ∃ b off cap, v = .slice (some ⟨b, off, none⟩) L.length cap ∧ w.cell? ⟨b, off + k * 2, none⟩ = some (.int .i64 x.1) ∧ w.cell? ⟨b, off + k * 2 + 1, none⟩ = some (.int .i64 x.2) := by
  obtain ⟨b, off, cap, e, _, _, hc⟩ := RowG.at paL_len h hx
  exact ⟨b, off, cap, e, hc 0 _ rfl, hc 1 _ rfl⟩
theorem below_kp {B b : Nat} {a w w' : World} (hb : Below B a w) (hk : Kp (fun k => k = b) w w') (h : B ≤ b) (hB : B ≤ a.heap.size) : Below B a w' :=
  hb.trans (hk.below (fun k e => e ▸ h) (Nat.le_trans hB hb.size))
theorem wp_make {P : Program} (w : World) {ops : Array Oper} {rest : List Oper} {o : Oper} {a : Act} {Q : Exit → Act → World → Prop} (hg : o.guard = none) (x : Operand) (t k e : TypeId) (hop : o.op = Op.makeMap t (some x)) (n : Int) (hx : a.eval x = .int .i64 n) (ht : P.underlying t = some (.map k e))
    (hK : wpList P ops Q rest (a.put o.dst (.map (some w.heap.size))) (w.alloc (.map #[] 0))) : wpList P ops Q (o :: rest) a w := by
  refine wpList_plain hg fun K' hK' => ?_
  have hrun : (Instr.makeMap t (some (.int .i64 n))).run P w = .ok (.map (some w.heap.size)) (w.alloc (.map #[] 0)) := by
    simp [Instr.makeMap, run_underlying ht, asInt, asIntOf, newObj, Result.andThen]
    rfl
  unfold Oper.wp
  simp [execOp, hop, hx, hrun, Result.andThen]
  exact hK' _ _ hK
end Go.Proofs.YtmlnnbinbbmmhaaDoor

-- append, to a row whose block is one of F.
namespace Go.Proofs.YtmlnnbinbbmmhaaDoor
open Go.ChangeShapes Go.WideShapes Go.ChangeAt Go.RowKit Go.MapKept
set_option linter.unusedVariables false
set_option maxRecDepth 100000
/-- how elements of a list lie in memory -/
structure El {α : Type} (c : α → List Value) (z e sl bytes : Nat) : Prop where
  sl : Tryd.prog.underlying sl = some (.slice e)
  info : ∃ zv : Value, (Tryd.prog.info? e).map (fun i => (i.zero, i.size, i.bytes)) = some (some zv, z, bytes) ∧ zv.cells.size = z
  len : ∀ x, (c x).length = z
  pos : 0 < z
/-- a row of one's own, its block in F -/
def OwnF (F : Nat → Prop) {α : Type} (c : α → List Value) (z e : Nat) (w : World) (v : Value) (L : List α) : Prop :=
  w.ownsRow 0 e z v L.length (L.flatMap c) ∧ ∀ g, v.ownBlock = some g → F g
section
variable {α : Type} {c : α → List Value} {z e sl bytes : Nat} {F : Nat → Prop}
theorem OwnF.row (E : El c z e sl bytes) {w : World} {v : Value} {L : List α} (h : OwnF F c z e w v L) : RowG c w v L := rowG_own E.pos E.len h.1
theorem OwnF.nil {w : World} : OwnF F c z e w (.slice none 0 0) ([] : List α) := ⟨⟨by simp, .inl ⟨rfl, rfl⟩⟩, by intro g h; simp [Value.ownBlock] at h⟩
theorem OwnF.weak {G : Nat → Prop} {w : World} {v : Value} {L : List α} (h : OwnF F c z e w v L) (hg : ∀ k, F k → G k) : OwnF G c z e w v L := ⟨h.1, fun g hh => hg g (h.2 g hh)⟩
theorem OwnF.keep {w w' : World} {v : Value} {L : List α} (h : OwnF F c z e w v L) (hk : ∀ g, v.ownBlock = some g → w'.heap[g]? = w.heap[g]?) : OwnF F c z e w' v L := by
  refine ⟨⟨h.1.1, ?_⟩, h.2⟩
  rcases h.1.2 with q | ⟨g, cap, cur, q1, q2, q3, q4⟩
  · exact .inl q
  · exact .inr ⟨g, cap, cur, q1, q2, (hk g (by rw [q1]; rfl)).trans q3, q4⟩
theorem OwnF.lt {w : World} {v : Value} {L : List α} (h : OwnF F c z e w v L) : ∀ g, v.ownBlock = some g → g < w.heap.size := own_ltK h.1
theorem OwnF.on {w w' : World} {v : Value} {L : List α} (h : OwnF F c z e w v L) (hb : Below w.heap.size w w') : OwnF F c z e w' v L := h.keep fun g hg => hb.block g (h.lt g hg)
theorem OwnF.kp {G : Nat → Prop} {w w' : World} {v : Value} {L : List α} (h : OwnF F c z e w v L) (hb : Kp G w w') (hn : ∀ g, v.ownBlock = some g → ¬ G g) : OwnF F c z e w' v L := h.keep fun g hg => hb.block g (h.lt g hg) (hn g hg)
theorem OwnF.own {B : Nat} {w : World} {v : Value} {L : List α} (h : OwnF (fun b => B ≤ b) c z e w v L) : w.ownsRow B e z v L.length (L.flatMap c) := by
  refine ⟨h.1.1, ?_⟩
  rcases h.1.2 with q | ⟨g, cap, cur, q1, q2, q3, q4⟩
  · exact .inl q
  · exact .inr ⟨g, cap, cur, q1, h.2 g (by rw [q1]; rfl), q3, q4⟩
theorem OwnF.of {B : Nat} {w : World} {v : Value} {L : List α} (h : w.ownsRow B e z v L.length (L.flatMap c)) : OwnF (fun b => B ≤ b) c z e w v L := by
  refine ⟨ownG_le h (Nat.zero_le _), fun g hg => ?_⟩
  rcases h.2 with ⟨q, _⟩ | ⟨g', cap, cur, q1, q2, q3, q4⟩
  · rw [q] at hg; simp [Value.ownBlock] at hg
  · rw [q1] at hg; simp [Value.ownBlock] at hg; omega
theorem OwnF.typed {w : World} {v : Value} {L : List α} (h : OwnF F c z e w v L) {k : Nat} (hk : v.ownBlock = some k) : ∃ cur, w.heap[k]? = some (.cells cur e (0, 0)) := by
  rcases h.1.2 with ⟨q, q'⟩ | ⟨g, cap, cur, q1, q2, q3, q4⟩
  · rw [q] at hk; simp [Value.ownBlock] at hk
  · rw [q1] at hk; simp [Value.ownBlock] at hk; subst hk; exact ⟨cur, q3⟩
theorem OwnF.form {w : World} {v : Value} {L : List α} (h : OwnF F c z e w v L) : ∃ ao cap, v = .slice ao L.length cap ∧ L.length ≤ cap := by
  rcases h.1.2 with ⟨q, q'⟩ | ⟨g, cap, cur, q1, q2, q3, q4, _⟩
  · exact ⟨none, 0, by rw [q, q'], by omega⟩
  · exact ⟨_, cap, q1, q4⟩
/-- what an append gives -/
theorem OwnF.grown {W w' : World} {v v' : Value} {L M : List α} {n : Nat} (hF : ∀ b, W.heap.size ≤ b → F b) (hO : OwnF F c z e W v L) (hn : n = L.length + M.length) (h : w'.ownsRow 0 e z v' n (L.flatMap c ++ M.flatMap c)) (hg : W.grownBy w' v.ownBlock) (hat : v'.ownBlock = v.ownBlock ∨ v'.ownBlock = some W.heap.size) : OwnF F c z e w' v' (L ++ M) ∧ Kp F W w' := by
  refine ⟨⟨?_, ?_⟩, Kp.grown hg (fun k hk => hO.2 k hk)⟩
  · rw [List.length_append, List.flatMap_append, ← hn]; exact h
  · intro g hgg
    rcases hat with q | q
    · exact hO.2 g (by rw [← q]; exact hgg)
    · rw [q] at hgg; injection hgg with hgg; exact hF g (by omega)
theorem wpG_all {ops : Array Oper} {rest : List Oper} {o : Oper} {a : Act} {W : World} {Q : Exit → Act → World → Prop} (E : El c z e sl bytes) (hgd : o.guard = none) (x y : Operand) (ho : o.op = .call { callee := .builtin .append, args := #[x, y], argTypes := #[sl, sl] })
    (v u : Value) (L M : List α) (hx : a.eval x = v) (hy : a.eval y = u) (hO : OwnF F c z e W v L) (hR : RowG c W u M) (hone : ∀ m ∈ M, ∀ u ∈ c m, u.oneCell' = true) (hl : (L.length + M.length) * (bytes + 1) ≤ 140737488355328) (hF : ∀ b, W.heap.size ≤ b → F b)
    (h : ∀ v' w', OwnF F c z e w' v' (L ++ M) → Kp (fun k => v.ownBlock = some k) W w' → (∀ g, v'.ownBlock = some g → v.ownBlock = some g ∨ W.heap.size ≤ g) → wpList Tryd.prog ops Q rest (a.put o.dst v') w') : wpList Tryd.prog ops Q (o :: rest) a W := by
  obtain ⟨zv, hinf, hzs⟩ := E.info
  obtain ⟨i0, hi, hz0, hz1, hz2⟩ := info_parts hinf
  have hl1 : L.length + M.length ≤ 140737488355328 := Nat.le_trans (Nat.le_mul_of_pos_right _ (by omega)) hl
  have hl2 : (L.length + M.length) * bytes ≤ 140737488355328 := Nat.le_trans (Nat.mul_le_mul_left _ (by omega)) hl
  obtain ⟨ao, cap, ev, h1, h2, h3, h4⟩ := hR
  cases ao with
  | none =>
    have hc := h3 rfl
    subst hc
    have hM : M = [] := List.eq_nil_of_length_eq_zero (by omega)
    subst hM
    refine wpList_append_own_none hgd x y sl ho 0 e i0 z E.sl hi v L.length (L.flatMap c) hx hO.1 (by rw [hy, ev]; rfl) ?_
    exact h v W (by rw [List.append_nil]; exact hO) (Kp.refl _ _) (fun g hg => .inl hg)
  | some ad =>
    have hcl : ∀ j u, (M.flatMap c)[j]? = some u → W.cell? (ad.add j) = some u := by
      intro j u hu
      have hj : j < (M.flatMap c).length := (List.getElem?_eq_some_iff.1 hu).1
      have hp : 0 < M.length := by
        cases M with
        | nil => simp at hj
        | cons _ _ => simp
      obtain ⟨b, off, e2, hc⟩ := h4 hp
      injection e2 with e2
      subst e2
      rw [Addr.add_mid]
      exact hc j u hu
    refine wpList_append_own_at _ hgd x y sl ho 0 e i0 zv z bytes E.sl hi hz0 hz1 hz2 hzs E.pos v L.length (L.flatMap c) hx hO.1 ad M.length cap (M.flatMap c) (by rw [hy, ev]) (flatG_len c z E.len M) hcl (by
      intro u hu
      obtain ⟨m, hm, hum⟩ := List.mem_flatMap.1 hu
      exact hone m hm u hum) (by unfold maxLen; omega) hl2 (Nat.zero_le _) ?_
    intro v' w' o1 g1 _ hat
    obtain ⟨k1, k2⟩ := OwnF.grown hF hO rfl o1 g1 hat
    exact h v' w' k1 (Kp.grown g1 (fun k hk => hk)) (fun g hg => by
      rcases hat with q | q
      · exact .inl (by rw [← q]; exact hg)
      · rw [q] at hg; injection hg with hg; exact .inr (by omega))
theorem rowG_new (E : El c z e sl bytes) (W : World) (x : α) (cs : Array Value) (hcs : cs.toList = c x) : RowG c (W.alloc (.cells cs e)) (.slice (some ⟨W.heap.size, 0, none⟩) 1 1) [x] := by
  refine ⟨_, 1, rfl, by simp, by decide, by simp, fun _ => ⟨W.heap.size, 0, rfl, fun j u hu => ?_⟩⟩
  have := new_rowK W cs e _ hcs j u (by simpa using hu)
  rw [Addr.add_mid] at this
  exact this
theorem wpG_one {ops : Array Oper} {rest : List Oper} {o : Oper} {a : Act} {W : World} {Q : Exit → Act → World → Prop} (E : El c z e sl bytes) (hgd : o.guard = none) (x y : Operand) (ho : o.op = .call { callee := .builtin .append, args := #[x, y], argTypes := #[sl, sl] })
    (v : Value) (L : List α) (m : α) (cs : Array Value) (hcs : cs.toList = c m) (hx : a.eval x = v) (hy : a.eval y = .slice (some ⟨W.heap.size, 0, none⟩) 1 1) (hO : OwnF F c z e W v L) (hone : ∀ u ∈ c m, u.oneCell' = true) (hl : (L.length + 1) * (bytes + 1) ≤ 140737488355328) (hF : ∀ b, W.heap.size ≤ b → F b)
    (h : ∀ v' w', OwnF F c z e w' v' (L ++ [m]) → Kp (fun k => v.ownBlock = some k) W w' → (∀ g, v'.ownBlock = some g → v.ownBlock = some g ∨ W.heap.size ≤ g) → wpList Tryd.prog ops Q rest (a.put o.dst v') w') : wpList Tryd.prog ops Q (o :: rest) a (W.alloc (.cells cs e)) := by
  have hb : Below W.heap.size W (W.alloc (.cells cs e)) := (Below.refl _ _).alloc (Nat.le_refl _) _
  refine wpG_all E hgd x y ho v _ L [m] hx hy (hO.on hb) (rowG_new E W m cs hcs) (by intro q hq; simp at hq; subst hq; exact hone) hl (fun b hh => hF b (by rw [World.size_alloc] at hh; omega)) ?_
  intro v' w' h1 h2 h3
  exact h v' w' h1 ((Kp.of_below hb).trans h2) (fun g hg => (h3 g hg).imp id (fun hh => by rw [World.size_alloc] at hh; omega))
end
end Go.Proofs.YtmlnnbinbbmmhaaDoor

-- The document's layout: the small ones, names.
namespace Go.Proofs.YtmlnnbinbbmmhaaDoor
open Go.ChangeShapes Go.WideShapes Go.ChangeAt Go.RowKit
set_option linter.unusedVariables false
set_option maxRecDepth 100000
theorem elTy : El txL 1 9 34 16 := ⟨Tryd.underlying34, ⟨.string ⟨#[]⟩, by kernel_rfl, rfl⟩, txL_len, by decide⟩
theorem elIy : El nmL 1 3 25 8 := ⟨Tryd.underlying25, ⟨.int .i64 0, by kernel_rfl, rfl⟩, nmL_len, by decide⟩
theorem elSp : El enL 2 24 22 24 := ⟨Tryd.underlying22, ⟨.agg #[.string ⟨#[]⟩, .int .i64 0], by kernel_rfl, rfl⟩, enL_len, by decide⟩
theorem reven_c (n : Int) (w : World) (h0 : 0 ≤ n) (h1 : n ≤ 4611686018427387904) : Calls Tryd.prog 36 #[.int .i64 n] w fun e w' => e = .returned (.int .i64 (evN n)) ∧ w' = w := by
  have hw : IntKind.i64.wrap (n + n % 2) = n + n % 2 := by rw [IntKind.wrap_i64]; omega
  go_enter Tryd.func36, Tryd.ntmps36
  go_wp2
  go_ret
  exact ⟨rfl, rfl⟩
theorem known_c (k : Int) (w : World) : Calls Tryd.prog 32 #[.int .i64 k] w fun e w' => e = .returned (.bool (kindB k)) ∧ w' = w := by
  by_cases h0 : k = 0
  · subst h0
    go_enter Tryd.func32, Tryd.ntmps32
    go_wp2
    go_ret
    exact ⟨rfl, rfl⟩
  · by_cases h1 : k = 1
    · subst h1
      go_enter Tryd.func32, Tryd.ntmps32
      go_wp2
      go_ret
      exact ⟨rfl, rfl⟩
    · have a0 : (k == 0) = false := by simpa using h0
      have a1 : (k == 1) = false := by simpa using h1
      have hk : kindB k = (k == 2) := by
        unfold kindB
        simp only [h0, h1, decide_false, Bool.false_or]
        rfl
      rw [hk]
      go_enter Tryd.func32, Tryd.ntmps32
      go_wp2
      go_ret
      exact ⟨rfl, rfl⟩
theorem nm_next {S : List Sp} {j : Nat} {x : Sp} (h : S[j]? = some x) : (nmS S).take (j + 1) = (nmS S).take j ++ [x.1] := by
  unfold nmS
  rw [List.take_add_one, List.getElem?_map, h]
  rfl
set_option maxHeartbeats 4000000 in
theorem namesOf_c (v : Value) (S : List Sp) (w : World) (hv : RowG enL w v S) (hn : S.length ≤ 1099999) :
    Calls Tryd.prog 33 #[v] w fun e w' => ∃ u, e = .returned u ∧ OwnF (fun b => w.heap.size ≤ b) txL 1 9 w' u (nmS S) ∧ Below w.heap.size w w' := by
  obtain ⟨a1, c1, q1, hcap, hmx⟩ := hv.form
  obtain ⟨n, hnn⟩ : ∃ n, n = S.length := ⟨_, rfl⟩
  rw [← hnn] at q1 hcap hn
  subst q1
  have HN := hidK hnn
  have HV : Hid (∀ W, Below w.heap.size w W → RowG enL W (.slice a1 n c1) S) := fun W hb => hv.on hb
  clear hv hnn
  go_enter Tryd.func33, Tryd.ntmps33
  go_wp2
  go_loopw [3, 4] (fun o i wx => ∃ j : Nat, i = .int .i64 j ∧ j ≤ n ∧ OwnF (fun b => w.heap.size ≤ b) txL 1 9 wx o ((nmS S).take j) ∧ Below w.heap.size w wx) (fun _ i _ => n - (intOf i).toNat)
  case atStart => exact ⟨0, rfl, Nat.zero_le _, OwnF.nil, Below.refl _ _⟩
  case round =>
    obtain ⟨j, rfl, hjn, ho, hB⟩ := hrel
    obtain ⟨wo, hwo⟩ : ∃ y, y = wr := ⟨_, rfl⟩
    subst hwo
    have HO := hidK ho
    have HB := hidK hB
    clear ho
    by_cases hj : j < n
    · have jI : (j : Int) < (n : Int) := by omega
      have j0 : (0 : Int) ≤ (j : Int) := by omega
      have jw : IntKind.i64.wrap ((j : Int) + 1) = (j : Int) + 1 := by rw [IntKind.wrap_i64]; omega
      obtain ⟨⟨nm, z⟩, hx⟩ : ∃ x, S[j]? = some x := ⟨_, List.getElem?_eq_getElem (by have := HN.out; omega)⟩
      obtain ⟨b1, o1, p1, e1, d0, d1⟩ := (HV.out wo hB).en hx
      injection e1 with e1 e1b e1c
      subst e1
      simp only at d0 d1
      have HNX := hidK (nm_next hx)
      have HSM : Hid ((((nmS S).take j).length + 1) * (16 + 1) ≤ 140737488355328) := by show _ ≤ _; rw [List.length_take]; omega
      have HF : Hid (∀ b, wo.heap.size ≤ b → w.heap.size ≤ b) := fun b hb => Nat.le_trans hB.size hb
      clear hx e1b e1c hB d1
      go_wp2_with (at_builtin; refine wpG_one (F := fun b => w.heap.size ≤ b) elTy rfl (.tmp 11) (.tmp 17) rfl u3 ((nmS S).take j) nm #[.string nm] rfl rfl rfl HO.out (txL_one nm) HSM.out HF.out ?_; intro v9 w9 o9 k9 l9; have HO9 := hidK o9; have HK9 := hidK k9; clear o9 k9 l9)
      go_roundw
      case rel => exact ⟨j + 1, by go_num, by omega, by rw [HNX.out]; exact HO9.out, HB.out.trans (HK9.out.below (fun k hk => HO.out.2 k hk) HB.out.size)⟩
      case measure => simp [intOf]; omega
    · obtain rfl : j = n := by omega
      have HT : Hid ((nmS S).take j = nmS S) := by show _ = _; rw [List.take_of_length_le]; unfold nmS; rw [List.length_map, ← HN.out]; exact Nat.le_refl _
      clear hB
      go_wp2
      go_ret
      exact ⟨u3, rfl, by rw [← HT.out]; exact HO.out, HB.out⟩
end Go.Proofs.YtmlnnbinbbmmhaaDoor

-- LaySums: its small ones.
namespace Go.Proofs.YtmlnnbinbbmmhaaDoor
open Go.ChangeShapes Go.WideShapes Go.ChangeAt Go.RowKit
set_option linter.unusedVariables false
set_option maxRecDepth 100000
theorem valid10_c (s : ByteArray) (w : World) (hm : s.size ≤ maxLen) :
    Calls Tryd.prog 8 #[.string s] w fun e w' => e = .returned (.bool (validL s.data.toList)) ∧ w' = w := by
  unfold maxLen at hm
  go_enter Tryd.func8, Tryd.ntmps8
  go_wp2
  go_loop [3] (fun i => ∃ k : Nat, k ≤ s.size ∧ i = .int .i64 k ∧ okUp s.data.toList k) (fun i => s.size - (intOf i).toNat)
  case atStart => exact ⟨0, Nat.zero_le _, rfl, fun j c hj => absurd hj (Nat.not_lt_zero _)⟩
  case round =>
    obtain ⟨k, hk, rfl, hd⟩ := hrel
    have HD : Hid (okUp s.data.toList k) := hd
    clear hd
    by_cases hlt : k < s.size
    · have hidx := idx s k hlt
      have hat : Hid (s.data.toList[k]? = some s[k]) := at_some s k hlt
      by_cases h1 : s[k].toNat = 47
      · have c1 : ((s[k].toNat : Int) == 47) = true := by simp; omega
        have HV : Hid (validL s.data.toList = false) := validL_no _ k _ hat.out (Or.inl h1)
        clear h1
        go_wp2
        go_ret
        exact ⟨by rw [HV.out]; rfl, rfl⟩
      · have c1 : ((s[k].toNat : Int) == 47) = false := by simp; omega
        by_cases h2 : s[k].toNat = 0
        · have c2 : ((s[k].toNat : Int) == 0) = true := by simp; omega
          have HV : Hid (validL s.data.toList = false) := validL_no _ k _ hat.out (Or.inr h2)
          clear h1 h2
          go_wp2
          go_ret
          exact ⟨by rw [HV.out]; rfl, rfl⟩
        · have c2 : ((s[k].toNat : Int) == 0) = false := by simp; omega
          have HN : Hid (¬ s[k].toNat = 47 ∧ ¬ s[k].toNat = 0) := ⟨h1, h2⟩
          clear h1 h2
          go_wp2
          go_round
          case rel => exact ⟨k + 1, by omega, by go_num, okUp_next s k hlt HD.out HN.out.1 HN.out.2⟩
          case measure => simp [intOf]; omega
    · obtain rfl : k = s.size := by omega
      have HV : Hid (validL s.data.toList = !s.data.toList.isEmpty) := okUp_end s HD.out
      by_cases h0 : s.toList = []
      · have h0' : s.toList.isEmpty = true := by rw [h0]; rfl
        have HE : Hid (s.data.toList.isEmpty = true) := by show _ = true; rw [← Lib.toList_data]; exact h0'
        go_wp2
        go_ret
        exact ⟨by rw [HV.out, HE.out]; rfl, rfl⟩
      · have h0' : s.toList.isEmpty = false := by simpa using h0
        have e1 : (s.toList != []) = true := by simpa using h0
        have e0 : (s.toList == []) = false := by simpa using h0
        have HE : Hid (s.data.toList.isEmpty = false) := by show _ = false; rw [← Lib.toList_data]; exact h0'
        clear h0
        go_wp2
        go_ret
        exact ⟨by rw [HV.out, HE.out]; rfl, rfl⟩
theorem even10_c (n : Int) (w : World) (h0 : 0 ≤ n) (h1 : n ≤ 4611686018427387904) : Calls Tryd.prog 12 #[.int .i64 n] w fun e w' => e = .returned (.int .i64 (evN n)) ∧ w' = w := by
  have hw : IntKind.i64.wrap (n + n % 2) = n + n % 2 := by rw [IntKind.wrap_i64]; omega
  go_enter Tryd.func12, Tryd.ntmps12
  go_wp2
  go_ret
  exact ⟨rfl, rfl⟩
set_option maxHeartbeats 4000000 in
theorem namesOf10_c (v : Value) (S : List Sp) (w : World) (hv : RowG enL w v S) (hn : S.length ≤ 1099999) :
    Calls Tryd.prog 11 #[v] w fun e w' => ∃ u, e = .returned u ∧ OwnF (fun b => w.heap.size ≤ b) txL 1 9 w' u (nmS S) ∧ Below w.heap.size w w' := by
  obtain ⟨a1, c1, q1, hcap, hmx⟩ := hv.form
  obtain ⟨n, hnn⟩ : ∃ n, n = S.length := ⟨_, rfl⟩
  rw [← hnn] at q1 hcap hn
  subst q1
  have HN := hidK hnn
  have HV : Hid (∀ W, Below w.heap.size w W → RowG enL W (.slice a1 n c1) S) := fun W hb => hv.on hb
  clear hv hnn
  go_enter Tryd.func11, Tryd.ntmps11
  go_wp2
  go_loopw [3, 4] (fun o i wx => ∃ j : Nat, i = .int .i64 j ∧ j ≤ n ∧ OwnF (fun b => w.heap.size ≤ b) txL 1 9 wx o ((nmS S).take j) ∧ Below w.heap.size w wx) (fun _ i _ => n - (intOf i).toNat)
  case atStart => exact ⟨0, rfl, Nat.zero_le _, OwnF.nil, Below.refl _ _⟩
  case round =>
    obtain ⟨j, rfl, hjn, ho, hB⟩ := hrel
    obtain ⟨wo, hwo⟩ : ∃ y, y = wr := ⟨_, rfl⟩
    subst hwo
    have HO := hidK ho
    have HB := hidK hB
    clear ho
    by_cases hj : j < n
    · have jI : (j : Int) < (n : Int) := by omega
      have j0 : (0 : Int) ≤ (j : Int) := by omega
      have jw : IntKind.i64.wrap ((j : Int) + 1) = (j : Int) + 1 := by rw [IntKind.wrap_i64]; omega
      obtain ⟨⟨nm, z⟩, hx⟩ : ∃ x, S[j]? = some x := ⟨_, List.getElem?_eq_getElem (by have := HN.out; omega)⟩
      obtain ⟨b1, o1, p1, e1, d0, d1⟩ := (HV.out wo hB).en hx
      injection e1 with e1 e1b e1c
      subst e1
      simp only at d0 d1
      have HNX := hidK (nm_next hx)
      have HSM : Hid ((((nmS S).take j).length + 1) * (16 + 1) ≤ 140737488355328) := by show _ ≤ _; rw [List.length_take]; omega
      have HF : Hid (∀ b, wo.heap.size ≤ b → w.heap.size ≤ b) := fun b hb => Nat.le_trans hB.size hb
      clear hx e1b e1c hB d1
      go_wp2_with (at_builtin; refine wpG_one (F := fun b => w.heap.size ≤ b) elTy rfl (.tmp 11) (.tmp 17) rfl u3 ((nmS S).take j) nm #[.string nm] rfl rfl rfl HO.out (txL_one nm) HSM.out HF.out ?_; intro v9 w9 o9 k9 l9; have HO9 := hidK o9; have HK9 := hidK k9; clear o9 k9 l9)
      go_roundw
      case rel => exact ⟨j + 1, by go_num, by omega, by rw [HNX.out]; exact HO9.out, HB.out.trans (HK9.out.below (fun k hk => HO.out.2 k hk) HB.out.size)⟩
      case measure => simp [intOf]; omega
    · obtain rfl : j = n := by omega
      have HT : Hid ((nmS S).take j = nmS S) := by show _ = _; rw [List.take_of_length_le]; unfold nmS; rw [List.length_map, ← HN.out]; exact Nat.le_refl _
      clear hB
      go_wp2
      go_ret
      exact ⟨u3, rfl, by rw [← HT.out]; exact HO.out, HB.out⟩
def withinB (n m : Int) : Bool := decide (0 ≤ n) && decide (n ≤ m)
theorem within10_c (n m : Int) (w : World) : Calls Tryd.prog 9 #[.int .i64 n, .int .i64 m] w fun e w' => e = .returned (.bool (withinB n m)) ∧ w' = w := by
  by_cases h0 : 0 ≤ n
  · have a0 : n ≥ 0 := h0
    have hk : withinB n m = decide (n ≤ m) := by unfold withinB; simp [h0]
    rw [hk]
    clear h0 hk
    go_enter Tryd.func9, Tryd.ntmps9
    go_wp2
    go_ret
    exact ⟨rfl, rfl⟩
  · have a0 : ¬ (n ≥ 0) := h0
    have hk : withinB n m = false := by unfold withinB; simp [h0]
    rw [hk]
    clear hk
    go_enter Tryd.func9, Tryd.ntmps9
    go_wp2
    go_ret
    exact ⟨rfl, rfl⟩
theorem isz_name (k : Int) (LL : List ByteArray) (j : Nat) : isz (encA k LL).i j ≤ (LL.getD j .empty).size := by
  unfold isz encA
  split
  · split
    · show ((iL k LL).getD j ⟨#[]⟩).size ≤ _
      unfold iL
      by_cases hj : j < LL.length
      · rw [List.getD_eq_getElem?_getD, List.getElem?_map, List.getElem?_range hj]
        show (strL _).size ≤ _
        rw [strL_size]
        unfold iAt inlOf
        have e : ((LL.map (·.data.toList)).getD j []).length = (LL.getD j .empty).size := by
          rw [List.getD_eq_getElem?_getD, List.getD_eq_getElem?_getD, List.getElem?_map, List.getElem?_eq_getElem hj]
          simp
        split
        · omega
        · simp
      · rw [List.getD_eq_getElem?_getD, List.getElem?_eq_none (by simp; omega)]
        exact Nat.zero_le _
    · exact Nat.zero_le _
  · exact Nat.zero_le _
/-- lists that Plan must take -/
theorem must_take {k ix : Int} {S : List Sp} (hk : kindB k = true) (hix : ix = -1 ∨ sizeB ix = true) (hn : S.length ≤ 65536) (h : ∀ (j : Nat) (x : Sp), S[j]? = some x → validL x.1.data.toList = true ∧ withinB x.2 9998999999 = true ∧ x.1.size ≤ 60000) :
    (encA k (nmS S)).e = 0 ∧ sizesB S (encA k (nmS S)).i = true ∧ planA k S ix = layN k S ix (encA k (nmS S)) := by
  have he : (encA k (nmS S)).e = 0 := by
    unfold encA
    rw [if_pos (kindB_iff.1 hk), if_pos (all_good (fun j x hx => (h j x hx).1))]
  have hs : sizesB S (encA k (nmS S)).i = true := by
    unfold sizesB
    rw [List.all_eq_true]
    intro j hj
    rw [List.mem_range] at hj
    have hx := List.getElem?_eq_getElem hj
    obtain ⟨_, h2, h3⟩ := h j _ hx
    have hz := isz_name k (nmS S) j
    have hg : ((nmS S).getD j .empty) = S[j].1 := by rw [List.getD_eq_getElem?_getD, nm_at hx]; rfl
    rw [hg] at hz
    rw [spz_at hx]
    unfold withinB at h2
    rw [Bool.and_eq_true, decide_eq_true_eq, decide_eq_true_eq] at h2
    rw [Bool.and_eq_true, sizeB_iff, sizeB_iff]
    omega
  refine ⟨he, hs, ?_⟩
  unfold planA
  rw [if_pos ⟨hk, hix, hn⟩, if_pos he, if_pos hs]
end Go.Proofs.YtmlnnbinbbmmhaaDoor
