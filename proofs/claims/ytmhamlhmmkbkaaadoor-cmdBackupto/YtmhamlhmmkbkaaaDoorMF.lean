
-- Maps: a map from texts to numbers as a function.
import Derived.Test.YtmhamlhmmkbkaaaDoorA0
import Derived.Maps.RangeWalk
namespace Go.Proofs.YtmhamlhmmkbkaaaDoor
open Go.RowKit Go.MapKept Go.ChangeMaps
set_option linter.unusedVariables false
set_option maxRecDepth 100000
abbrev Prs := List (Value × Value)
def pr (e : MapEntry) : Value × Value := (e.key, e.val)
/-- Block b is a map, its keys of kind d, whose entries are those of l, in some order. -/
def MapAt (d : TypeDesc) (w : World) (b : Nat) (l : Prs) : Prop :=
  ∃ es clock, w.heap[b]? = some (.map es clock) ∧ Stamped es clock ∧ (∀ x ∈ es.toList, IsKey d x.key) ∧ (es.toList.map pr).Perm l
theorem MapAt.keep {d : TypeDesc} {w w' : World} {b : Nat} {l : Prs} (h : MapAt d w b l) (hk : w'.heap[b]? = w.heap[b]?) : MapAt d w' b l := by
  obtain ⟨es, clock, hb, r⟩ := h
  exact ⟨es, clock, hk.trans hb, r⟩
theorem MapAt.perm {d : TypeDesc} {w : World} {b : Nat} {l l' : Prs} (h : MapAt d w b l) (hp : l.Perm l') : MapAt d w b l' := by
  obtain ⟨es, clock, hb, hs, hk, hp'⟩ := h
  exact ⟨es, clock, hb, hs, hk, hp'.trans hp⟩
theorem MapAt.lt {d : TypeDesc} {w : World} {b : Nat} {l : Prs} (h : MapAt d w b l) : b < w.heap.size := by
  obtain ⟨es, clock, hb, _⟩ := h
  exact (Array.getElem?_eq_some_iff.1 hb).1
theorem MapAt.apart {d : TypeDesc} {w : World} {b : Nat} {l : Prs} (h : MapAt d w b l) : l.Pairwise fun p q => p.1 ≠ q.1 := by
  obtain ⟨es, clock, hb, hs, hk, hp⟩ := h
  refine (hp.pairwise_iff (fun {x y} (e : x.1 ≠ y.1) => e.symm)).1 ?_
  rw [List.pairwise_map]
  exact ((stamped_iff es clock).1 hs).2.2
theorem MapAt.made (d : TypeDesc) (w : World) : MapAt d (w.alloc (.map #[] 0)) w.heap.size [] :=
  ⟨#[], 0, (MapKept.heap_alloc w _).1, stamped_empty 0, by simp, by simp⟩
theorem MapAt.ne_cells {d : TypeDesc} {w : World} {b k : Nat} {l : Prs} (h : MapAt d w b l) {cs : Array Value} {t : TypeId} {fr : Nat × Nat} (hk : w.heap[k]? = some (.cells cs t fr)) : b ≠ k := by
  obtain ⟨es, clock, hb, _⟩ := h
  intro e; subst e; rw [hb] at hk; cases hk
/-- w' is w but for the entries of the map in block b. -/
def Turned (w w' : World) (b : Nat) : Prop := ∃ es clock es' clock', w.heap[b]? = some (.map es clock) ∧ w' = setBlock w b (.map es' clock')
theorem Turned.other {w w' : World} {b : Nat} (h : Turned w w' b) {k : Nat} (hk : k ≠ b) : w'.heap[k]? = w.heap[k]? := by
  obtain ⟨es, clock, es', clock', hb, rfl⟩ := h
  exact heap_setBlock_other hb _ hk
theorem Turned.size {w w' : World} {b : Nat} (h : Turned w w' b) : w'.heap.size = w.heap.size := by
  obtain ⟨es, clock, es', clock', hb, rfl⟩ := h
  simp [setBlock]
theorem Turned.os {w w' : World} {b : Nat} (h : Turned w w' b) : w'.os = w.os ∧ w'.tape = w.tape ∧ w'.output = w.output := by
  obtain ⟨es, clock, es', clock', hb, rfl⟩ := h
  exact ⟨rfl, rfl, rfl⟩
theorem MapAt.refl {d : TypeDesc} {w : World} {b : Nat} {l : Prs} (h : MapAt d w b l) : Turned w w b := by
  obtain ⟨es, clock, hb, _⟩ := h
  refine ⟨es, clock, es, clock, hb, ?_⟩
  have e : w.heap.setIfInBounds b (.map es clock) = w.heap := by
    apply Array.ext_getElem?
    intro i
    by_cases hi : i = b
    · subst hi; exact (heap_setBlock_same hb _).trans hb.symm
    · exact heap_setBlock_other hb _ hi
  unfold setBlock; rw [e]
section
variable {P : Program} {w : World} {d : TypeDesc} {b : Nat} {l : Prs} {t k e : TypeId} {key : Value}
theorem MapAt.find (h : MapAt d w b l) (hd : P.underlying k = some d) (hkey : IsKey d key) : ∃ es clock, w.heap[b]? = some (.map es clock) ∧ Stamped es clock ∧ (∀ x ∈ es.toList, IsKey d x.key) ∧ (es.toList.map pr).Perm l ∧
    (((Instr.findKey k key es.toList).run P w = .ok none w ∧ ∀ x ∈ es.toList, x.key ≠ key) ∨ ∃ j x, (Instr.findKey k key es.toList).run P w = .ok (some (j, x.val)) w ∧ es.toList[j]? = some x ∧ x.key = key) := by
  obtain ⟨es, clock, hb, hs, hk, hp⟩ := h
  refine ⟨es, clock, hb, hs, hk, hp, ?_⟩
  rcases findNow_spec hkey es.toList 0 hk with ⟨h1, h2⟩ | ⟨j, x, h1, h2, h3⟩
  · exact .inl ⟨run_findKey hd h1, h2⟩
  · exact .inr ⟨j, x, by simpa using run_findKey hd h1, h2, h3⟩
theorem MapAt.look (c : Bool) (h : MapAt d w b l) (ht : P.underlying t = some (.map k e)) (hd : P.underlying k = some d) (hkey : IsKey d key) {v : Value} (hv : (key, v) ∈ l) :
    (Instr.lookup t (.map (some b)) key c).run P w = .ok (if c then .tuple #[v, .bool true] else v) w := by
  have hap := h.apart
  obtain ⟨es, clock, hb, hs, hk, hp, hf⟩ := h.find hd hkey
  rcases hf with ⟨h1, h2⟩ | ⟨j, x, h1, h2, h3⟩
  · obtain ⟨y, hy, hyv⟩ := List.mem_map.1 (hp.mem_iff.2 hv)
    exact absurd (congrArg Prod.fst hyv) (h2 y hy)
  · have hx : (x.key, x.val) ∈ l := hp.mem_iff.1 (List.mem_map.2 ⟨x, List.mem_of_getElem? h2, rfl⟩)
    have hxv : x.val = v := by
      by_cases hne : x.val = v
      · exact hne
      · obtain ⟨i1, e1⟩ := List.getElem?_of_mem hx
        obtain ⟨i2, e2⟩ := List.getElem?_of_mem hv
        obtain ⟨l1, f1⟩ := List.getElem?_eq_some_iff.1 e1
        obtain ⟨l2, f2⟩ := List.getElem?_eq_some_iff.1 e2
        have hall := List.pairwise_iff_getElem.1 hap
        rcases Nat.lt_trichotomy i1 i2 with hl | hl | hl
        · exact absurd (by rw [f1, f2]; exact h3) (hall i1 i2 l1 l2 hl)
        · subst hl; rw [f1] at f2; exact congrArg Prod.snd f2
        · exact absurd (by rw [f1, f2]; exact h3.symm) (hall i2 i1 l2 l1 hl)
    rw [hxv] at h1
    simp [Instr.lookup, run_underlying ht, MapKept.run_getObj_map hb, run_checkKey hd hkey, h1, Result.andThen]
theorem MapAt.look_no (c : Bool) (h : MapAt d w b l) (ht : P.underlying t = some (.map k e)) (hd : P.underlying k = some d) (hkey : IsKey d key) (hv : ∀ p ∈ l, p.1 ≠ key) {z : Value} (hz : (zeroValue e).run P w = .ok z w) :
    (Instr.lookup t (.map (some b)) key c).run P w = .ok (if c then .tuple #[z, .bool false] else z) w := by
  obtain ⟨es, clock, hb, hs, hk, hp, hf⟩ := h.find hd hkey
  rcases hf with ⟨h1, h2⟩ | ⟨j, x, h1, h2, h3⟩
  · simp [Instr.lookup, run_underlying ht, MapKept.run_getObj_map hb, run_checkKey hd hkey, h1, hz, Result.andThen]
  · exact absurd h3 (hv (x.key, x.val) (hp.mem_iff.1 (List.mem_map.2 ⟨x, List.mem_of_getElem? h2, rfl⟩)))
theorem look_nil (c : Bool) (ht : P.underlying t = some (.map k e)) (hd : P.underlying k = some d) (hkey : IsKey d key) {z : Value} (hz : (zeroValue e).run P w = .ok z w) :
    (Instr.lookup t (.map none) key c).run P w = .ok (if c then .tuple #[z, .bool false] else z) w := by
  have hf : (Instr.findKey k key []).run P w = .ok none w := run_findKey hd rfl
  simp [Instr.lookup, run_underlying ht, run_checkKey hd hkey, hf, hz, Result.andThen]
theorem MapAt.len (h : MapAt d w b l) (ht : P.underlying t = some (.map k e)) (ty : TypeId) : (Builtin.len_ #[t] ty #[.map (some b)]).run P w = .ok (.int .i64 l.length) w := by
  obtain ⟨es, clock, hb, hs, hk, hp⟩ := h
  have hl : es.size = l.length := by rw [← hp.length_eq]; simp
  rw [← hl]
  simp [Builtin.len_, run_underlying ht, MapKept.run_getObj_map hb, goInt, Result.andThen]
theorem len_nil (ht : P.underlying t = some (.map k e)) (ty : TypeId) : (Builtin.len_ #[t] ty #[.map none]).run P w = .ok (.int .i64 0) w := by
  simp [Builtin.len_, run_underlying ht, goInt, Result.andThen]
theorem MapAt.clear (h : MapAt d w b l) (ht : P.underlying t = some (.map k e)) (ty : TypeId) : ∃ w', (Builtin.clear_ #[t] ty #[.map (some b)]).run P w = .ok (.tuple #[]) w' ∧ MapAt d w' b [] ∧ Turned w w' b := by
  obtain ⟨es, clock, hb, hs, hk, hp⟩ := h
  refine ⟨setBlock w b (.map #[] clock), ?_, ⟨#[], clock, heap_setBlock_same hb _, stamped_empty _, by simp, by simp⟩, es, clock, _, _, hb, rfl⟩
  simp [Builtin.clear_, run_underlying ht, MapKept.run_getObj_map hb, MapKept.run_setObj_map _ hb, Result.andThen, setBlock]
theorem clear_nil (ht : P.underlying t = some (.map k e)) (ty : TypeId) : (Builtin.clear_ #[t] ty #[.map none]).run P w = .ok (.tuple #[]) w := by
  simp [Builtin.clear_, run_underlying ht, Result.andThen]
theorem modify_set {α : Type} (l : List α) (j : Nat) (f : α → α) {x : α} (h : l[j]? = some x) : l.modify j f = l.set j (f x) := ChangeMaps.modify_eq_set _ _ _ _ h
theorem perm_erase {α : Type} : ∀ {l : List α} {j : Nat} {x : α}, l[j]? = some x → l.Perm (x :: l.eraseIdx j)
  | [], _, _, h => by simp at h
  | a :: r, 0, x, h => by simp at h; subst h; simp
  | a :: r, j + 1, x, h => by
    have := perm_erase (l := r) (j := j) (x := x) (by simpa using h)
    simp only [List.eraseIdx_cons_succ]
    exact (this.cons a).trans (List.Perm.swap _ _ _)
theorem perm_set {α : Type} : ∀ {l : List α} {j : Nat} {x : α} (y : α), l[j]? = some x → (l.set j y).Perm (y :: l.eraseIdx j)
  | [], _, _, _, h => by simp at h
  | a :: r, 0, x, y, h => by simp
  | a :: r, j + 1, x, y, h => by
    have := perm_set (l := r) (j := j) (x := x) y (by simpa using h)
    simp only [List.eraseIdx_cons_succ, List.set_cons_succ]
    exact (this.cons a).trans (List.Perm.swap _ _ _)
theorem MapAt.store_new (h : MapAt d w b l) (ht : P.underlying t = some (.map k e)) (hd : P.underlying k = some d) (hkey : IsKey d key) (hv : ∀ p ∈ l, p.1 ≠ key) (val : Value) :
    ∃ w', (Instr.mapUpdate t (.map (some b)) key val).run P w = .ok () w' ∧ MapAt d w' b ((key, val) :: l) ∧ Turned w w' b := by
  obtain ⟨es, clock, hb, hs, hk, hp, hf⟩ := h.find hd hkey
  rcases hf with ⟨h1, h2⟩ | ⟨j, x, h1, h2, h3⟩
  · refine ⟨setBlock w b (.map (es.push ⟨key, val, clock⟩) (clock + 1)), ?_, ⟨_, _, heap_setBlock_same hb _, stamped_push hs h2, ?_, ?_⟩, es, clock, _, _, hb, rfl⟩
    · simp [Instr.mapUpdate, run_underlying ht, MapKept.run_getObj_map hb, run_checkKey hd hkey, h1, MapKept.run_setObj_map _ hb, Result.andThen, setBlock]
    · intro x hx
      simp only [Array.toList_push, List.mem_append, List.mem_singleton] at hx
      rcases hx with hx | rfl
      · exact hk x hx
      · exact hkey
    · rw [Array.toList_push, List.map_append]
      exact (List.perm_append_singleton _ _).trans (hp.cons _)
  · exact absurd h3 (hv (x.key, x.val) (hp.mem_iff.1 (List.mem_map.2 ⟨x, List.mem_of_getElem? h2, rfl⟩)))
theorem map_erase {α β : Type} (f : α → β) (l : List α) (j : Nat) : (l.eraseIdx j).map f = (l.map f).eraseIdx j := ChangeMaps.map_eraseIdx f l j
theorem MapAt.old {es : Array MapEntry} {v : Value} {l0 : Prs} (hap : l.Pairwise fun p q => p.1 ≠ q.1) (hp : (es.toList.map pr).Perm l) (hl : l.Perm ((key, v) :: l0)) {j : Nat} {x : MapEntry} (h2 : es.toList[j]? = some x) (h3 : x.key = key) : ((es.toList.eraseIdx j).map pr).Perm l0 := by
  rw [map_erase]
  have h4 : (es.toList.map pr)[j]? = some (pr x) := by simp [h2]
  have h5 := (perm_erase h4).symm.trans (hp.trans hl)
  have hxm : pr x ∈ (key, v) :: l0 := h5.mem_iff.1 (by simp)
  have hap2 := (hl.pairwise_iff (fun {x y} (e : x.1 ≠ y.1) => e.symm)).1 hap
  have hxe : pr x = (key, v) := by
    rcases List.mem_cons.1 hxm with h | h
    · exact h
    · exact absurd h3.symm ((List.pairwise_cons.1 hap2).1 _ h)
  rw [hxe] at h5
  exact (List.perm_cons _).1 h5
theorem MapAt.store_old (h : MapAt d w b l) (ht : P.underlying t = some (.map k e)) (hd : P.underlying k = some d) (hkey : IsKey d key) {v : Value} {l0 : Prs} (hl : l.Perm ((key, v) :: l0)) (val : Value) :
    ∃ w', (Instr.mapUpdate t (.map (some b)) key val).run P w = .ok () w' ∧ MapAt d w' b ((key, val) :: l0) ∧ Turned w w' b := by
  have hap := h.apart
  obtain ⟨es, clock, hb, hs, hk, hp, hf⟩ := h.find hd hkey
  rcases hf with ⟨h1, h2⟩ | ⟨j, x, h1, h2, h3⟩
  · have : (key, v) ∈ l := hl.mem_iff.2 (by simp)
    obtain ⟨y, hy, hyv⟩ := List.mem_map.1 (hp.mem_iff.2 this)
    exact absurd (congrArg Prod.fst hyv) (h2 y hy)
  · have hj : es[j]? = some x := by simpa using h2
    have hlist : (es.modify j (fun e' => { e' with key := key, val := val })).toList = es.toList.set j { x with key := key, val := val } := by rw [Array.toList_modify, modify_set _ _ _ h2]
    refine ⟨setBlock w b (.map (es.modify j (fun e' => { e' with key := key, val := val })) clock), ?_, ⟨_, _, heap_setBlock_same hb _, stamped_modify hs _ _ (fun _ _ => rfl) (fun e' _ he' => by rw [hj] at he'; cases he'; exact h3.symm), ?_, ?_⟩, es, clock, _, _, hb, rfl⟩
    · simp [Instr.mapUpdate, run_underlying ht, MapKept.run_getObj_map hb, run_checkKey hd hkey, h1, hj, h3, run_keyThatStays hkey, MapKept.run_setObj_map _ hb, Result.andThen, setBlock]
    · intro y hy
      rw [hlist] at hy
      rcases List.mem_or_eq_of_mem_set hy with hy | rfl
      · exact hk y hy
      · exact hkey
    · rw [hlist, List.map_set]
      have h4 : (es.toList.map pr)[j]? = some (pr x) := by simp [h2]
      refine (perm_set _ h4).trans ?_
      rw [← map_erase]
      exact (MapAt.old hap hp hl h2 h3).cons _
end
section
variable {P : Program} (w : World) {ops : Array Oper} {rest : List Oper} {o : Oper} {a : Act} {Q : Exit → Act → World → Prop}
theorem wp_look (hg : o.guard = none) (m x : Operand) (t : TypeId) (c : Bool) (hop : o.op = Op.lookup t m x c) (mv key v : Value) (hm : a.eval m = mv) (hx : a.eval x = key) (hrun : (Instr.lookup t mv key c).run P w = .ok v w)
    (hK : wpList P ops Q rest (a.put o.dst v) w) : wpList P ops Q (o :: rest) a w := by
  refine wpList_plain hg fun K' hK' => ?_
  unfold Oper.wp
  simp [execOp, hop, hm, hx, hrun, Result.andThen]
  exact hK' _ _ hK
theorem wp_store (hg : o.guard = none) (m x v : Operand) (t : TypeId) (hop : o.op = Op.mapUpdate t m x v) (mv key val : Value) (hm : a.eval m = mv) (hx : a.eval x = key) (hv : a.eval v = val) (w' : World) (hrun : (Instr.mapUpdate t mv key val).run P w = .ok () w')
    (hK : wpList P ops Q rest (a.put o.dst undef) w') : wpList P ops Q (o :: rest) a w := by
  refine wpList_plain hg fun K' hK' => ?_
  unfold Oper.wp
  simp [execOp, hop, hm, hx, hv, hrun, Result.andThen]
  exact hK' _ _ hK
end
theorem key_s (s : ByteArray) : MapKept.IsKey .string (.string s) := trivial
/-- block b is a map that leads from texts to numbers as f does -/
def MapF (w : World) (b : Nat) (f : ByteArray → Option Int) : Prop :=
  ∃ l : Prs, MapAt .string w b l ∧ (∀ p ∈ l, ∃ n x, p = (.string n, .int .i64 x)) ∧ ∀ n x, (Value.string n, Value.int .i64 x) ∈ l ↔ f n = some x
theorem MapF.keep {w w' : World} {b : Nat} {f : ByteArray → Option Int} (h : MapF w b f) (hk : w'.heap[b]? = w.heap[b]?) : MapF w' b f := by
  obtain ⟨l, h1, h2, h3⟩ := h
  exact ⟨l, h1.keep hk, h2, h3⟩
theorem MapF.lt {w : World} {b : Nat} {f : ByteArray → Option Int} (h : MapF w b f) : b < w.heap.size := by
  obtain ⟨l, h1, _⟩ := h
  exact h1.lt
theorem MapF.on {w w' : World} {b : Nat} {f : ByteArray → Option Int} (h : MapF w b f) (hb : Below w.heap.size w w') : MapF w' b f := h.keep (hb.block b h.lt)
theorem MapF.made (w : World) : MapF (w.alloc (.map #[] 0)) w.heap.size (fun _ => none) :=
  ⟨[], MapAt.made _ w, fun p hp => by simp at hp, fun n x => by simp⟩
theorem MapF.ne_cells {w : World} {b k : Nat} {f : ByteArray → Option Int} (h : MapF w b f) {cs : Array Value} {t : TypeId} {fr : Nat × Nat} (hk : w.heap[k]? = some (.cells cs t fr)) : b ≠ k := by
  obtain ⟨l, h1, _⟩ := h
  exact h1.ne_cells hk
section
variable {P : Program} {w : World} {b : Nat} {f : ByteArray → Option Int} {t k e : TypeId}
theorem MapF.look (h : MapF w b f) (ht : P.underlying t = some (.map k e)) (hd : P.underlying k = some .string) {n : ByteArray} {x : Int} (hx : f n = some x) :
    (Instr.lookup t (.map (some b)) (.string n) true).run P w = .ok (.tuple #[.int .i64 x, .bool true]) w := by
  obtain ⟨l, h1, h2, h3⟩ := h
  exact h1.look true ht hd (key_s n) ((h3 n x).2 hx)
theorem MapF.look_no (h : MapF w b f) (ht : P.underlying t = some (.map k e)) (hd : P.underlying k = some .string) (hz : (zeroValue e).run P w = .ok (.int .i64 0) w) {n : ByteArray} (hx : f n = none) :
    (Instr.lookup t (.map (some b)) (.string n) true).run P w = .ok (.tuple #[.int .i64 0, .bool false]) w := by
  obtain ⟨l, h1, h2, h3⟩ := h
  refine h1.look_no true ht hd (key_s n) ?_ hz
  intro p hp e
  obtain ⟨m, x, rfl⟩ := h2 p hp
  injection e with e
  subst e
  rw [(h3 m x).1 hp] at hx
  cases hx
def upd (f : ByteArray → Option Int) (n : ByteArray) (x : Int) : ByteArray → Option Int := fun m => if m = n then some x else f m
theorem MapF.store (h : MapF w b f) (ht : P.underlying t = some (.map k e)) (hd : P.underlying k = some .string) (n : ByteArray) (x : Int) :
    ∃ w', (Instr.mapUpdate t (.map (some b)) (.string n) (.int .i64 x)).run P w = .ok () w' ∧ MapF w' b (upd f n x) ∧ Turned w w' b := by
  obtain ⟨l, h1, h2, h3⟩ := h
  have hap := h1.apart
  cases hf : f n with
  | none =>
    have hno : ∀ p ∈ l, p.1 ≠ Value.string n := by
      intro p hp e
      obtain ⟨m, y, rfl⟩ := h2 p hp
      injection e with e
      subst e
      rw [(h3 m y).1 hp] at hf
      cases hf
    obtain ⟨w', q1, q2, q3⟩ := h1.store_new ht hd (key_s n) hno (.int .i64 x)
    refine ⟨w', q1, ⟨_, q2, ?_, ?_⟩, q3⟩
    · intro p hp
      rcases List.mem_cons.1 hp with rfl | hp
      · exact ⟨n, x, rfl⟩
      · exact h2 p hp
    · intro m y
      rw [List.mem_cons]
      unfold upd
      by_cases hm : m = n
      · subst hm
        rw [if_pos rfl]
        constructor
        · rintro (e | e)
          · injection e with _ e; injection e with _ e; rw [e]
          · exact absurd rfl (hno _ e)
        · intro e; injection e with e; left; rw [e]
      · rw [if_neg hm, ← h3 m y]
        constructor
        · rintro (e | e)
          · injection e with e _; injection e with e; exact absurd e hm
          · exact e
        · exact Or.inr
  | some y0 =>
    have hmem := (h3 n y0).2 hf
    obtain ⟨l0, hl⟩ : ∃ l0, l.Perm ((Value.string n, Value.int .i64 y0) :: l0) := by
      obtain ⟨i, hi⟩ := List.getElem?_of_mem hmem
      exact ⟨_, perm_erase hi⟩
    obtain ⟨w', q1, q2, q3⟩ := h1.store_old ht hd (key_s n) hl (.int .i64 x)
    have hap2 := (hl.pairwise_iff (fun {x y} (e : x.1 ≠ y.1) => e.symm)).1 hap
    have hno : ∀ p ∈ l0, p.1 ≠ Value.string n := fun p hp e => (List.pairwise_cons.1 hap2).1 p hp e.symm
    have h2' : ∀ p ∈ l0, ∃ n x, p = (.string n, .int .i64 x) := fun p hp => h2 p (hl.mem_iff.2 (List.mem_cons_of_mem _ hp))
    refine ⟨w', q1, ⟨_, q2, ?_, ?_⟩, q3⟩
    · intro p hp
      rcases List.mem_cons.1 hp with rfl | hp
      · exact ⟨n, x, rfl⟩
      · exact h2' p hp
    · intro m y
      rw [List.mem_cons]
      unfold upd
      by_cases hm : m = n
      · subst hm
        rw [if_pos rfl]
        constructor
        · rintro (e | e)
          · injection e with _ e; injection e with _ e; rw [e]
          · exact absurd rfl (hno _ e)
        · intro e; injection e with e; left; rw [e]
      · rw [if_neg hm, ← h3 m y, hl.mem_iff, List.mem_cons]
        constructor
        · rintro (e | e)
          · injection e with e _; injection e with e; exact absurd e hm
          · exact .inr e
        · rintro (e | e)
          · injection e with e _; injection e with e; exact absurd e hm
          · exact .inr e
end
theorem Turned.grown {w w' : World} {b : Nat} (h : Turned w w' b) : w.grownBy w' (some b) := ⟨h.os.1, h.os.2.1, h.os.2.2, Nat.le_of_eq h.size.symm, fun k _ hk => h.other (fun e => hk (by rw [e]))⟩
end Go.Proofs.YtmhamlhmmkbkaaaDoor
