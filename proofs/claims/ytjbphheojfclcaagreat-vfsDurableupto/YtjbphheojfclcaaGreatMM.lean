
-- Maps: what is of no program. A map's block as a list of pairs, in whatever order.
import Derived.Test.YtjbphheojfclcaaGreatM0
import Derived.Maps.RangeWalk
namespace Go.Proofs.YtjbphheojfclcaaGreat
open Go.RowKit Go.MapKept Go.ChangeMaps
set_option linter.unusedVariables false
abbrev Prs := List (Value × Value)
def pr (e : MapEntry) : Value × Value := (e.key, e.val)
/-- Block b is a map, its keys of kind d, whose entries are those of l, in some order. -/
def MapAt (d : TypeDesc) (w : World) (b : Nat) (l : Prs) : Prop :=
  ∃ es clock, w.heap[b]? = some (.map es clock) ∧ Stamped es clock ∧ (∀ x ∈ es.toList, IsKey d x.key) ∧ (es.toList.map pr).Perm l
theorem MapAt.keep {d : TypeDesc} {w w' : World} {b : Nat} {l : Prs} (h : MapAt d w b l) (hk : w'.heap[b]? = w.heap[b]?) : MapAt d w' b l := by
  obtain ⟨es, clock, hb, r⟩ := h
  exact ⟨es, clock, hk.trans hb, r⟩
theorem MapAt.perm {d : TypeDesc} {w : World} {b : Nat} {l l' : Prs} (h : MapAt d w b l) (hp : l.Perm l') : MapAt d w b l' := by
  obtain ⟨es, clock, hb, hs, hk, hp'⟩ := h
  exact ⟨es, clock, hb, hs, hk, hp'.trans hp⟩
theorem MapAt.lt {d : TypeDesc} {w : World} {b : Nat} {l : Prs} (h : MapAt d w b l) : b < w.heap.size := by
  obtain ⟨es, clock, hb, _⟩ := h
  exact (Array.getElem?_eq_some_iff.1 hb).1
theorem MapAt.apart {d : TypeDesc} {w : World} {b : Nat} {l : Prs} (h : MapAt d w b l) : l.Pairwise fun p q => p.1 ≠ q.1 := by
  obtain ⟨es, clock, hb, hs, hk, hp⟩ := h
  refine (hp.pairwise_iff (fun {x y} (e : x.1 ≠ y.1) => e.symm)).1 ?_
  rw [List.pairwise_map]
  exact ((stamped_iff es clock).1 hs).2.2
theorem MapAt.made (d : TypeDesc) (w : World) : MapAt d (w.alloc (.map #[] 0)) w.heap.size [] :=
  ⟨#[], 0, (MapKept.heap_alloc w _).1, stamped_empty 0, by simp, by simp⟩
theorem MapAt.ne_cells {d : TypeDesc} {w : World} {b k : Nat} {l : Prs} (h : MapAt d w b l) {cs : Array Value} {t : TypeId} {fr : Nat × Nat} (hk : w.heap[k]? = some (.cells cs t fr)) : b ≠ k := by
  obtain ⟨es, clock, hb, _⟩ := h
  intro e; subst e; rw [hb] at hk; cases hk
/-- w' is w but for the entries of the map in block b. -/
def Turned (w w' : World) (b : Nat) : Prop := ∃ es clock es' clock', w.heap[b]? = some (.map es clock) ∧ w' = setBlock w b (.map es' clock')
theorem Turned.other {w w' : World} {b : Nat} (h : Turned w w' b) {k : Nat} (hk : k ≠ b) : w'.heap[k]? = w.heap[k]? := by
  obtain ⟨es, clock, es', clock', hb, rfl⟩ := h
  exact heap_setBlock_other hb _ hk
theorem Turned.size {w w' : World} {b : Nat} (h : Turned w w' b) : w'.heap.size = w.heap.size := by
  obtain ⟨es, clock, es', clock', hb, rfl⟩ := h
  simp [setBlock]
theorem Turned.os {w w' : World} {b : Nat} (h : Turned w w' b) : w'.os = w.os ∧ w'.tape = w.tape ∧ w'.output = w.output := by
  obtain ⟨es, clock, es', clock', hb, rfl⟩ := h
  exact ⟨rfl, rfl, rfl⟩
theorem Turned.kp {F : Nat → Prop} {w w' : World} {b : Nat} (h : Turned w w' b) (hF : F b) : Kp F w w' :=
  ⟨h.os.1, h.os.2.1, h.os.2.2, Nat.le_of_eq h.size.symm, fun k _ hk => h.other (fun e => hk (e ▸ hF))⟩
theorem MapAt.refl {d : TypeDesc} {w : World} {b : Nat} {l : Prs} (h : MapAt d w b l) : Turned w w b := by
  obtain ⟨es, clock, hb, _⟩ := h
  refine ⟨es, clock, es, clock, hb, ?_⟩
  have e : w.heap.setIfInBounds b (.map es clock) = w.heap := by
    apply Array.ext_getElem?
    intro i
    by_cases hi : i = b
    · subst hi; exact (heap_setBlock_same hb _).trans hb.symm
    · exact heap_setBlock_other hb _ hi
  unfold setBlock; rw [e]
section
variable {P : Program} {w : World} {d : TypeDesc} {b : Nat} {l : Prs} {t k e : TypeId} {key : Value}
theorem MapAt.find (h : MapAt d w b l) (hd : P.underlying k = some d) (hkey : IsKey d key) : ∃ es clock, w.heap[b]? = some (.map es clock) ∧ Stamped es clock ∧ (∀ x ∈ es.toList, IsKey d x.key) ∧ (es.toList.map pr).Perm l ∧
    (((Instr.findKey k key es.toList).run P w = .ok none w ∧ ∀ x ∈ es.toList, x.key ≠ key) ∨ ∃ j x, (Instr.findKey k key es.toList).run P w = .ok (some (j, x.val)) w ∧ es.toList[j]? = some x ∧ x.key = key) := by
  obtain ⟨es, clock, hb, hs, hk, hp⟩ := h
  refine ⟨es, clock, hb, hs, hk, hp, ?_⟩
  rcases findNow_spec hkey es.toList 0 hk with ⟨h1, h2⟩ | ⟨j, x, h1, h2, h3⟩
  · exact .inl ⟨run_findKey hd h1, h2⟩
  · exact .inr ⟨j, x, by simpa using run_findKey hd h1, h2, h3⟩
theorem MapAt.look (c : Bool) (h : MapAt d w b l) (ht : P.underlying t = some (.map k e)) (hd : P.underlying k = some d) (hkey : IsKey d key) {v : Value} (hv : (key, v) ∈ l) :
    (Instr.lookup t (.map (some b)) key c).run P w = .ok (if c then .tuple #[v, .bool true] else v) w := by
  have hap := h.apart
  obtain ⟨es, clock, hb, hs, hk, hp, hf⟩ := h.find hd hkey
  rcases hf with ⟨h1, h2⟩ | ⟨j, x, h1, h2, h3⟩
  · obtain ⟨y, hy, hyv⟩ := List.mem_map.1 (hp.mem_iff.2 hv)
    exact absurd (congrArg Prod.fst hyv) (h2 y hy)
  · have hx : (x.key, x.val) ∈ l := hp.mem_iff.1 (List.mem_map.2 ⟨x, List.mem_of_getElem? h2, rfl⟩)
    have hxv : x.val = v := by
      by_cases hne : x.val = v
      · exact hne
      · obtain ⟨i1, e1⟩ := List.getElem?_of_mem hx
        obtain ⟨i2, e2⟩ := List.getElem?_of_mem hv
        obtain ⟨l1, f1⟩ := List.getElem?_eq_some_iff.1 e1
        obtain ⟨l2, f2⟩ := List.getElem?_eq_some_iff.1 e2
        have hall := List.pairwise_iff_getElem.1 hap
        rcases Nat.lt_trichotomy i1 i2 with hl | hl | hl
        · exact absurd (by rw [f1, f2]; exact h3) (hall i1 i2 l1 l2 hl)
        · subst hl; rw [f1] at f2; exact congrArg Prod.snd f2
        · exact absurd (by rw [f1, f2]; exact h3.symm) (hall i2 i1 l2 l1 hl)
    rw [hxv] at h1
    simp [Instr.lookup, run_underlying ht, MapKept.run_getObj_map hb, run_checkKey hd hkey, h1, Result.andThen]
theorem MapAt.look_no (c : Bool) (h : MapAt d w b l) (ht : P.underlying t = some (.map k e)) (hd : P.underlying k = some d) (hkey : IsKey d key) (hv : ∀ p ∈ l, p.1 ≠ key) {z : Value} (hz : (zeroValue e).run P w = .ok z w) :
    (Instr.lookup t (.map (some b)) key c).run P w = .ok (if c then .tuple #[z, .bool false] else z) w := by
  obtain ⟨es, clock, hb, hs, hk, hp, hf⟩ := h.find hd hkey
  rcases hf with ⟨h1, h2⟩ | ⟨j, x, h1, h2, h3⟩
  · simp [Instr.lookup, run_underlying ht, MapKept.run_getObj_map hb, run_checkKey hd hkey, h1, hz, Result.andThen]
  · exact absurd h3 (hv (x.key, x.val) (hp.mem_iff.1 (List.mem_map.2 ⟨x, List.mem_of_getElem? h2, rfl⟩)))
theorem look_nil (c : Bool) (ht : P.underlying t = some (.map k e)) (hd : P.underlying k = some d) (hkey : IsKey d key) {z : Value} (hz : (zeroValue e).run P w = .ok z w) :
    (Instr.lookup t (.map none) key c).run P w = .ok (if c then .tuple #[z, .bool false] else z) w := by
  have hf : (Instr.findKey k key []).run P w = .ok none w := run_findKey hd rfl
  simp [Instr.lookup, run_underlying ht, run_checkKey hd hkey, hf, hz, Result.andThen]
theorem MapAt.len (h : MapAt d w b l) (ht : P.underlying t = some (.map k e)) (ty : TypeId) : (Builtin.len_ #[t] ty #[.map (some b)]).run P w = .ok (.int .i64 l.length) w := by
  obtain ⟨es, clock, hb, hs, hk, hp⟩ := h
  have hl : es.size = l.length := by rw [← hp.length_eq]; simp
  rw [← hl]
  simp [Builtin.len_, run_underlying ht, MapKept.run_getObj_map hb, goInt, Result.andThen]
theorem len_nil (ht : P.underlying t = some (.map k e)) (ty : TypeId) : (Builtin.len_ #[t] ty #[.map none]).run P w = .ok (.int .i64 0) w := by
  simp [Builtin.len_, run_underlying ht, goInt, Result.andThen]
theorem MapAt.clear (h : MapAt d w b l) (ht : P.underlying t = some (.map k e)) (ty : TypeId) : ∃ w', (Builtin.clear_ #[t] ty #[.map (some b)]).run P w = .ok (.tuple #[]) w' ∧ MapAt d w' b [] ∧ Turned w w' b := by
  obtain ⟨es, clock, hb, hs, hk, hp⟩ := h
  refine ⟨setBlock w b (.map #[] clock), ?_, ⟨#[], clock, heap_setBlock_same hb _, stamped_empty _, by simp, by simp⟩, es, clock, _, _, hb, rfl⟩
  simp [Builtin.clear_, run_underlying ht, MapKept.run_getObj_map hb, MapKept.run_setObj_map _ hb, Result.andThen, setBlock]
theorem clear_nil (ht : P.underlying t = some (.map k e)) (ty : TypeId) : (Builtin.clear_ #[t] ty #[.map none]).run P w = .ok (.tuple #[]) w := by
  simp [Builtin.clear_, run_underlying ht, Result.andThen]
theorem modify_set {α : Type} (l : List α) (j : Nat) (f : α → α) {x : α} (h : l[j]? = some x) : l.modify j f = l.set j (f x) := ChangeMaps.modify_eq_set _ _ _ _ h
theorem perm_erase {α : Type} : ∀ {l : List α} {j : Nat} {x : α}, l[j]? = some x → l.Perm (x :: l.eraseIdx j)
  | [], _, _, h => by simp at h
  | a :: r, 0, x, h => by simp at h; subst h; simp
  | a :: r, j + 1, x, h => by
    have := perm_erase (l := r) (j := j) (x := x) (by simpa using h)
    simp only [List.eraseIdx_cons_succ]
    exact (this.cons a).trans (List.Perm.swap _ _ _)
theorem perm_set {α : Type} : ∀ {l : List α} {j : Nat} {x : α} (y : α), l[j]? = some x → (l.set j y).Perm (y :: l.eraseIdx j)
  | [], _, _, _, h => by simp at h
  | a :: r, 0, x, y, h => by simp
  | a :: r, j + 1, x, y, h => by
    have := perm_set (l := r) (j := j) (x := x) y (by simpa using h)
    simp only [List.eraseIdx_cons_succ, List.set_cons_succ]
    exact (this.cons a).trans (List.Perm.swap _ _ _)
theorem MapAt.store_new (h : MapAt d w b l) (ht : P.underlying t = some (.map k e)) (hd : P.underlying k = some d) (hkey : IsKey d key) (hv : ∀ p ∈ l, p.1 ≠ key) (val : Value) :
    ∃ w', (Instr.mapUpdate t (.map (some b)) key val).run P w = .ok () w' ∧ MapAt d w' b ((key, val) :: l) ∧ Turned w w' b := by
  obtain ⟨es, clock, hb, hs, hk, hp, hf⟩ := h.find hd hkey
  rcases hf with ⟨h1, h2⟩ | ⟨j, x, h1, h2, h3⟩
  · refine ⟨setBlock w b (.map (es.push ⟨key, val, clock⟩) (clock + 1)), ?_, ⟨_, _, heap_setBlock_same hb _, stamped_push hs h2, ?_, ?_⟩, es, clock, _, _, hb, rfl⟩
    · simp [Instr.mapUpdate, run_underlying ht, MapKept.run_getObj_map hb, run_checkKey hd hkey, h1, MapKept.run_setObj_map _ hb, Result.andThen, setBlock]
    · intro x hx
      simp only [Array.toList_push, List.mem_append, List.mem_singleton] at hx
      rcases hx with hx | rfl
      · exact hk x hx
      · exact hkey
    · rw [Array.toList_push, List.map_append]
      exact (List.perm_append_singleton _ _).trans (hp.cons _)
  · exact absurd h3 (hv (x.key, x.val) (hp.mem_iff.1 (List.mem_map.2 ⟨x, List.mem_of_getElem? h2, rfl⟩)))
theorem map_erase {α β : Type} (f : α → β) (l : List α) (j : Nat) : (l.eraseIdx j).map f = (l.map f).eraseIdx j := ChangeMaps.map_eraseIdx f l j
theorem MapAt.old {es : Array MapEntry} {v : Value} {l0 : Prs} (hap : l.Pairwise fun p q => p.1 ≠ q.1) (hp : (es.toList.map pr).Perm l) (hl : l.Perm ((key, v) :: l0)) {j : Nat} {x : MapEntry} (h2 : es.toList[j]? = some x) (h3 : x.key = key) : ((es.toList.eraseIdx j).map pr).Perm l0 := by
  rw [map_erase]
  have h4 : (es.toList.map pr)[j]? = some (pr x) := by simp [h2]
  have h5 := (perm_erase h4).symm.trans (hp.trans hl)
  have hxm : pr x ∈ (key, v) :: l0 := h5.mem_iff.1 (by simp)
  have hap2 := (hl.pairwise_iff (fun {x y} (e : x.1 ≠ y.1) => e.symm)).1 hap
  have hxe : pr x = (key, v) := by
    rcases List.mem_cons.1 hxm with h | h
    · exact h
    · exact absurd h3.symm ((List.pairwise_cons.1 hap2).1 _ h)
  rw [hxe] at h5
  exact (List.perm_cons _).1 h5
theorem MapAt.store_old (h : MapAt d w b l) (ht : P.underlying t = some (.map k e)) (hd : P.underlying k = some d) (hkey : IsKey d key) {v : Value} {l0 : Prs} (hl : l.Perm ((key, v) :: l0)) (val : Value) :
    ∃ w', (Instr.mapUpdate t (.map (some b)) key val).run P w = .ok () w' ∧ MapAt d w' b ((key, val) :: l0) ∧ Turned w w' b := by
  have hap := h.apart
  obtain ⟨es, clock, hb, hs, hk, hp, hf⟩ := h.find hd hkey
  rcases hf with ⟨h1, h2⟩ | ⟨j, x, h1, h2, h3⟩
  · have : (key, v) ∈ l := hl.mem_iff.2 (by simp)
    obtain ⟨y, hy, hyv⟩ := List.mem_map.1 (hp.mem_iff.2 this)
    exact absurd (congrArg Prod.fst hyv) (h2 y hy)
  · have hj : es[j]? = some x := by simpa using h2
    have hlist : (es.modify j (fun e' => { e' with key := key, val := val })).toList = es.toList.set j { x with key := key, val := val } := by rw [Array.toList_modify, modify_set _ _ _ h2]
    refine ⟨setBlock w b (.map (es.modify j (fun e' => { e' with key := key, val := val })) clock), ?_, ⟨_, _, heap_setBlock_same hb _, stamped_modify hs _ _ (fun _ _ => rfl) (fun e' _ he' => by rw [hj] at he'; cases he'; exact h3.symm), ?_, ?_⟩, es, clock, _, _, hb, rfl⟩
    · simp [Instr.mapUpdate, run_underlying ht, MapKept.run_getObj_map hb, run_checkKey hd hkey, h1, hj, h3, run_keyThatStays hkey, MapKept.run_setObj_map _ hb, Result.andThen, setBlock]
    · intro y hy
      rw [hlist] at hy
      rcases List.mem_or_eq_of_mem_set hy with hy | rfl
      · exact hk y hy
      · exact hkey
    · rw [hlist, List.map_set]
      have h4 : (es.toList.map pr)[j]? = some (pr x) := by simp [h2]
      refine (perm_set _ h4).trans ?_
      rw [← map_erase]
      exact (MapAt.old hap hp hl h2 h3).cons _
theorem MapAt.drop_no (h : MapAt d w b l) (ht : P.underlying t = some (.map k e)) (hd : P.underlying k = some d) (hkey : IsKey d key) (hv : ∀ p ∈ l, p.1 ≠ key) (ty : TypeId) :
    ∃ w', (Builtin.delete_ #[t, k] ty #[.map (some b), key]).run P w = .ok (.tuple #[]) w' ∧ MapAt d w' b l ∧ Turned w w' b := by
  have hr := h.refl
  have h0 := h
  obtain ⟨es, clock, hb, hs, hk, hp, hf⟩ := h.find hd hkey
  rcases hf with ⟨h1, h2⟩ | ⟨j, x, h1, h2, h3⟩
  · refine ⟨setBlock w b (.map es clock), ?_, ⟨es, clock, heap_setBlock_same hb _, hs, hk, hp⟩, es, clock, _, _, hb, rfl⟩
    simp [Builtin.delete_, run_underlying ht, MapKept.run_getObj_map hb, run_checkKey hd hkey, h1, MapKept.run_setObj_map _ hb, Result.andThen, setBlock]
  · exact absurd h3 (hv (x.key, x.val) (hp.mem_iff.1 (List.mem_map.2 ⟨x, List.mem_of_getElem? h2, rfl⟩)))
theorem drop_nil (ht : P.underlying t = some (.map k e)) (hd : P.underlying k = some d) (hkey : IsKey d key) (ty : TypeId) : (Builtin.delete_ #[t, k] ty #[.map none, key]).run P w = .ok (.tuple #[]) w := by
  simp [Builtin.delete_, run_underlying ht, run_checkKey hd hkey, Result.andThen]
theorem MapAt.drop (h : MapAt d w b l) (ht : P.underlying t = some (.map k e)) (hd : P.underlying k = some d) (hkey : IsKey d key) {v : Value} {l0 : Prs} (hl : l.Perm ((key, v) :: l0)) (ty : TypeId) :
    ∃ w', (Builtin.delete_ #[t, k] ty #[.map (some b), key]).run P w = .ok (.tuple #[]) w' ∧ MapAt d w' b l0 ∧ Turned w w' b := by
  have hap := h.apart
  obtain ⟨es, clock, hb, hs, hk, hp, hf⟩ := h.find hd hkey
  rcases hf with ⟨h1, h2⟩ | ⟨j, x, h1, h2, h3⟩
  · have : (key, v) ∈ l := hl.mem_iff.2 (by simp)
    obtain ⟨y, hy, hyv⟩ := List.mem_map.1 (hp.mem_iff.2 this)
    exact absurd (congrArg Prod.fst hyv) (h2 y hy)
  · have hjl : j < es.toList.length := (List.getElem?_eq_some_iff.1 h2).1
    have hjs : j < es.size := by simpa using hjl
    have hsub : (es.eraseIdxIfInBounds j).toList = es.toList.eraseIdx j := by
      unfold Array.eraseIdxIfInBounds
      rw [dif_pos hjs]
      simp
    refine ⟨setBlock w b (.map (es.eraseIdxIfInBounds j) clock), ?_, ⟨_, _, heap_setBlock_same hb _, stamped_erase hs j, ?_, ?_⟩, es, clock, _, _, hb, rfl⟩
    · simp [Builtin.delete_, run_underlying ht, MapKept.run_getObj_map hb, run_checkKey hd hkey, h1, MapKept.run_setObj_map _ hb, Result.andThen, setBlock]
    · intro y hy
      rw [hsub] at hy
      exact hk y ((List.eraseIdx_sublist _ _).subset hy)
    · rw [hsub]; exact MapAt.old hap hp hl h2 h3
end
/-- 'for k, v := range m' under way: block b the map, block r the iterator; left: what is still to come. -/
def RangeAt (d : TypeDesc) (w : World) (b r : Nat) (l left : Prs) : Prop :=
  ∃ es clock since seen c0, w.heap[b]? = some (.map es clock) ∧ Stamped es clock ∧ (∀ x ∈ es.toList, IsKey d x.key) ∧ (es.toList.map pr).Perm l ∧
    w.heap[r]? = some (.mapIter (some b) since seen c0) ∧ (∀ x ∈ es.toList, x.born < since) ∧ since ≤ c0 ∧ since ≤ clock ∧ ((leftOf es seen).toList.map pr).Perm left
theorem RangeAt.map {d : TypeDesc} {w : World} {b r : Nat} {l left : Prs} (h : RangeAt d w b r l left) : MapAt d w b l := by
  obtain ⟨es, clock, since, seen, c0, hb, hs, hk, hp, _⟩ := h
  exact ⟨es, clock, hb, hs, hk, hp⟩
theorem RangeAt.keep {d : TypeDesc} {w w' : World} {b r : Nat} {l left : Prs} (h : RangeAt d w b r l left) (hb' : w'.heap[b]? = w.heap[b]?) (hr' : w'.heap[r]? = w.heap[r]?) : RangeAt d w' b r l left := by
  obtain ⟨es, clock, since, seen, c0, hb, hs, hk, hp, hr, rest⟩ := h
  exact ⟨es, clock, since, seen, c0, hb'.trans hb, hs, hk, hp, hr'.trans hr, rest⟩
theorem RangeAt.lt {d : TypeDesc} {w : World} {b r : Nat} {l left : Prs} (h : RangeAt d w b r l left) : r < w.heap.size ∧ b < w.heap.size := by
  obtain ⟨es, clock, since, seen, c0, hb, hs, hk, hp, hr, rest⟩ := h
  exact ⟨(Array.getElem?_eq_some_iff.1 hr).1, (Array.getElem?_eq_some_iff.1 hb).1⟩
theorem RangeAt.ne {d : TypeDesc} {w : World} {b r : Nat} {l left : Prs} (h : RangeAt d w b r l left) : r ≠ b := by
  obtain ⟨es, clock, since, seen, c0, hb, hs, hk, hp, hr, rest⟩ := h
  intro e; rw [e, hb] at hr; cases hr
theorem RangeAt.ne_cells {d : TypeDesc} {w : World} {b r k : Nat} {l left : Prs} (h : RangeAt d w b r l left) {cs : Array Value} {t : TypeId} {fr : Nat × Nat} (hk : w.heap[k]? = some (.cells cs t fr)) : r ≠ k := by
  obtain ⟨es, clock, since, seen, c0, hb, hs, _, hp, hr, rest⟩ := h
  intro e; rw [e, hk] at hr; cases hr
theorem RangeAt.ne_map {d d' : TypeDesc} {w : World} {b r k : Nat} {l left l' : Prs} (h : RangeAt d w b r l left) (hk : MapAt d' w k l') : r ≠ k := by
  obtain ⟨es, clock, since, seen, c0, hb, hs, _, hp, hr, rest⟩ := h
  obtain ⟨_, _, hk, _⟩ := hk
  intro e; rw [e, hk] at hr; cases hr
theorem RangeAt.left_eq {d : TypeDesc} {w : World} {b r : Nat} {l left : Prs} (h : RangeAt d w b r l left) : w.rangeLeft b r = left.length := by
  obtain ⟨es, clock, since, seen, c0, hb, hs, hk, hp, hr, h1, h2, h3, hl⟩ := h
  simp only [World.rangeLeft, hb, hr]
  rw [← hl.length_eq]; simp
theorem MapAt.range {P : Program} {d : TypeDesc} {w : World} {b : Nat} {l : Prs} {t k e : TypeId} (h : MapAt d w b l) (ht : P.underlying t = some (.map k e)) :
    ∃ w', (Instr.range t (.map (some b))).run P w = .ok (.pointer (some ⟨w.heap.size, 0, none⟩)) w' ∧ RangeAt d w' b w.heap.size l l ∧ Below w.heap.size w w' ∧ w'.heap.size = w.heap.size + 1 := by
  obtain ⟨es, clock, hb, hs, hk, hp⟩ := h
  have hlt : b < w.heap.size := (Array.getElem?_eq_some_iff.1 hb).1
  refine ⟨_, run_range_map w t k e b es clock ht hb, ⟨es, clock, clock, #[], clock, ((MapKept.heap_alloc w _).2 b hlt).trans hb, hs, hk, hp, (MapKept.heap_alloc w _).1, hs.1, Nat.le_refl _, Nat.le_refl _, ?_⟩, (Below.refl _ w).alloc (Nat.le_refl _) _, by simp⟩
  have : leftOf es #[] = es := by unfold leftOf; simp
  rw [this]; exact hp
theorem left_perm (es : List MapEntry) (seen : Array Nat) (e : MapEntry) (he : e ∈ es.filter fun x => !seen.contains x.born) (hn : (es.map (·.born)).Nodup) :
    (es.filter fun x => !seen.contains x.born).Perm (e :: es.filter fun x => !(seen.push e.born).contains x.born) := by
  induction es with
  | nil => simp at he
  | cons a r ih =>
    have hn' := List.nodup_cons.1 hn
    have key : ∀ x ∈ r, x.born ≠ a.born := fun x hx e1 => hn'.1 (List.mem_map.2 ⟨x, hx, e1⟩)
    by_cases hae : e = a
    · subst hae
      have h1 := (List.mem_filter.1 he).2
      have h2 : (seen.push e.born).contains e.born = true := by rw [contains_push]; simp
      rw [List.filter_cons_of_pos (p := fun x : MapEntry => !seen.contains x.born) h1, List.filter_cons_of_neg (p := fun x : MapEntry => !(seen.push e.born).contains x.born) (by rw [h2]; simp)]
      refine List.Perm.cons _ (List.Perm.of_eq (List.filter_congr fun x hx => ?_))
      rw [contains_push]
      have : (x.born == e.born) = false := by simpa using key x hx
      rw [this]; simp
    · have her : e ∈ r.filter fun x => !seen.contains x.born := by
        have := List.mem_filter.1 he
        rcases List.mem_cons.1 this.1 with h | h
        · exact absurd h hae
        · exact List.mem_filter.2 ⟨h, this.2⟩
      have hb : (a.born == e.born) = false := by simpa using (key e (List.mem_filter.1 her).1).symm
      have h3 : (seen.push e.born).contains a.born = seen.contains a.born := by rw [contains_push, hb]; simp
      by_cases hs : (!seen.contains a.born) = true
      · rw [List.filter_cons_of_pos (p := fun x : MapEntry => !seen.contains x.born) hs, List.filter_cons_of_pos (p := fun x : MapEntry => !(seen.push e.born).contains x.born) (by rw [h3]; exact hs)]
        exact ((ih her hn'.2).cons a).trans (List.Perm.swap _ _ _)
      · rw [List.filter_cons_of_neg (p := fun x : MapEntry => !seen.contains x.born) hs, List.filter_cons_of_neg (p := fun x : MapEntry => !(seen.push e.born).contains x.born) (by rw [h3]; exact hs)]
        exact ih her hn'.2
theorem RangeAt.next {P : Program} {d : TypeDesc} {w : World} {b r : Nat} {l left : Prs} (h : RangeAt d w b r l left) (ty : TypeId) :
    (left = [] ∧ (Instr.next (.pointer (some ⟨r, 0, none⟩)) false ty).run P w = .ok (.tuple #[.bool false]) w) ∨
    ∃ p left' w', left.Perm (p :: left') ∧ p ∈ l ∧ (Instr.next (.pointer (some ⟨r, 0, none⟩)) false ty).run P w = .ok (.tuple #[.bool true, p.1, p.2]) w' ∧ RangeAt d w' b r l left' ∧
      w.grownBy w' (some r) ∧ w'.heap.size = w.heap.size ∧ (Instr.entry (.pointer (some ⟨r, 0, none⟩))).run P w' = .ok (.tuple #[p.1, p.2]) w' := by
  have hne := h.ne
  obtain ⟨es, clock, since, seen, c0, hb, hs, hk, hp, hr, hold, hsc, hsk, hl⟩ := h
  rcases run_next_at (P := P) w ty r b since c0 seen es clock hr hb hold hsc with ⟨h0, hrun⟩ | ⟨x, hx, w1, hal, hrun⟩
  · refine .inl ⟨?_, hrun⟩
    have := hl.length_eq
    simp [h0] at this
    exact List.eq_nil_of_length_eq_zero this.symm
  · have hr1 : w1.heap[r]? = some (.mapIter (some b) since seen c0) := by rcases hal with rfl | rfl <;> exact hr
    have hb1 : w1.heap[b]? = some (.map es clock) := by rcases hal with rfl | rfl <;> exact hb
    have hset := heap_set (o' := .mapIter (some b) since (seen.push x.born) clock) hr1
    have hb' : (setBlock w1 r (.mapIter (some b) since (seen.push x.born) clock)).heap[b]? = some (.map es clock) := (hset.2 b (fun e1 => hne e1.symm)).trans hb1
    have hem := (mem_left hx).1
    refine .inr ⟨pr x, (leftOf es (seen.push x.born)).toList.map pr, _, ?_, hp.mem_iff.1 (List.mem_map.2 ⟨x, hem, rfl⟩), hrun, ⟨es, clock, since, seen.push x.born, clock, hb', hs, hk, hp, hset.1, hold, hsk, hsk, List.Perm.refl _⟩, ?_, ?_, run_entry_at _ r b since seen es clock x hset.1 hb' hem ((stamped_iff es clock).1 hs).2.1⟩
    · refine hl.symm.trans ?_
      have e1 : ∀ s, (leftOf es s).toList = es.toList.filter fun x => !s.contains x.born := fun s => by unfold leftOf; rw [Array.toList_filter]
      rw [e1] at hx ⊢
      rw [e1]
      exact (left_perm es.toList seen x hx hs.2.1).map pr
    · rcases hal with rfl | rfl <;> exact ⟨rfl, rfl, rfl, by simp [setBlock], fun i _ hi => hset.2 i (fun e1 => hi (by rw [e1]))⟩
    · rcases hal with rfl | rfl <;> simp [setBlock]
section
variable {P : Program} (w : World) {ops : Array Oper} {rest : List Oper} {o : Oper} {a : Act} {Q : Exit → Act → World → Prop}
theorem wp_look (hg : o.guard = none) (m x : Operand) (t : TypeId) (c : Bool) (hop : o.op = Op.lookup t m x c) (mv key v : Value) (hm : a.eval m = mv) (hx : a.eval x = key) (hrun : (Instr.lookup t mv key c).run P w = .ok v w)
    (hK : wpList P ops Q rest (a.put o.dst v) w) : wpList P ops Q (o :: rest) a w := by
  refine wpList_plain hg fun K' hK' => ?_
  unfold Oper.wp
  simp [execOp, hop, hm, hx, hrun, Result.andThen]
  exact hK' _ _ hK
theorem wp_store (hg : o.guard = none) (m x v : Operand) (t : TypeId) (hop : o.op = Op.mapUpdate t m x v) (mv key val : Value) (hm : a.eval m = mv) (hx : a.eval x = key) (hv : a.eval v = val) (w' : World) (hrun : (Instr.mapUpdate t mv key val).run P w = .ok () w')
    (hK : wpList P ops Q rest (a.put o.dst undef) w') : wpList P ops Q (o :: rest) a w := by
  refine wpList_plain hg fun K' hK' => ?_
  unfold Oper.wp
  simp [execOp, hop, hm, hx, hv, hrun, Result.andThen]
  exact hK' _ _ hK
theorem wp_delete (hg : o.guard = none) (m x : Operand) (t k : TypeId) (hop : o.op = Op.call { callee := Callee.builtin Builtin.delete, args := #[m, x], argTypes := #[t, k] }) (mv key : Value) (hm : a.eval m = mv) (hx : a.eval x = key) (w' : World) (hrun : (Builtin.delete_ #[t, k] o.type #[mv, key]).run P w = .ok (.tuple #[]) w')
    (hK : wpList P ops Q rest (a.put o.dst (.tuple #[])) w') : wpList P ops Q (o :: rest) a w := by
  refine wpList_plain hg fun K' hK' => ?_
  unfold Oper.wp
  simp [execOp, hop, resolve, invoke, builtin, hm, hx, hrun, Result.andThen]
  exact hK' _ _ hK
theorem wp_len (hg : o.guard = none) (m : Operand) (t : TypeId) (hop : o.op = Op.call { callee := Callee.builtin Builtin.len, args := #[m], argTypes := #[t] }) (mv : Value) (n : Int) (hm : a.eval m = mv) (hrun : (Builtin.len_ #[t] o.type #[mv]).run P w = .ok (.int .i64 n) w)
    (hK : wpList P ops Q rest (a.put o.dst (.int .i64 n)) w) : wpList P ops Q (o :: rest) a w := by
  refine wpList_plain hg fun K' hK' => ?_
  unfold Oper.wp
  simp [execOp, hop, resolve, invoke, builtin, hm, hrun, Result.andThen]
  exact hK' _ _ hK
theorem wp_clear (hg : o.guard = none) (m : Operand) (t : TypeId) (hop : o.op = Op.call { callee := Callee.builtin Builtin.clear, args := #[m], argTypes := #[t] }) (mv : Value) (hm : a.eval m = mv) (w' : World) (hrun : (Builtin.clear_ #[t] o.type #[mv]).run P w = .ok (.tuple #[]) w')
    (hK : wpList P ops Q rest (a.put o.dst (.tuple #[])) w') : wpList P ops Q (o :: rest) a w := by
  refine wpList_plain hg fun K' hK' => ?_
  unfold Oper.wp
  simp [execOp, hop, resolve, invoke, builtin, hm, hrun, Result.andThen]
  exact hK' _ _ hK
theorem wp_range (hg : o.guard = none) (m : Operand) (t : TypeId) (hop : o.op = Op.range t m) (mv v : Value) (hm : a.eval m = mv) (w' : World) (hrun : (Instr.range t mv).run P w = .ok v w')
    (hK : wpList P ops Q rest (a.put o.dst v) w') : wpList P ops Q (o :: rest) a w := by
  refine wpList_plain hg fun K' hK' => ?_
  unfold Oper.wp
  simp [execOp, hop, hm, hrun, Result.andThen]
  exact hK' _ _ hK
theorem wp_next (hg : o.guard = none) (it : Operand) (hop : o.op = Op.next it false) (iv v : Value) (hit : a.eval it = iv) (w' : World) (hrun : (Instr.next iv false o.type).run P w = .ok v w')
    (hK : wpList P ops Q rest (a.put o.dst v) w') : wpList P ops Q (o :: rest) a w := by
  refine wpList_plain hg fun K' hK' => ?_
  unfold Oper.wp
  simp [execOp, hop, hit, hrun, Result.andThen]
  exact hK' _ _ hK
end
end Go.Proofs.YtjbphheojfclcaaGreat
