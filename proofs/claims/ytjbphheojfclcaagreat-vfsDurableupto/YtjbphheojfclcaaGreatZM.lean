
-- A Vol of the statements in memory: the volume, its handles, their list.
import Derived.Test.YtjbphheojfclcaaGreatZA
import Derived.Test.YtjbphheojfclcaaGreatU11
import Derived.Test.YtjbphheojfclcaaGreatU15
import Derived.Test.YtjbphheojfclcaaGreatQ2
namespace Go.Proofs.YtjbphheojfclcaaGreat
open Go.RowKit
set_option linter.unusedVariables false
set_option maxRecDepth 100000
variable {PS : (Nat → Prop) → Nat → St → World → Prop}
def hptrs (l : List (Nat × Hd)) : List Value := l.map fun h => .pointer (some ⟨h.1, 0, none⟩)
structure VLo (PS : (Nat → Prop) → Nat → St → World → Prop) (S : Nat → Prop) (vb : Nat) (x : Vl) (w : World) (q : Nat) (mv : Value) (G : Nat → Prop) (hs : List (Nat × Hd)) : Prop where
  blk : w.heap[vb]? = some (.cells #[.pointer (some ⟨q, 0, none⟩), mv] 45 (0, 0))
  pp : PV PS G q x.v w
  eq : hs.map (·.2) = x.hs
  sub : ∀ k, G k → S k
  own : S vb
  nG : ¬ G vb
  row : w.ownsRow 0 83 1 mv hs.length (hptrs hs)
  mG : ∀ k, mv.ownBlock = some k → S k ∧ ¬ G k
  mf : ∀ (i : Nat) (a : Nat) (y : Hd), hs[i]? = some (a, y) → FileAt w a q y ∧ S a ∧ ¬ G a
  nd : (hs.map (·.1)).Nodup
  low : ∀ k, S k → k < w.heap.size
/-- The Vol at block vb is the volume x, all its memory in blocks of S. -/
def VA (PS : (Nat → Prop) → Nat → St → World → Prop) (S : Nat → Prop) (vb : Nat) (x : Vl) (w : World) : Prop := ∃ q mv G hs, VLo PS S vb x w q mv G hs
def VAD (PS : (Nat → Prop) → Nat → St → World → Prop) (S : Nat → Prop) (vb : Nat) (x : Vl) (w w' : World) : Prop := VA PS (ext S w w') vb x w' ∧ Kp S w w'
section
variable {S G : Nat → Prop} {vb q : Nat} {x : Vl} {mv : Value} {hs : List (Nat × Hd)} {w w' : World}
theorem VLo.turn (T : VLo PS S vb x w q mv G hs) {S' G' : Nat → Prop} {v' : Vs} (hp : PV PS G' q v' w') (hS : ∀ k, S k → S' k) (hG : ∀ k, G' k → G k ∨ w.heap.size ≤ k) (hsub : ∀ k, G' k → S' k)
    (hk : ∀ k, S k → ¬ G k → w'.heap[k]? = w.heap[k]?) (hlow : ∀ k, S' k → k < w'.heap.size) : VLo PS S' vb ⟨v', x.hs⟩ w' q mv G' hs := by
  have no : ∀ k, S k → ¬ G k → ¬ G' k := fun k h1 h2 h3 => by
    rcases hG k h3 with h | h
    · exact h2 h
    · have := T.low k h1; omega
  refine ⟨(hk vb T.own T.nG).trans T.blk, hp, T.eq, hsub, hS _ T.own, no _ T.own T.nG, own_keep T.row fun k h => hk k (T.mG k h).1 (T.mG k h).2, fun k h => ⟨hS k (T.mG k h).1, no k (T.mG k h).1 (T.mG k h).2⟩, fun i a y h => ?_, T.nd, hlow⟩
  obtain ⟨h1, h2, h3⟩ := T.mf i a y h
  exact ⟨(hk a h2 h3).trans h1, hS a h2, no a h2 h3⟩
theorem VLo.below (C : PC PS) (T : VLo PS S vb x w q mv G hs) (hb : Below w.heap.size w w') : VLo PS S vb x w' q mv G hs :=
  T.turn (T.pp.below C hb) (fun _ h => h) (fun _ h => .inl h) T.sub (fun k h _ => hb.block k (T.low k h)) fun k h => Nat.lt_of_lt_of_le (T.low k h) hb.size
theorem VLo.same (C : PC PS) (T : VLo PS S vb x w q mv G hs) (hs' : w.heap.size ≤ w'.heap.size) (hk : ∀ k, S k → w'.heap[k]? = w.heap[k]?) : VLo PS S vb x w' q mv G hs :=
  T.turn (T.pp.same C hs' fun k h _ => hk k (T.sub k h)) (fun _ h => h) (fun _ h => .inl h) T.sub (fun k h _ => hk k h) fun k h => Nat.lt_of_lt_of_le (T.low k h) hs'
theorem VLo.mono (T : VLo PS S vb x w q mv G hs) {S' : Nat → Prop} (h : ∀ k, S k → S' k) (hl : ∀ k, S' k → k < w.heap.size) : VLo PS S' vb x w q mv G hs :=
  ⟨T.blk, T.pp, T.eq, fun k hk => h k (T.sub k hk), h _ T.own, T.nG, T.row, fun k hk => ⟨h k (T.mG k hk).1, (T.mG k hk).2⟩, fun i a y hh => ⟨(T.mf i a y hh).1, h a (T.mf i a y hh).2.1, (T.mf i a y hh).2.2⟩, T.nd, hl⟩
theorem VLo.kp (T : VLo PS S vb x w q mv G hs) (hk : Kp G w w') : Kp S w w' := hk.mono' T.sub
/-- A call on the volume itself. -/
theorem VLo.did (T : VLo PS S vb x w q mv G hs) {v' : Vs} (h : VDid PS G q v' w w') : VLo PS (ext S w w') vb ⟨v', x.hs⟩ w' q mv (ext G w w') hs ∧ Kp S w w' := by
  refine ⟨T.turn h.1 (fun k hk => .inl hk) (fun k hk => ?_) (fun k hk => ?_) (fun k h1 h2 => h.2.block k (T.low k h1) h2) (fun k hk => ?_), T.kp h.2⟩
  · rcases hk with hk | hk
    · exact .inl hk
    · exact .inr hk.1
  · rcases hk with hk | hk
    · exact .inl (T.sub k hk)
    · exact .inr hk
  · have := h.2.size
    rcases hk with hk | hk
    · have := T.low k hk; omega
    · exact hk.2
theorem VLo.cells (T : VLo PS S vb x w q mv G hs) : w.cell? ⟨vb, 0, none⟩ = some (.pointer (some ⟨q, 0, none⟩)) ∧ w.cell? ⟨vb, 1, none⟩ = some mv ∧ ∀ j, w.frozen? ⟨vb, j, none⟩ = false := by
  refine ⟨?_, ?_, fun j => Lib.frozen_of_heap T.blk j⟩ <;> (rw [Lib.cell_of_heap T.blk]; rfl)
theorem VLo.lt (T : VLo PS S vb x w q mv G hs) : vb < w.heap.size := (Array.getElem?_eq_some_iff.1 T.blk).1
theorem hptrs_snoc (l : List (Nat × Hd)) (h : Nat × Hd) : hptrs (l ++ [h]) = hptrs l ++ [.pointer (some ⟨h.1, 0, none⟩)] := by simp [hptrs]
theorem hget_snoc {α : Type} {l : List α} {y z : α} {i : Nat} (h : (l ++ [y])[i]? = some z) : l[i]? = some z ∨ z = y := by
  rcases Nat.lt_or_ge i l.length with h' | h'
  · rw [List.getElem?_append_left h'] at h; exact .inl h
  · rw [List.getElem?_append_right h'] at h
    rcases Nat.eq_zero_or_pos (i - l.length) with h0 | h0
    · rw [h0] at h; simp at h; exact .inr h.symm
    · rw [List.getElem?_eq_none (by simp; omega)] at h; cases h
/-- A handle joins the list. -/
theorem VLo.add (C : PC PS) (T : VLo PS S vb x w q mv G hs) {b : Nat} {y : Hd} (hf : FileAt w b q y) (hb : S b ∧ ¬ G b) (hn : b ∉ hs.map (·.1)) {w2 : World} {v' : Value}
    (hown : w2.ownsRow 0 83 1 v' (hs.length + 1) (hptrs hs ++ [.pointer (some ⟨b, 0, none⟩)])) (hg : w.grownBy w2 mv.ownBlock) (hv' : v'.ownBlock = mv.ownBlock ∨ ∃ k, v'.ownBlock = some k ∧ w.heap.size ≤ k) :
    VLo PS (ext S w (w2.setCell ⟨vb, 1, none⟩ v')) vb ⟨x.v, x.hs ++ [y]⟩ (w2.setCell ⟨vb, 1, none⟩ v') q v' G (hs ++ [(b, y)]) ∧ Kp S w (w2.setCell ⟨vb, 1, none⟩ v') := by
  have hsz := hg.size
  have hss : (w2.setCell ⟨vb, 1, none⟩ v').heap.size = w2.heap.size := by simp [World.setCell]
  have hpl := T.lt
  have hpm : some vb ≠ mv.ownBlock := fun e => by
    obtain ⟨cur, hc⟩ := own_typed T.row e.symm
    exact typed_ne T.blk hc (by decide) rfl
  have set : ∀ k, k ≠ vb → (w2.setCell ⟨vb, 1, none⟩ v').heap[k]? = w2.heap[k]? := fun k hk => Below.heap_setCell _ _ _ _ hk
  have keep : ∀ k, k < w.heap.size → k ≠ vb → some k ≠ mv.ownBlock → (w2.setCell ⟨vb, 1, none⟩ v').heap[k]? = w.heap[k]? := fun k h1 h2 h3 => (set k h2).trans (hg.block k h1 h3)
  have b2 : w2.heap[vb]? = some (.cells #[.pointer (some ⟨q, 0, none⟩), mv] 45 (0, 0)) := (hg.block vb hpl hpm).trans T.blk
  have kP : ∀ k, G k → (w2.setCell ⟨vb, 1, none⟩ v').heap[k]? = w.heap[k]? := fun k hk => keep k (T.pp.low k hk) (fun e => T.nG (e ▸ hk)) (fun e => (T.mG k e.symm).2 hk)
  have kT : ∀ (k : Nat) (cs : Array Value) (t : TypeId), w.heap[k]? = some (Obj.cells cs t (0, 0)) → t ≠ 45 → t ≠ 83 → (w2.setCell ⟨vb, 1, none⟩ v').heap[k]? = w.heap[k]? := fun k cs t hc n1 n2 => by
    refine keep k (Array.getElem?_eq_some_iff.1 hc).1 (fun e => typed_ne hc T.blk n1 e) (fun e => ?_)
    obtain ⟨cur, hc'⟩ := own_typed T.row e.symm
    exact typed_ne hc hc' n2 rfl
  refine ⟨⟨?_, T.pp.same C (by omega) fun k h _ => kP k h, ?_, fun k h => .inl (T.sub k h), .inl T.own, T.nG, ?_, fun k h => ?_, fun i a z h => ?_, ?_, fun k h => ?_⟩, ⟨hg.os, hg.tape, hg.output, by omega, fun k h1 h2 => keep k h1 (fun e => h2 (e ▸ T.own)) (fun e => h2 (T.mG k e.symm).1)⟩⟩
  · rw [blk_set b2]; rfl
  · rw [List.map_append, T.eq]; rfl
  · rw [List.length_append, hptrs_snoc]
    refine own_keep hown fun k hk => set k fun e => ?_
    obtain ⟨cur, hc⟩ := own_typed hown hk
    exact typed_ne hc b2 (by decide) e
  · rcases hv' with h' | ⟨k', h', h''⟩
    · obtain ⟨m1, m2⟩ := T.mG k (h' ▸ h)
      exact ⟨.inl m1, m2⟩
    · rw [h'] at h; cases h
      have hlt := (hown.lt k h').2
      exact ⟨.inr ⟨h'', by omega⟩, fun hG => by have := T.pp.low _ hG; omega⟩
  · rcases hget_snoc h with h | h
    · obtain ⟨h1, h2, h3⟩ := T.mf i a z h
      exact ⟨(kT a _ _ h1 (by decide) (by decide)).trans h1, .inl h2, h3⟩
    · cases h; exact ⟨(kT _ _ _ hf (by decide) (by decide)).trans hf, .inl hb.1, hb.2⟩
  · rw [List.map_append, List.nodup_append]
    exact ⟨T.nd, by simp, fun a ha c hc e => by simp at hc; subst hc; subst e; exact hn ha⟩
  · rcases h with h | h
    · have := T.low k h; omega
    · exact h.2
theorem hptrs_set (l : List (Nat × Hd)) (i a : Nat) (z y : Hd) (h : l[i]? = some (a, z)) : hptrs (l.set i (a, y)) = hptrs l ∧ (l.set i (a, y)).map (·.1) = l.map (·.1) := by
  have key : ∀ {β : Type} (f : Nat × Hd → β), f (a, y) = f (a, z) → (l.set i (a, y)).map f = l.map f := fun f hf => by
    rw [List.map_set, hf]
    apply List.ext_getElem?
    intro j
    rw [List.getElem?_set]
    split
    · rename_i e
      subst e
      split
      · rw [List.getElem?_map, h]; rfl
      · rename_i hl
        rw [List.getElem?_eq_none (by simpa using hl)]
    · rfl
  exact ⟨key _ rfl, key _ rfl⟩
theorem hnodup {l : List (Nat × Hd)} (hn : (l.map (·.1)).Nodup) {i j a b : Nat} {z y : Hd} (hi : l[i]? = some (a, z)) (hj : l[j]? = some (b, y)) (hne : i ≠ j) : a ≠ b := by
  intro e
  have h1 : (l.map (·.1))[i]? = some a := by rw [List.getElem?_map, hi]; rfl
  have h2 : (l.map (·.1))[j]? = some a := by rw [List.getElem?_map, hj, e]; rfl
  have hl := (List.getElem?_eq_some_iff.1 h1).1
  exact hne ((List.getElem?_inj hl hn).1 (h1.trans h2.symm))
theorem hget_set {l : List (Nat × Hd)} {i j a b : Nat} {z y u : Hd} (h : l[i]? = some (a, z)) (hj : (l.set i (a, y))[j]? = some (b, u)) : (j = i ∧ b = a ∧ u = y) ∨ (j ≠ i ∧ l[j]? = some (b, u)) := by
  rw [List.getElem?_set] at hj
  split at hj
  · rename_i e
    subst e
    rw [if_pos (List.getElem?_eq_some_iff.1 h).1] at hj
    cases hj; exact .inl ⟨rfl, rfl, rfl⟩
  · rename_i e; exact .inr ⟨fun e' => e e'.symm, hj⟩
/-- A handle is another one. -/
theorem VLo.setH (C : PC PS) (T : VLo PS S vb x w q mv G hs) {i a : Nat} {z y : Hd} (hi : hs[i]? = some (a, z)) (hf : FileAt w' a q y) (hk : Kp (fun k => k = a) w w') :
    VLo PS (ext S w w') vb ⟨x.v, x.hs.set i y⟩ w' q mv G (hs.set i (a, y)) ∧ Kp S w w' := by
  obtain ⟨h1, h2, h3⟩ := T.mf i a z hi
  have kT : ∀ (k : Nat), k < w.heap.size → k ≠ a → w'.heap[k]? = w.heap[k]? := fun k h h' => hk.block k h h'
  have kC : ∀ (k : Nat) (cs : Array Value) (t : TypeId), w.heap[k]? = some (Obj.cells cs t (0, 0)) → t ≠ 129 → w'.heap[k]? = w.heap[k]? := fun k cs t hc n => kT k (Array.getElem?_eq_some_iff.1 hc).1 fun e => typed_ne hc h1 n e
  refine ⟨⟨(kC vb _ _ T.blk (by decide)).trans T.blk, T.pp.same C hk.size fun k hG hl => kT k hl fun e => h3 (e ▸ hG), ?_, fun k h => .inl (T.sub k h), .inl T.own, T.nG, ?_, fun k h => ⟨.inl (T.mG k h).1, (T.mG k h).2⟩, fun j b u hj => ?_, ?_, fun k h => ?_⟩, ⟨hk.os, hk.tape, hk.output, hk.size, fun k hl hS => kT k hl fun e => hS (e ▸ h2)⟩⟩
  · rw [List.map_set, T.eq]
  · rw [List.length_set, (hptrs_set hs i a z y hi).1]
    refine own_keep T.row fun k h => ?_
    obtain ⟨cur, hc⟩ := own_typed T.row h
    exact kC k _ _ hc (by decide)
  · rcases hget_set hi hj with ⟨rfl, rfl, rfl⟩ | ⟨hne, hj⟩
    · exact ⟨hf, .inl h2, h3⟩
    · obtain ⟨g1, g2, g3⟩ := T.mf j b u hj
      have hab := hnodup T.nd hj hi hne
      exact ⟨(kT b (Array.getElem?_eq_some_iff.1 g1).1 hab).trans g1, .inl g2, g3⟩
  · rw [(hptrs_set hs i a z y hi).2]; exact T.nd
  · have := hk.size
    rcases h with h | h
    · have := T.low k h; omega
    · exact h.2
theorem VA.below (C : PC PS) (h : VA PS S vb x w) (hb : Below w.heap.size w w') : VA PS S vb x w' := by
  obtain ⟨q, mv, G, hs, T⟩ := h
  exact ⟨q, mv, G, hs, T.below C hb⟩
theorem VA.same (C : PC PS) (h : VA PS S vb x w) (hs' : w.heap.size ≤ w'.heap.size) (hk : ∀ k, S k → w'.heap[k]? = w.heap[k]?) : VA PS S vb x w' := by
  obtain ⟨q, mv, G, hs, T⟩ := h
  exact ⟨q, mv, G, hs, T.same C hs' hk⟩
theorem VA.low (h : VA PS S vb x w) : ∀ k, S k → k < w.heap.size := by
  obtain ⟨q, mv, G, hs, T⟩ := h
  exact T.low
theorem VA.mono (h : VA PS S vb x w) {S' : Nat → Prop} (h1 : ∀ k, S k → S' k) (hl : ∀ k, S' k → k < w.heap.size) : VA PS S' vb x w := by
  obtain ⟨q, mv, G, hs, T⟩ := h
  exact ⟨q, mv, G, hs, T.mono h1 hl⟩
/-- New blocks behind what was done. -/
theorem VAD.below (C : PC PS) {w'' : World} (h : VAD PS S vb x w w') (hb : Below w'.heap.size w' w'') : VAD PS S vb x w w'' := by
  have hs := hb.size
  refine ⟨(h.1.below C hb).mono (fun k hk => ?_) (fun k hk => ?_), h.2.kept hb⟩
  · rcases hk with hk | hk
    · exact .inl hk
    · exact .inr ⟨hk.1, by omega⟩
  · rcases hk with hk | hk
    · have := h.1.low k (.inl hk); omega
    · exact hk.2
/-- Behind new blocks. -/
theorem VAD.after {w0 : World} (hb : Below w0.heap.size w0 w) (h : VAD PS S vb x w w') : VAD PS S vb x w0 w' := by
  have hs := hb.size
  have hs' := h.2.size
  refine ⟨h.1.mono (fun k hk => ?_) (fun k hk => ?_), (Kp.of_below hb).trans h.2⟩
  · rcases hk with hk | hk
    · exact .inl hk
    · exact .inr ⟨by omega, hk.2⟩
  · rcases hk with hk | hk
    · exact h.1.low k (.inl hk)
    · exact hk.2
/-- A call behind what was done. -/
theorem VAD.then {x' : Vl} {w'' : World} (h : VAD PS S vb x w w') (k : VAD PS (ext S w w') vb x' w' w'') : VAD PS S vb x' w w'' := by
  have h1 := h.2.size
  have h2 := k.2.size
  refine ⟨k.1.mono (fun i hi => ?_) (fun i hi => ?_), h.2.then k.2⟩
  · rcases hi with (hi | hi) | hi
    · exact .inl hi
    · exact .inr ⟨hi.1, by omega⟩
    · exact .inr ⟨by omega, hi.2⟩
  · rcases hi with hi | hi
    · exact k.1.low i (.inl (.inl hi))
    · exact hi.2
end
end Go.Proofs.YtjbphheojfclcaaGreat
