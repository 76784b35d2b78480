
-- Both volumes with their calls, and the handles that they gave.
import Derived.Test.YtloljimabapicacGreatR6
import Derived.Test.YtloljimabapicacGreatR7
import Derived.Test.YtloljimabapicacGreatU11
import Derived.Test.YtloljimabapicacGreatU15
namespace Go.Proofs.YtloljimabapicacGreat
open Go.RowKit
set_option linter.unusedVariables false
variable {PS : (Nat → Prop) → Nat → St → World → Prop}
def ptrs (l : List (Nat × Hd)) : List Value := l.map fun h => .pointer (some ⟨h.1, 0, none⟩)
/-- The pair at block pb: the program's volume vp and the document's vr, the handles of both. -/
structure PB (PS : (Nat → Prop) → Nat → St → World → Prop) (B pb q r : Nat) (mv dv : Value) (Gp Gr : Nat → Prop) (vp vr : Vs) (hs hd : List (Nat × Hd)) (w : World) : Prop where
  blk : w.heap[pb]? = some (.cells #[.pointer (some ⟨q, 0, none⟩), .pointer (some ⟨r, 0, none⟩), mv, dv] 43 (0, 0))
  pp : PV PS Gp q vp w
  rr : RV Gr r vr w
  apart : ∀ k, Gp k → ¬ Gr k
  plo : ∀ k, Gp k → B ≤ k
  rlo : ∀ k, Gr k → B ≤ k
  pblo : B ≤ pb
  pbG : ¬ Gp pb ∧ ¬ Gr pb
  mrow : w.ownsRow B 119 1 mv hs.length (ptrs hs)
  drow : w.ownsRow B 122 1 dv hd.length (ptrs hd)
  mG : ∀ k, mv.ownBlock = some k → ¬ Gp k ∧ ¬ Gr k
  dG : ∀ k, dv.ownBlock = some k → ¬ Gp k ∧ ¬ Gr k
  mf : ∀ (i : Nat) (a : Nat) (x : Hd), hs[i]? = some (a, x) → FileAt w a q x ∧ B ≤ a ∧ ¬ Gp a ∧ ¬ Gr a
  df : ∀ (i : Nat) (a : Nat) (x : Hd), hd[i]? = some (a, x) → RFileAt w a r x ∧ B ≤ a ∧ ¬ Gp a ∧ ¬ Gr a
  mnd : (hs.map (·.1)).Nodup
  dnd : (hd.map (·.1)).Nodup
section
variable {B pb q r : Nat} {mv dv : Value} {Gp Gr : Nat → Prop} {vp vr : Vs} {hs hd : List (Nat × Hd)} {w w' : World}
theorem PB.turn (T : PB PS B pb q r mv dv Gp Gr vp vr hs hd w) {Gp' Gr' : Nat → Prop} {vp' vr' : Vs} (hp : PV PS Gp' q vp' w') (hr : RV Gr' r vr' w')
    (hP : ∀ k, Gp' k → Gp k ∨ w.heap.size ≤ k) (hR : ∀ k, Gr' k → Gr k ∨ w.heap.size ≤ k) (hap : ∀ k, Gp' k → ¬ Gr' k)
    (hk : ∀ k, k < w.heap.size → ¬ Gp k → ¬ Gr k → w'.heap[k]? = w.heap[k]?) (hB : B ≤ w.heap.size) : PB PS B pb q r mv dv Gp' Gr' vp' vr' hs hd w' := by
  have no : ∀ k, k < w.heap.size → ¬ Gp k → ¬ Gr k → ¬ Gp' k ∧ ¬ Gr' k := fun k h1 h2 h3 => ⟨fun h => by
    rcases hP k h with h | h
    · exact h2 h
    · omega, fun h => by
    rcases hR k h with h | h
    · exact h3 h
    · omega⟩
  have pbl := (Array.getElem?_eq_some_iff.1 T.blk).1
  refine ⟨(hk pb pbl T.pbG.1 T.pbG.2).trans T.blk, hp, hr, hap, fun k h => ?_, fun k h => ?_, T.pblo, no pb pbl T.pbG.1 T.pbG.2, own_keep T.mrow fun k h => hk k (T.mrow.lt k h).2 (T.mG k h).1 (T.mG k h).2, own_keep T.drow fun k h => hk k (T.drow.lt k h).2 (T.dG k h).1 (T.dG k h).2,
    fun k h => no k (T.mrow.lt k h).2 (T.mG k h).1 (T.mG k h).2, fun k h => no k (T.drow.lt k h).2 (T.dG k h).1 (T.dG k h).2, fun i a x h => ?_, fun i a x h => ?_, T.mnd, T.dnd⟩
  · rcases hP k h with h | h
    · exact T.plo k h
    · omega
  · rcases hR k h with h | h
    · exact T.rlo k h
    · omega
  · obtain ⟨h1, h2, h3, h4⟩ := T.mf i a x h
    have hl := (Array.getElem?_eq_some_iff.1 h1).1
    exact ⟨(hk a hl h3 h4).trans h1, h2, no a hl h3 h4⟩
  · obtain ⟨h1, h2, h3, h4⟩ := T.df i a x h
    have hl := (Array.getElem?_eq_some_iff.1 h1).1
    exact ⟨(hk a hl h3 h4).trans h1, h2, no a hl h3 h4⟩
theorem PB.below (C : PC PS) (T : PB PS B pb q r mv dv Gp Gr vp vr hs hd w) (hb : Below w.heap.size w w') (hB : B ≤ w.heap.size) : PB PS B pb q r mv dv Gp Gr vp vr hs hd w' :=
  T.turn (T.pp.below C hb) (T.rr.below hb) (fun _ h => .inl h) (fun _ h => .inl h) T.apart (fun k h _ _ => hb.block k h) hB
/-- The program's volume is another one. -/
theorem PB.pstep (T : PB PS B pb q r mv dv Gp Gr vp vr hs hd w) (hB : B ≤ w.heap.size) (hk : Kp Gp w w') {G' : Nat → Prop} {vp' : Vs} (h : PV PS G' q vp' w') (hsub : ∀ k, G' k → ext Gp w w' k) : PB PS B pb q r mv dv G' Gr vp' vr hs hd w' ∧ Below B w w' := by
  refine ⟨T.turn h (T.rr.same hk.size fun k h1 h2 => hk.block k h2 fun h3 => T.apart k h3 h1) (fun k h => ?_) (fun _ h => .inl h) (fun k h h2 => ?_) (fun k h1 h2 _ => hk.block k h1 h2) hB, hk.below T.plo hB⟩
  · rcases hsub k h with h | h
    · exact .inl h
    · exact .inr h.1
  · rcases hsub k h with h | h
    · exact T.apart k h h2
    · have := T.rr.low k h2; omega
/-- The document's volume is another one. -/
theorem PB.rstep (C : PC PS) (T : PB PS B pb q r mv dv Gp Gr vp vr hs hd w) (hB : B ≤ w.heap.size) (hk : Kp Gr w w') {G' : Nat → Prop} {vr' : Vs} (h : RV G' r vr' w') (hsub : ∀ k, G' k → ext Gr w w' k) : PB PS B pb q r mv dv Gp G' vp vr' hs hd w' ∧ Below B w w' := by
  refine ⟨T.turn (T.pp.same C hk.size fun k h1 h2 => hk.block k h2 fun h3 => T.apart k h1 h3) h (fun _ h => .inl h) (fun k h => ?_) (fun k h h2 => ?_) (fun k h1 _ h2 => hk.block k h1 h2) hB, hk.below T.rlo hB⟩
  · rcases hsub k h with h | h
    · exact .inl h
    · exact .inr h.1
  · rcases hsub k h2 with h2 | h2
    · exact T.apart k h h2
    · have := T.pp.low k h; omega
theorem PB.pdid (T : PB PS B pb q r mv dv Gp Gr vp vr hs hd w) (hB : B ≤ w.heap.size) {vp' : Vs} (h : VDid PS Gp q vp' w w') : PB PS B pb q r mv dv (ext Gp w w') Gr vp' vr hs hd w' ∧ Below B w w' := T.pstep hB h.2 h.1 fun _ h => h
theorem PB.rdid (C : PC PS) (T : PB PS B pb q r mv dv Gp Gr vp vr hs hd w) (hB : B ≤ w.heap.size) {vr' : Vs} (h : RDid Gr r vr' w w') : PB PS B pb q r mv dv Gp (ext Gr w w') vp vr' hs hd w' ∧ Below B w w' := T.rstep C hB h.2 h.1 fun _ h => h
theorem PB.cells (T : PB PS B pb q r mv dv Gp Gr vp vr hs hd w) : w.cell? ⟨pb, 0, none⟩ = some (.pointer (some ⟨q, 0, none⟩)) ∧ w.cell? ⟨pb, 1, none⟩ = some (.pointer (some ⟨r, 0, none⟩)) ∧ w.cell? ⟨pb, 2, none⟩ = some mv ∧ w.cell? ⟨pb, 3, none⟩ = some dv ∧ ∀ j, w.frozen? ⟨pb, j, none⟩ = false := by
  refine ⟨?_, ?_, ?_, ?_, fun j => Lib.frozen_of_heap T.blk j⟩ <;> (rw [Lib.cell_of_heap T.blk]; rfl)
theorem PB.lt (T : PB PS B pb q r mv dv Gp Gr vp vr hs hd w) : pb < w.heap.size := (Array.getElem?_eq_some_iff.1 T.blk).1
/-- Something that was made outside the pair's memory stays. -/
theorem PB.out (T : PB PS B pb q r mv dv Gp Gr vp vr hs hd w) {k : Nat} (hk : w.heap.size ≤ k) : ¬ Gp k ∧ ¬ Gr k := ⟨fun h => by have := T.pp.low k h; omega, fun h => by have := T.rr.low k h; omega⟩
theorem ptrs_snoc (l : List (Nat × Hd)) (h : Nat × Hd) : ptrs (l ++ [h]) = ptrs l ++ [.pointer (some ⟨h.1, 0, none⟩)] := by simp [ptrs]
theorem get_snoc {α : Type} {l : List α} {y z : α} {i : Nat} (h : (l ++ [y])[i]? = some z) : l[i]? = some z ∨ z = y := by
  rcases Nat.lt_or_ge i l.length with h' | h'
  · rw [List.getElem?_append_left h'] at h; exact .inl h
  · rw [List.getElem?_append_right h'] at h
    rcases Nat.eq_zero_or_pos (i - l.length) with h0 | h0
    · rw [h0] at h; simp at h; exact .inr h.symm
    · rw [List.getElem?_eq_none (by simp; omega)] at h; cases h
/-- A handle of the program's joins. -/
theorem PB.addM (C : PC PS) (T : PB PS B pb q r mv dv Gp Gr vp vr hs hd w) (hB : B ≤ w.heap.size) {b : Nat} {x : Hd} (hf : FileAt w b q x) (hb : B ≤ b ∧ ¬ Gp b ∧ ¬ Gr b) (hn : b ∉ hs.map (·.1)) {w2 : World} {v' : Value}
    (hown : w2.ownsRow B 119 1 v' (hs.length + 1) (ptrs hs ++ [.pointer (some ⟨b, 0, none⟩)])) (hg : w.grownBy w2 mv.ownBlock) (hv' : v'.ownBlock = mv.ownBlock ∨ ∃ k, v'.ownBlock = some k ∧ w.heap.size ≤ k) :
    PB PS B pb q r v' dv Gp Gr vp vr (hs ++ [(b, x)]) hd (w2.setCell ⟨pb, 2, none⟩ v') ∧ Below B w (w2.setCell ⟨pb, 2, none⟩ v') := by
  have hsz := hg.size
  have hss : (w2.setCell ⟨pb, 2, none⟩ v').heap.size = w2.heap.size := by simp [World.setCell]
  have hpl := T.lt
  have hpm : some pb ≠ mv.ownBlock := fun e => by
    obtain ⟨cur, hc⟩ := own_typed T.mrow e.symm
    exact typed_ne T.blk hc (by decide) rfl
  have set : ∀ k, k ≠ pb → (w2.setCell ⟨pb, 2, none⟩ v').heap[k]? = w2.heap[k]? := fun k hk => Below.heap_setCell _ _ _ _ hk
  have keep : ∀ k, k < w.heap.size → k ≠ pb → some k ≠ mv.ownBlock → (w2.setCell ⟨pb, 2, none⟩ v').heap[k]? = w.heap[k]? := fun k h1 h2 h3 => (set k h2).trans (hg.block k h1 h3)
  have b2 : w2.heap[pb]? = some (.cells #[.pointer (some ⟨q, 0, none⟩), .pointer (some ⟨r, 0, none⟩), mv, dv] 43 (0, 0)) := (hg.block pb hpl hpm).trans T.blk
  have kP : ∀ k, Gp k → (w2.setCell ⟨pb, 2, none⟩ v').heap[k]? = w.heap[k]? := fun k hk => keep k (T.pp.low k hk) (fun e => T.pbG.1 (e ▸ hk)) (fun e => (T.mG k e.symm).1 hk)
  have kR : ∀ k, Gr k → (w2.setCell ⟨pb, 2, none⟩ v').heap[k]? = w.heap[k]? := fun k hk => keep k (T.rr.low k hk) (fun e => T.pbG.2 (e ▸ hk)) (fun e => (T.mG k e.symm).2 hk)
  have kT : ∀ (k : Nat) (cs : Array Value) (t : TypeId), w.heap[k]? = some (Obj.cells cs t (0, 0)) → t ≠ 43 → t ≠ 119 → (w2.setCell ⟨pb, 2, none⟩ v').heap[k]? = w.heap[k]? := fun k cs t hc n1 n2 => by
    refine keep k (Array.getElem?_eq_some_iff.1 hc).1 (fun e => typed_ne hc T.blk n1 e) (fun e => ?_)
    obtain ⟨cur, hc'⟩ := own_typed T.mrow e.symm
    exact typed_ne hc hc' n2 rfl
  refine ⟨⟨?_, T.pp.same C (by omega) fun k h _ => kP k h, T.rr.same (by omega) fun k h _ => kR k h, T.apart, T.plo, T.rlo, T.pblo, T.pbG, ?_, own_keep T.drow fun k h => ?_, fun k h => ?_, T.dG, fun i a y h => ?_, fun i a y h => ?_, ?_, T.dnd⟩, ?_⟩
  · rw [blk_set b2]; rfl
  · rw [List.length_append, ptrs_snoc]
    refine own_keep hown fun k hk => set k fun e => ?_
    obtain ⟨cur, hc⟩ := own_typed hown hk
    exact typed_ne hc b2 (by decide) e
  · obtain ⟨cur, hc⟩ := own_typed T.drow h
    exact kT k _ _ hc (by decide) (by decide)
  · rcases hv' with h' | ⟨k', h', h''⟩
    · exact T.mG k (h' ▸ h)
    · rw [h'] at h; cases h; exact T.out h''
  · rcases get_snoc h with h | h
    · obtain ⟨h1, h2, h3⟩ := T.mf i a y h
      exact ⟨(kT a _ _ h1 (by decide) (by decide)).trans h1, h2, h3⟩
    · cases h; exact ⟨(kT _ _ _ hf (by decide) (by decide)).trans hf, hb⟩
  · obtain ⟨h1, h2, h3⟩ := T.df i a y h
    exact ⟨(kT a _ _ h1 (by decide) (by decide)).trans h1, h2, h3⟩
  · rw [List.map_append, List.nodup_append]
    exact ⟨T.mnd, by simp, fun a ha c hc e => by simp at hc; subst hc; subst e; exact hn ha⟩
  · refine ⟨hg.os, hg.tape, hg.output, by omega, fun k hk => keep k (by omega) (fun e => by have := T.pblo; omega) (fun e => by have := (T.mrow.lt k e.symm).1; omega)⟩
/-- A handle of the document's joins. -/
theorem PB.addD (C : PC PS) (T : PB PS B pb q r mv dv Gp Gr vp vr hs hd w) (hB : B ≤ w.heap.size) {b : Nat} {x : Hd} (hf : RFileAt w b r x) (hb : B ≤ b ∧ ¬ Gp b ∧ ¬ Gr b) (hn : b ∉ hd.map (·.1)) {w2 : World} {v' : Value}
    (hown : w2.ownsRow B 122 1 v' (hd.length + 1) (ptrs hd ++ [.pointer (some ⟨b, 0, none⟩)])) (hg : w.grownBy w2 dv.ownBlock) (hv' : v'.ownBlock = dv.ownBlock ∨ ∃ k, v'.ownBlock = some k ∧ w.heap.size ≤ k) :
    PB PS B pb q r mv v' Gp Gr vp vr hs (hd ++ [(b, x)]) (w2.setCell ⟨pb, 3, none⟩ v') ∧ Below B w (w2.setCell ⟨pb, 3, none⟩ v') := by
  have hsz := hg.size
  have hss : (w2.setCell ⟨pb, 3, none⟩ v').heap.size = w2.heap.size := by simp [World.setCell]
  have hpl := T.lt
  have hpm : some pb ≠ dv.ownBlock := fun e => by
    obtain ⟨cur, hc⟩ := own_typed T.drow e.symm
    exact typed_ne T.blk hc (by decide) rfl
  have set : ∀ k, k ≠ pb → (w2.setCell ⟨pb, 3, none⟩ v').heap[k]? = w2.heap[k]? := fun k hk => Below.heap_setCell _ _ _ _ hk
  have keep : ∀ k, k < w.heap.size → k ≠ pb → some k ≠ dv.ownBlock → (w2.setCell ⟨pb, 3, none⟩ v').heap[k]? = w.heap[k]? := fun k h1 h2 h3 => (set k h2).trans (hg.block k h1 h3)
  have b2 : w2.heap[pb]? = some (.cells #[.pointer (some ⟨q, 0, none⟩), .pointer (some ⟨r, 0, none⟩), mv, dv] 43 (0, 0)) := (hg.block pb hpl hpm).trans T.blk
  have kP : ∀ k, Gp k → (w2.setCell ⟨pb, 3, none⟩ v').heap[k]? = w.heap[k]? := fun k hk => keep k (T.pp.low k hk) (fun e => T.pbG.1 (e ▸ hk)) (fun e => (T.dG k e.symm).1 hk)
  have kR : ∀ k, Gr k → (w2.setCell ⟨pb, 3, none⟩ v').heap[k]? = w.heap[k]? := fun k hk => keep k (T.rr.low k hk) (fun e => T.pbG.2 (e ▸ hk)) (fun e => (T.dG k e.symm).2 hk)
  have kT : ∀ (k : Nat) (cs : Array Value) (t : TypeId), w.heap[k]? = some (Obj.cells cs t (0, 0)) → t ≠ 43 → t ≠ 122 → (w2.setCell ⟨pb, 3, none⟩ v').heap[k]? = w.heap[k]? := fun k cs t hc n1 n2 => by
    refine keep k (Array.getElem?_eq_some_iff.1 hc).1 (fun e => typed_ne hc T.blk n1 e) (fun e => ?_)
    obtain ⟨cur, hc'⟩ := own_typed T.drow e.symm
    exact typed_ne hc hc' n2 rfl
  refine ⟨⟨?_, T.pp.same C (by omega) fun k h _ => kP k h, T.rr.same (by omega) fun k h _ => kR k h, T.apart, T.plo, T.rlo, T.pblo, T.pbG, own_keep T.mrow fun k h => ?_, ?_, T.mG, fun k h => ?_, fun i a y h => ?_, fun i a y h => ?_, T.mnd, ?_⟩, ?_⟩
  · rw [blk_set b2]; rfl
  · obtain ⟨cur, hc⟩ := own_typed T.mrow h
    exact kT k _ _ hc (by decide) (by decide)
  · rw [List.length_append, ptrs_snoc]
    refine own_keep hown fun k hk => set k fun e => ?_
    obtain ⟨cur, hc⟩ := own_typed hown hk
    exact typed_ne hc b2 (by decide) e
  · rcases hv' with h' | ⟨k', h', h''⟩
    · exact T.dG k (h' ▸ h)
    · rw [h'] at h; cases h; exact T.out h''
  · obtain ⟨h1, h2, h3⟩ := T.mf i a y h
    exact ⟨(kT a _ _ h1 (by decide) (by decide)).trans h1, h2, h3⟩
  · rcases get_snoc h with h | h
    · obtain ⟨h1, h2, h3⟩ := T.df i a y h
      exact ⟨(kT a _ _ h1 (by decide) (by decide)).trans h1, h2, h3⟩
    · cases h; exact ⟨(kT _ _ _ hf (by decide) (by decide)).trans hf, hb⟩
  · rw [List.map_append, List.nodup_append]
    exact ⟨T.dnd, by simp, fun a ha c hc e => by simp at hc; subst hc; subst e; exact hn ha⟩
  · refine ⟨hg.os, hg.tape, hg.output, by omega, fun k hk => keep k (by omega) (fun e => by have := T.pblo; omega) (fun e => by have := (T.drow.lt k e.symm).1; omega)⟩
theorem nodup_other {l : List (Nat × Hd)} (hn : (l.map (·.1)).Nodup) {i j a b : Nat} {x y : Hd} (hi : l[i]? = some (a, x)) (hj : l[j]? = some (b, y)) (hne : i ≠ j) : a ≠ b := by
  intro e
  have h1 : (l.map (·.1))[i]? = some a := by rw [List.getElem?_map, hi]; rfl
  have h2 : (l.map (·.1))[j]? = some a := by rw [List.getElem?_map, hj, e]; rfl
  have hl := (List.getElem?_eq_some_iff.1 h1).1
  exact hne ((List.getElem?_inj hl hn).1 (h1.trans h2.symm))
theorem ptrs_set (l : List (Nat × Hd)) (i a : Nat) (x y : Hd) (h : l[i]? = some (a, x)) : ptrs (l.set i (a, y)) = ptrs l ∧ (l.set i (a, y)).map (·.1) = l.map (·.1) := by
  have key : ∀ {β : Type} (f : Nat × Hd → β), f (a, y) = f (a, x) → (l.set i (a, y)).map f = l.map f := fun f hf => by
    rw [List.map_set, hf]
    apply List.ext_getElem?
    intro j
    rw [List.getElem?_set]
    split
    · rename_i e
      subst e
      split
      · rw [List.getElem?_map, h]; rfl
      · rename_i hl
        rw [List.getElem?_eq_none (by simpa using hl)]
    · rfl
  exact ⟨key _ rfl, key _ rfl⟩
theorem get_set {l : List (Nat × Hd)} {i j a b : Nat} {x y z : Hd} (h : l[i]? = some (a, x)) (hj : (l.set i (a, y))[j]? = some (b, z)) : (j = i ∧ b = a ∧ z = y) ∨ (j ≠ i ∧ l[j]? = some (b, z)) := by
  rw [List.getElem?_set] at hj
  split at hj
  · rename_i e
    subst e
    rw [if_pos (List.getElem?_eq_some_iff.1 h).1] at hj
    cases hj; exact .inl ⟨rfl, rfl, rfl⟩
  · rename_i e; exact .inr ⟨fun e' => e e'.symm, hj⟩
/-- A handle of the program's is another one. -/
theorem PB.setM (C : PC PS) (T : PB PS B pb q r mv dv Gp Gr vp vr hs hd w) (hB : B ≤ w.heap.size) {i a : Nat} {x y : Hd} (hi : hs[i]? = some (a, x)) (hf : FileAt w' a q y) (hk : Kp (fun k => k = a) w w') : PB PS B pb q r mv dv Gp Gr vp vr (hs.set i (a, y)) hd w' ∧ Below B w w' := by
  obtain ⟨ha, hBa, hGa, hRa⟩ := T.mf i a x hi
  have kp : ∀ k, k < w.heap.size → k ≠ a → w'.heap[k]? = w.heap[k]? := fun k h1 h2 => hk.block k h1 h2
  have kT : ∀ (k : Nat) (cs : Array Value) (t : TypeId), w.heap[k]? = some (Obj.cells cs t (0, 0)) → t ≠ 163 → w'.heap[k]? = w.heap[k]? := fun k cs t hc hn => kp k (Array.getElem?_eq_some_iff.1 hc).1 (typed_ne hc ha hn)
  obtain ⟨e1, e2⟩ := ptrs_set hs i a x y hi
  refine ⟨⟨(kT _ _ _ T.blk (by decide)).trans T.blk, T.pp.same C hk.size fun k h1 h2 => kp k h2 fun e => hGa (e ▸ h1), T.rr.same hk.size fun k h1 h2 => kp k h2 fun e => hRa (e ▸ h1), T.apart, T.plo, T.rlo, T.pblo, T.pbG, ?_, own_keep T.drow fun k h => ?_, T.mG, T.dG, fun j b z hj => ?_, fun j b z hj => ?_, by rw [e2]; exact T.mnd, T.dnd⟩, ⟨hk.os, hk.tape, hk.output, hk.size, fun k h1 => kp k (by omega) (by omega)⟩⟩
  · rw [e1, List.length_set]
    refine own_keep T.mrow fun k h => ?_
    obtain ⟨cur, hc⟩ := own_typed T.mrow h
    exact kT k _ _ hc (by decide)
  · obtain ⟨cur, hc⟩ := own_typed T.drow h
    exact kT k _ _ hc (by decide)
  · rcases get_set hi hj with ⟨rfl, rfl, rfl⟩ | ⟨hne, hj⟩
    · exact ⟨hf, hBa, hGa, hRa⟩
    · obtain ⟨h1, h2⟩ := T.mf j b z hj
      exact ⟨(kp b (Array.getElem?_eq_some_iff.1 h1).1 (nodup_other T.mnd hj hi hne)).trans h1, h2⟩
  · obtain ⟨h1, h2⟩ := T.df j b z hj
    exact ⟨(kT b _ _ h1 (by decide)).trans h1, h2⟩
/-- A handle of the document's is another one. -/
theorem PB.setD (C : PC PS) (T : PB PS B pb q r mv dv Gp Gr vp vr hs hd w) (hB : B ≤ w.heap.size) {i a : Nat} {x y : Hd} (hi : hd[i]? = some (a, x)) (hf : RFileAt w' a r y) (hk : Kp (fun k => k = a) w w') : PB PS B pb q r mv dv Gp Gr vp vr hs (hd.set i (a, y)) w' ∧ Below B w w' := by
  obtain ⟨ha, hBa, hGa, hRa⟩ := T.df i a x hi
  have kp : ∀ k, k < w.heap.size → k ≠ a → w'.heap[k]? = w.heap[k]? := fun k h1 h2 => hk.block k h1 h2
  have kT : ∀ (k : Nat) (cs : Array Value) (t : TypeId), w.heap[k]? = some (Obj.cells cs t (0, 0)) → t ≠ 130 → w'.heap[k]? = w.heap[k]? := fun k cs t hc hn => kp k (Array.getElem?_eq_some_iff.1 hc).1 (typed_ne hc ha hn)
  obtain ⟨e1, e2⟩ := ptrs_set hd i a x y hi
  refine ⟨⟨(kT _ _ _ T.blk (by decide)).trans T.blk, T.pp.same C hk.size fun k h1 h2 => kp k h2 fun e => hGa (e ▸ h1), T.rr.same hk.size fun k h1 h2 => kp k h2 fun e => hRa (e ▸ h1), T.apart, T.plo, T.rlo, T.pblo, T.pbG, own_keep T.mrow fun k h => ?_, ?_, T.mG, T.dG, fun j b z hj => ?_, fun j b z hj => ?_, T.mnd, by rw [e2]; exact T.dnd⟩, ⟨hk.os, hk.tape, hk.output, hk.size, fun k h1 => kp k (by omega) (by omega)⟩⟩
  · obtain ⟨cur, hc⟩ := own_typed T.mrow h
    exact kT k _ _ hc (by decide)
  · rw [e1, List.length_set]
    refine own_keep T.drow fun k h => ?_
    obtain ⟨cur, hc⟩ := own_typed T.drow h
    exact kT k _ _ hc (by decide)
  · obtain ⟨h1, h2⟩ := T.mf j b z hj
    exact ⟨(kT b _ _ h1 (by decide)).trans h1, h2⟩
  · rcases get_set hi hj with ⟨rfl, rfl, rfl⟩ | ⟨hne, hj⟩
    · exact ⟨hf, hBa, hGa, hRa⟩
    · obtain ⟨h1, h2⟩ := T.df j b z hj
      exact ⟨(kp b (Array.getElem?_eq_some_iff.1 h1).1 (nodup_other T.dnd hj hi hne)).trans h1, h2⟩
end
/-- Both volumes alike behind k calls. -/
def Bx (PS : (Nat → Prop) → Nat → St → World → Prop) (B pb k : Nat) (w : World) : Prop :=
  ∃ q r mv dv Gp Gr v hs hd, PB PS B pb q r mv dv Gp Gr v v hs hd w ∧ hs.map (·.2) = hd.map (·.2) ∧ Vf v k ∧ hs.length ≤ k
theorem Bx.below (C : PC PS) {B pb k : Nat} {w w' : World} (h : Bx PS B pb k w) (hb : Below w.heap.size w w') (hB : B ≤ w.heap.size) : Bx PS B pb k w' := by
  obtain ⟨q, r, mv, dv, Gp, Gr, v, hs, hd, T, rest⟩ := h
  exact ⟨q, r, mv, dv, Gp, Gr, v, hs, hd, T.below C hb hB, rest⟩
theorem Bx.more {B pb k : Nat} {w : World} (h : Bx PS B pb k w) : Bx PS B pb (k + 1) w := by
  obtain ⟨q, r, mv, dv, Gp, Gr, v, hs, hd, T, h1, h2, h3⟩ := h
  exact ⟨q, r, mv, dv, Gp, Gr, v, hs, hd, T, h1, h2.mono (Nat.le_succ k), by omega⟩
end Go.Proofs.YtloljimabapicacGreat
