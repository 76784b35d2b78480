
-- A range over a function whose iterator keeps its state in one box that was made ahead of the loop: that block alone turns under the iterator's hand.
import Derived.Test.YtdamhdceajmdfaaDoorRows
import Derived.RangeFuncNested
import Derived.RangeFuncBound
import Derived.RangeFuncCalls
import Derived.RangeFuncLeaves
import Derived.RangeFuncBox
import Derived.Shelf.Abstract
import Derived.WalkKit
import Derived.OwnWalkIn
import Derived.TacticsInMore
import Derived.LoopNIn
import Derived.LoopIn
import Derived.Maps.AppendAt
namespace Go.Proofs.YtdamhdceajmdfaaDoor
open Go.RowKit Go.Shelf
set_option linter.unusedVariables false
set_option maxRecDepth 100000

/-- an iterator's own steps: every block but its own lies as it lay -/
structure Ab (q : Nat) (W W' : World) : Prop where
  os : W'.os = W.os
  tape : W'.tape = W.tape
  output : W'.output = W.output
  size : W.heap.size ≤ W'.heap.size
  block : ∀ k, k < W.heap.size → k ≠ q → W'.heap[k]? = W.heap[k]?
/-- the same, and what is no cells may turn -/
structure Tn (q B : Nat) (W W' : World) : Prop where
  os : W'.os = W.os
  tape : W'.tape = W.tape
  output : W'.output = W.output
  size : W.heap.size ≤ W'.heap.size
  block : ∀ k o, W.heap[k]? = some o → k ≠ q → (k < B ∨ o.isCells = true) → W'.heap[k]? = some o
theorem Ab.tn {q B : Nat} {W W' : World} (h : Ab q W W') : Tn q B W W' :=
  ⟨h.os, h.tape, h.output, h.size, fun k o hk hq hc => (h.block k (Array.getElem?_eq_some_iff.1 hk).1 hq).trans hk⟩
theorem Ab.of {q : Nat} {W W' : World} (h : Below W.heap.size W W') : Ab q W W' := ⟨h.os, h.tape, h.output, h.size, fun k hk _ => h.block k hk⟩
theorem Ab.keeps {q : Nat} {W W' : World} (h : Ab q W W') {k : Nat} {o : Obj} (hk : W.heap[k]? = some o) (ho : k ≠ q) : W'.heap[k]? = some o := (h.block k (Array.getElem?_eq_some_iff.1 hk).1 ho).trans hk
theorem Tn.putObj {q B : Nat} (W : World) (l : Nat) (o o' : Obj) (hB : B ≤ l) (hl : W.heap[l]? = some o) (ho : o.isCells = false) : Tn q B W (W.putObj l o') := by
  have g := grownBy_putObj' W l o'
  refine ⟨g.os, g.tape, g.output, g.size, fun k x hk hq hc => (g.block k (Array.getElem?_eq_some_iff.1 hk).1 ?_).trans hk⟩
  intro e
  injection e with e
  subst e
  rcases hc with h | h
  · omega
  · rw [hl] at hk; injection hk with hk; rw [← hk, ho] at h; cases h
theorem Tn.of {q B : Nat} {W W' : World} (h : Below W.heap.size W W') : Tn q B W W' := (Ab.of h).tn

/-- what is said of a world abides the turns -/
def TnOk {β : Type} (q : Nat) (B : Nat) (I : β → World → Prop) : Prop := ∀ s W W', I s W → Tn q B W W' → I s W'
/-- the contract of such an iterator -/
def SeqT {α : Type} (q : Nat) (F : Fence) (n : Nat) (P : Program) (g : Nat) (lb : Array Value) (encs : α → Array Value) (Kp : World → World → Prop) (S Sp : List α → Prop) (Ok : List α → α → Prop) (w : World) : Prop :=
  ∀ (l : Nat) (J Jx : List α → World → Prop) (W : World), Below w.heap.size w W → (∀ s A C, J s A → Ab q A C → J s C) → (∀ s A C, Jx s A → Ab q A C → Jx s C) →
    (∀ pre x W1, J pre W1 → Ok pre x → YieldAt F (n - 1) P l (encs x) W1 fun e W' =>
      (e = .returned (.bool true) ∧ J (pre ++ [x]) W' ∧ Kp W1 W') ∨ (e = .returned (.bool false) ∧ Jx (pre ++ [x]) W')) →
    J [] W →
    CallsIn F n P g (#[.func (.yield l) #[] #[]] ++ lb) W fun e W' => (∃ v, e = .returned v) ∧ ((∃ xs, S xs ∧ J xs W') ∨ (∃ pre, Sp pre ∧ Jx pre W'))

variable {F : Fence} {n : Nat} {P : Program}

theorem rangeT {α : Type} {q : Nat} {g : Operand} {ps : Array Tmp} {assign body : Code} {Q : Exit → Act → World → Prop} {a : Act} {w : World}
    (hqw : q < w.heap.size) (hro : F.round = none) (h1 : 1 ≤ n) {gf : Nat} {lb : Array Value} (hg : a.eval g = .func (.func gf) #[] lb) (hFg : F.fn gf) (eg : ∀ args w, (callFunc gf args).run P w = .ok (.enter gf args) w)
    {encs : α → Array Value} {Kp : World → World → Prop} {S Sp : List α → Prop} {Ok : List α → α → Prop} (hseq : SeqT q F (n - 1) P gf lb encs Kp S Sp Ok w)
    (hKt : ∀ {A B C : World}, Kp A B → Kp B C → Kp A C) (hKb : ∀ (W : World) (l : Nat) (o o' : Obj), w.heap.size ≤ l → W.heap[l]? = some o → o.isCells = false → Kp W (W.putObj l o')) (hps : ∀ x, (encs x).size = ps.size)
    (I : List α → World → Prop) (Ix : Code → List α → World → Prop) (hI : TnOk q w.heap.size I) (hIx : ∀ c, TnOk q w.heap.size (Ix c)) (h0 : I [] w) (Ax : α → Act → World → Prop) (hAx : ∀ x a', TnOk q w.heap.size (fun (_ : Unit) W => Ax x a' W))
    (hassign : ∀ (l : Nat) (pre : List α) (x : α) (W : World) (K : Act → World → Prop), I pre W → (∀ a' W', KeepsFrom w.heap.size W W' → Kp W W' → I pre W' → Ax x a' W' → K a' W') →
      assign.wpIn (F.inRound l) (n - 1 - 1) P (Exit.then K (fun _ _ _ => False)) { tmps := (ps.zip (encs x)).foldl (fun t (p, v) => t.setIfInBounds p v) a.tmps, defers := [] } W)
    (hbody : ∀ (l : Nat) (pre : List α) (x : α) (a' : Act) (W : World), I pre W → Ax x a' W → Ok pre x → body.wpIn (F.inRound l) (n - 1 - 1) P (ownPostG w.heap.size Kp I Ix (pre ++ [x]) W) a' W)
    (hdone : ∀ (D : Nat) (xs : List α) (W : World), w.heap.size ≤ D → S xs → I xs W → W.heap[D]? = some (.deferred (some [])) → Q .normal { a with defers := { target := .collected D, args := #[] } :: a.defers } W)
    (hstop : ∀ (D : Nat) (c : Code) (pre : List α) (W : World), w.heap.size ≤ D → Sp pre → Ix c pre W → W.heap[D]? = some (.deferred (some [])) → c.wpIn F n P Q { a with defers := { target := .collected D, args := #[] } :: a.defers } W) :
    (Code.rangeFunc g ps assign body).wpIn F n P Q a w := by
  refine wpIn_rangeFunc fun fn hfn => ?_
  rw [hro]
  -- the loop's record and the block of the deferred calls
  let rc : LoopState → Option Code → Loop := fun st pe => { state := st, pending := pe, fn, tmps := a.tmps, params := ps, assign, body, defers := w.heap.size }
  have hsz : (w.alloc (.deferred (some []))).heap.size = w.heap.size + 1 := World.size_alloc _ _
  obtain ⟨V, hV⟩ : ∃ V, V = (w.alloc (.deferred (some []))).alloc (.loop (rc .ready none)) := ⟨_, rfl⟩
  have hVb : Below w.heap.size w V := by rw [hV]; exact ((Below.refl _ w).alloc (Nat.le_refl _) _).alloc (by rw [hsz]; omega) _
  have hVs : V.heap.size = w.heap.size + 2 := by rw [hV, World.size_alloc, hsz]
  have hL : V.heap[w.heap.size + 1]? = some (.loop (rc .ready none)) := by
    have h := World.alloc_heap_new (w.alloc (.deferred (some []))) (.loop (rc .ready none))
    rw [hsz] at h; rw [hV]; exact h
  have hD : V.heap[w.heap.size]? = some (.deferred (some [])) := by
    rw [hV]; exact (Below.heap_alloc _ _ _ (by rw [hsz]; omega)).trans (World.alloc_heap_new w _)
  refine ⟨w.heap.size + 1, [{ target := .collected w.heap.size, args := #[] }], V, { target := .fn (.func gf) lb, args := #[.func (.yield (w.heap.size + 1)) #[] #[]] }, V, gf,
    #[.func (.yield (w.heap.size + 1)) #[] #[]] ++ lb, V, ?_, ?_, ?_, ?_, fun _ => h1, ?_⟩
  · rw [hV]; exact run_enterLoop_outer _ _ _ _ _
  · simp only [resolve, hg]; simp [go_sem]
  · intro f' hf'; simp [Target.leads] at hf'; subst hf'; exact hFg
  · simp [invoke, go_sem, eg]
  have tI : ∀ {s A C}, I s A → Tn q w.heap.size A C → I s C := fun {s A C} h k => hI s A C h k
  have tX : ∀ {c s A C}, Ix c s A → Tn q w.heap.size A C → Ix c s C := fun {c s A C} h k => hIx c s A C h k
  refine (hseq (w.heap.size + 1)
    (fun pre W => I pre W ∧ W.heap[w.heap.size + 1]? = some (.loop (rc .ready none)) ∧ W.heap[w.heap.size]? = some (.deferred (some [])))
    (fun pre W => ∃ c, Ix c pre W ∧ W.heap[w.heap.size + 1]? = some (.loop (rc .done (some c))) ∧ W.heap[w.heap.size]? = some (.deferred (some [])))
    V hVb (fun s A C h k => ⟨tI h.1 k.tn, k.keeps h.2.1 (by omega), k.keeps h.2.2 (by omega)⟩)
    (fun s A C h k => by obtain ⟨c, h1, h2, h3⟩ := h; exact ⟨c, tX h1 k.tn, k.keeps h2 (by omega), k.keeps h3 (by omega)⟩)
    ?_ ⟨tI h0 (Tn.of hVb), hL, hD⟩).mono ?_
  · -- a round
    rintro pre x W ⟨hi, hl, hk⟩ hlen
    have hy := run_yield (P := P) (args := encs x) hl (hps x)
    refine ⟨fn, _, assign, body, hy, roundIn_of_wpIn hfn (hassign _ pre x W _ hi ?_)⟩
    intro a' V1 kf kp hi1 hax
    have hl1 := kf.same _ _ (Nat.le_succ _) hl rfl
    have hk1 := kf.same _ _ (Nat.le_refl _) hk rfl
    have hlt1 : w.heap.size + 1 < V1.heap.size := (Array.getElem?_eq_some_iff.1 hl1).1
    refine ⟨_, run_beginRound hl1 rfl, ?_⟩
    obtain ⟨V2, hV2⟩ : ∃ V2, V2 = V1.putObj (w.heap.size + 1) (.loop { rc .ready none with state := .busy }) := ⟨_, rfl⟩
    rw [← hV2]
    have tn2 : Tn q w.heap.size V1 V2 := by rw [hV2]; exact Tn.putObj V1 _ _ _ (Nat.le_succ _) hl1 rfl
    have hl2 : V2.heap[w.heap.size + 1]? = some (.loop { rc .ready none with state := .busy }) := by rw [hV2]; exact World.putObj_heap_same hlt1
    have hk2 : V2.heap[w.heap.size]? = some (.deferred (some [])) := by rw [hV2]; exact (World.putObj_heap_other (by omega)).trans hk1
    have kp2 : Kp V1 V2 := by rw [hV2]; exact hKb _ _ _ _ (Nat.le_succ _) hl1 rfl
    refine wpIn_mono (hbody _ pre x a' V2 (tI hi1 tn2) (hAx x a' () V1 V2 hax tn2) hlen) ?_
    have fin : ∀ (jump : Option Code) (W3 : World), KeepsFrom w.heap.size V2 W3 →
        (Instr.endRound (w.heap.size + 1) jump).run P W3 = .ok (.bool jump.isNone) (W3.putObj (w.heap.size + 1) (.loop (rc (if jump.isNone then .ready else .done) jump))) ∧
        W3.heap[w.heap.size + 1]? = some (.loop { rc .ready none with state := .busy }) ∧
        (W3.putObj (w.heap.size + 1) (.loop (rc (if jump.isNone then .ready else .done) jump))).heap[w.heap.size + 1]? = some (.loop (rc (if jump.isNone then .ready else .done) jump)) ∧
        (W3.putObj (w.heap.size + 1) (.loop (rc (if jump.isNone then .ready else .done) jump))).heap[w.heap.size]? = some (.deferred (some [])) := fun jump W3 kf3 => by
      have hl3 := kf3.same _ _ (Nat.le_succ _) hl2 rfl
      exact ⟨run_endRound (P := P) jump hl3, hl3, World.putObj_heap_same (Array.getElem?_eq_some_iff.1 hl3).1, (World.putObj_heap_other (by omega)).trans (kf3.same _ _ (Nat.le_refl _) hk2 rfl)⟩
    have lv : ∀ (c : Code) (W3 : World), KeepsFrom w.heap.size V2 W3 → Ix c (pre ++ [x]) W3 → ∃ u W4, (Instr.endRound (w.heap.size + 1) (some c)).run P W3 = .ok u W4 ∧ u = .bool false ∧ (∃ c, Ix c (pre ++ [x]) W4 ∧ W4.heap[w.heap.size + 1]? = some (.loop (rc .done (some c))) ∧ W4.heap[w.heap.size]? = some (.deferred (some []))) := fun c W3 kf3 hx3 => by
      obtain ⟨hr, hl3, hl4, hk4⟩ := fin (some c) W3 kf3
      exact ⟨_, _, hr, rfl, c, tX hx3 (Tn.putObj W3 _ _ _ (Nat.le_succ _) hl3 rfl), hl4, hk4⟩
    rintro e a3 W3 hp
    cases e with
    | normal =>
      obtain ⟨kf3, kp3, hi3⟩ := hp
      obtain ⟨hr, hl3, hl4, hk4⟩ := fin none W3 kf3
      exact ⟨_, _, hr, .inl ⟨rfl, ⟨tI hi3 (Tn.putObj W3 _ _ _ (Nat.le_succ _) hl3 rfl), hl4, hk4⟩, hKt kp (hKt (hKt kp2 kp3) (hKb _ _ _ _ (Nat.le_succ _) hl3 rfl))⟩⟩
    | ret => obtain ⟨u, W4, hr, hu, h⟩ := lv .ret W3 hp.1 hp.2; exact ⟨_, _, hr, .inr ⟨by rw [hu], h⟩⟩
    | exit id => obtain ⟨u, W4, hr, hu, h⟩ := lv (.exit id) W3 hp.1 hp.2; exact ⟨_, _, hr, .inr ⟨by rw [hu], h⟩⟩
    | goto t => obtain ⟨u, W4, hr, hu, h⟩ := lv (.goto t) W3 hp.1 hp.2; exact ⟨_, _, hr, .inr ⟨by rw [hu], h⟩⟩
    | panic ch => exact hp.elim
    | outgrown => exact hp.elim
  · -- behind the iterator
    rintro e W2 ⟨⟨v, rfl⟩, (⟨xs, hS, hi, hl, hk⟩ | ⟨pre, hSp, c, hi, hl, hk⟩)⟩
    · exact ⟨none, _, run_endLoop (P := P) hl (by simp), hdone _ xs _ (Nat.le_refl _) hS (tI hi (Tn.putObj W2 _ _ _ (Nat.le_succ _) hl rfl)) ((World.putObj_heap_other (by omega)).trans hk)⟩
    · exact ⟨some c, _, run_endLoop (P := P) hl (by simp), hstop _ c pre _ (Nat.le_refl _) hSp (tX hi (Tn.putObj W2 _ _ _ (Nat.le_succ _) hl rfl)) ((World.putObj_heap_other (by omega)).trans hk)⟩
end Go.Proofs.YtdamhdceajmdfaaDoor
