
-- The document's Decode (5): whole.
import Derived.Test.YtdamhdceajmdfaaDoorDX
import Derived.Test.YtdamhdceajmdfaaDoorDK
import Derived.Test.YtdamhdceajmdfaaDoorPS
namespace Go.Proofs.YtdamhdceajmdfaaDoor
open Go.ChangeShapes Go.WideShapes Go.ChangeAt Go.RowKit Go.MapKept
set_option linter.unusedVariables false
set_option maxRecDepth 100000
set_option linter.unusedSimpArgs false
/-- names that lie in a block of texts below N -/
def NmOk (N : Nat) (w : World) (u : Value) (L : List ByteArray) : Prop := RowT w u L ∧ ∀ b, blkV u = some b → b < N ∧ ∃ cur, w.heap[b]? = some (.cells cur 9 (0, 0))
theorem rowT_blk {w w' : World} {v : Value} {L : List ByteArray} (h : RowT w v L) (hk : ∀ b, blkV v = some b → w'.heap[b]? = w.heap[b]?) : RowT w' v L := by
  obtain ⟨ao, c, e, h1, h2, h3, h4⟩ := h
  refine ⟨ao, c, e, h1, h2, h3, fun hp => ?_⟩
  obtain ⟨b, off, e2, hc⟩ := h4 hp
  refine ⟨b, off, e2, fun j u hu => ?_⟩
  have := hk b (by rw [e, e2]; rfl)
  rw [← hc j u hu]
  unfold World.cell?
  simp only [this]
theorem NmOk.keep {N N' : Nat} {w w' : World} {u : Value} {L : List ByteArray} (h : NmOk N w u L) (hN : N ≤ N') (hk : ∀ b, b < N → (∃ cur, w.heap[b]? = some (.cells cur 9 (0, 0))) → w'.heap[b]? = w.heap[b]?) : NmOk N' w' u L :=
  ⟨rowT_blk h.1 fun b hb => hk b (h.2 b hb).1 (h.2 b hb).2, fun b hb => ⟨Nat.lt_of_lt_of_le (h.2 b hb).1 hN, by obtain ⟨cur, hc⟩ := (h.2 b hb).2; exact ⟨cur, (hk b (h.2 b hb).1 ⟨cur, hc⟩).trans hc⟩⟩⟩
/-- the state behind k lines -/
def fk (TL : List (List ByteArray)) (k : Nat) : CSt := (TL.take k).foldl stepC ([], false, 0)
theorem fk_succ {TL : List (List ByteArray)} {k : Nat} {m : List ByteArray} (h : TL[k]? = some m) : fk TL (k + 1) = stepC (fk TL k) m := by
  unfold fk; rw [takeSucc h, List.foldl_append]; rfl
theorem modLast {α : Type} (A : List α) (x : α) (f : α → α) : (A ++ [x]).modify ((A ++ [x]).length - 1) f = A ++ [f x] := by
  rw [List.length_append, List.length_cons, List.length_nil, show A.length + (0 + 1) - 1 = A.length from by omega]
  exact modify_last A x f
structure Dst (TL : List (List ByteArray)) (k q : Nat) (G0 : List (Nat × List ByteArray)) (T : List ByteArray) (ct : Bool) (L : List Mr) : Prop where
  lst : (fk TL k).1 = if ct then G0 ++ [(q, T)] else G0
  con : (fk TL k).2.1 = ct ∨ k = TL.length
  num : (fk TL k).2.2 = k
  nil : ct = false → T = [] ∧ q = k + 1
  done : ∀ R, decG (G0 ++ R) [] = decG R L
theorem dst_start (TL : List (List ByteArray)) : Dst TL 0 1 [] [] false [] := ⟨rfl, .inl rfl, rfl, fun _ => ⟨rfl, rfl⟩, fun R => rfl⟩
theorem dst_step {TL : List (List ByteArray)} {k q : Nat} {G0 : List (Nat × List ByteArray)} {T m : List ByteArray} {ct : Bool} {L : List Mr} (h : Dst TL k q G0 T ct L) (hm : TL[k]? = some m) : fk TL (k + 1) = (G0 ++ [(q, T ++ cutP m)], isPlus m, k + 1) := by
  have hk : k < TL.length := (List.getElem?_eq_some_iff.1 hm).1
  have hc : (fk TL k).2.1 = ct := h.con.resolve_right (by omega)
  have e : fk TL k = ((if ct then G0 ++ [(q, T)] else G0), ct, k) := by
    rw [← h.lst, ← hc]
    conv => lhs; rw [show fk TL k = ((fk TL k).1, (fk TL k).2.1, (fk TL k).2.2) from rfl]
    rw [h.num]
  rw [fk_succ hm, e]
  cases ct with
  | false =>
    obtain ⟨rfl, rfl⟩ := h.nil rfl
    simp only [Bool.false_eq_true, if_false]
    rw [step_new, List.nil_append]
  | true =>
    simp only [if_true]
    unfold stepC
    simp only [if_true]
    rw [modLast]
theorem dst_more {TL : List (List ByteArray)} {k q : Nat} {G0 : List (Nat × List ByteArray)} {T m : List ByteArray} {ct : Bool} {L : List Mr} (h : Dst TL k q G0 T ct L) (hm : TL[k]? = some m) (hp : isPlus m = true) : Dst TL (k + 1) q G0 (T ++ cutP m) true L := by
  have e := dst_step h hm
  exact ⟨by rw [e]; rfl, .inl (by rw [e]; exact hp), by rw [e], (fun q => by cases q), h.done⟩
theorem dst_next {TL : List (List ByteArray)} {k q : Nat} {G0 : List (Nat × List ByteArray)} {T m : List ByteArray} {ct : Bool} {L L' : List Mr} (h : Dst TL k q G0 T ct L) (hm : TL[k]? = some m) (hp : isPlus m = false ∨ k + 1 = TL.length) (hL : ∀ R, decG ((q, T ++ cutP m) :: R) L = decG R L') : Dst TL (k + 1) (k + 2) (G0 ++ [(q, T ++ cutP m)]) [] false L' := by
  have e := dst_step h hm
  refine ⟨by rw [e]; rfl, ?_, by rw [e], fun _ => ⟨rfl, rfl⟩, fun R => ?_⟩
  · rcases hp with hp | hp
    · exact .inl (by rw [e]; exact hp)
    · exact .inr hp
  · rw [List.append_assoc, h.done, List.cons_append, List.nil_append, hL]
theorem fk_all (TL : List (List ByteArray)) : fk TL TL.length = TL.foldl stepC ([], false, 0) := by unfold fk; rw [List.take_length]
theorem dst_bad {TL : List (List ByteArray)} {k q : Nat} {G0 : List (Nat × List ByteArray)} {T m : List ByteArray} {ct : Bool} {L : List Mr} (h : Dst TL k q G0 T ct L) (hm : TL[k]? = some m) (hp : isPlus m = false ∨ k + 1 = TL.length) (hT : T ++ cutP m ≠ []) {e : Int} (he : cmdA (T ++ cutP m) = .inl e) : decG (groups TL) [] = ([], q, e) := by
  have hs := dst_step h hm
  have hg : ∃ B, groups TL = G0 ++ [(q, T ++ cutP m)] ++ B := by
    have : groups TL = ((TL.drop (k + 1)).foldl stepC (fk TL (k + 1))).1 := by
      unfold groups fk
      rw [← List.foldl_append, List.take_append_drop]
    rw [this, hs]
    rcases hp with hp | hp
    · rw [hp]
      obtain ⟨B', hB⟩ := fold_ahead (TL.drop (k + 1)) (G0 ++ [(q, T ++ cutP m)]) [] false (k + 1) (fun q => by cases q)
      rw [List.append_nil] at hB
      exact ⟨B', hB⟩
    · rw [List.drop_of_length_le (by omega)]
      exact ⟨[], by simp⟩
  obtain ⟨B, hB⟩ := hg
  rw [hB, List.append_assoc, h.done, List.cons_append, decG, if_neg hT, he]
theorem dst_end {TL : List (List ByteArray)} {q : Nat} {G0 : List (Nat × List ByteArray)} {L : List Mr} (h : Dst TL TL.length q G0 [] false L) : decG (groups TL) [] = (L, 0, 0) := by
  have : groups TL = G0 := by
    have := h.lst
    rw [fk_all] at this
    exact this
  rw [this]
  have := h.done []
  rw [List.append_nil] at this
  rw [this, decG]
theorem dst_bound {l : List UInt8} {k q : Nat} {G0 : List (Nat × List ByteArray)} {T m : List ByteArray} {ct : Bool} {L : List Mr} (h : Dst ((linesL l).map tokL) k q G0 T ct L) (hm : ((linesL l).map tokL)[k]? = some m) : (T ++ cutP m).length ≤ l.length ∧ sumS (T ++ cutP m) ≤ 2 * l.length := by
  have hs := dst_step h hm
  have h1 := fold_bound ((linesL l).take (k + 1)) [] false 0 0 (by simp) (q, T ++ cutP m) (by
    have e : ((linesL l).take (k + 1)).map tokL = ((linesL l).map tokL).take (k + 1) := List.map_take
    rw [e]
    have : (fk ((linesL l).map tokL) (k + 1)).1 = G0 ++ [(q, T ++ cutP m)] := by rw [hs]
    unfold fk at this
    rw [this]; simp)
  have h2 := lnG_tot l []
  have h3 : (((linesL l).take (k + 1)).map List.length).sum ≤ ((linesL l).map List.length).sum := by
    conv => rhs; rw [← List.take_append_drop (k + 1) (linesL l)]
    rw [List.map_append, List.sum_append]; omega
  unfold linesL at h1 h3
  simp only [List.length_nil] at h2
  simp only at h1
  omega
def RdSays (s : ByteArray) (w : World) (e : Ending) (w' : World) : Prop := ∃ v P n k, e = .returned (.tuple #[v, .int .i64 (n : Nat), .int .i64 k]) ∧ RowR w' v P ∧ decT (byL s) = (P.map (·.1), n, k) ∧ Below w.heap.size w w'
def DdRel (w1 : World) (TL : List (List ByteArray)) (n : Nat) (o t f i : Value) (wx : World) : Prop := ∃ (k q N : Nat) (P : List (Mr × Value)) (T : List ByteArray) (G0 : List (Nat × List ByteArray)) (ct : Bool), i = .int .i64 k ∧ f = .int .i64 (q : Nat) ∧ k ≤ n ∧ w1.heap.size ≤ N ∧ N ≤ wx.heap.size ∧ OwnF (fun b => w1.heap.size ≤ b) mrL 3 28 wx o P ∧ P.length ≤ k ∧ (∀ p ∈ P, NmOk N wx p.2 p.1.ns) ∧ OwnF (fun b => N ≤ b) txL 1 9 wx t T ∧ Dst TL k q G0 T ct (P.map (·.1)) ∧ (k = n → ct = false) ∧ Below w1.heap.size w1 wx
end Go.Proofs.YtdamhdceajmdfaaDoor
