
-- commandLines: a text's command lines.
import Derived.Test.YtdamhdceajmdfaaDoorC0
import Derived.Test.YtdamhdceajmdfaaDoorW3
namespace Go.Proofs.YtdamhdceajmdfaaDoor
open Go.RowKit Go.Shelf Go.ChangeShapes Go.WideShapes Go.ChangeAt Go.MapKept
set_option linter.unusedVariables false
set_option maxRecDepth 100000
set_option linter.unusedSimpArgs false
attribute [local go_sem] Oper.semAt_some
def tkL (x : List UInt8) : List ByteArray := tokL (trimN x)
def totP (pre : List (List UInt8)) : Nat := (pre.map List.length).sum
def stF (pre : List (List UInt8)) : List (Nat × List ByteArray) × Bool × Nat := (pre.map tkL).foldl stepC ([], false, 0)
theorem stF_snoc (pre : List (List UInt8)) (x : List UInt8) : stF (pre ++ [x]) = stepC (stF pre) (tkL x) := by
  unfold stF; rw [List.map_append, List.foldl_append]; rfl
def ClR (S : Nat) (w : World) (pre : List (List UInt8)) (W : World) : Prop := ∃ P v ct, ClI S w P v ct pre.length W ∧ stF pre = (P.map (·.1), ct, pre.length) ∧ (∀ p ∈ P, p.1.2.length ≤ 2 * totP pre) ∧ P.length ≤ pre.length ∧ (ct = true → P ≠ [])
theorem tkL_len (x : List UInt8) : (tkL x).length ≤ 2 * x.length := by
  have h1 := tokG_size (trimN x) []
  have h2 := sumS_len (tkL x)
  have h3 := trimN_len x
  unfold tkL tokL at *
  simp only [List.length_nil] at h1
  omega
theorem cutP_len (m : List ByteArray) : (cutP m).length ≤ m.length := by
  unfold cutP; split
  · rw [List.length_dropLast]; omega
  · exact Nat.le_refl _
theorem totP_snoc (pre : List (List UInt8)) (x : List UInt8) : totP (pre ++ [x]) = totP pre + x.length := by simp [totP]
theorem modify_last {α : Type} (A : List α) (x : α) (f : α → α) : (A ++ [x]).modify A.length f = A ++ [f x] := by
  induction A with
  | nil => rfl
  | cons a A ih => rw [List.cons_append, List.length_cons, List.modify_succ_cons, ih]; rfl
/-- a round's end -/
theorem ClR.step {S : Nat} {w : World} {pre : List (List UInt8)} {x : List UInt8} {Q : List Cl} {n : Nat} {t : List ByteArray} {u' v : Value} {W : World} (hI : ClI S w (Q ++ [((n, t ++ cutP (tkL x)), u')]) v (isPlus (tkL x)) (pre.length + 1) W)
    (G : List (Nat × List ByteArray)) (ct : Bool) (hst : stF pre = (G, ct, pre.length)) (hG : (if ct then G else G ++ [(pre.length + 1, [])]) = Q.map (·.1) ++ [(n, t)]) (hb : ∀ p ∈ G, p.2.length ≤ 2 * totP pre) (hl : G.length ≤ pre.length) : ClR S w (pre ++ [x]) W := by
  have hall : ∀ p ∈ Q.map (·.1) ++ [(n, t)], p.2.length ≤ 2 * totP pre := by
    rw [← hG]
    split
    · exact hb
    · intro p hp
      rcases List.mem_append.1 hp with q | q
      · exact hb p q
      · simp at q; subst q; simp
  have hlen : Q.length + 1 ≤ pre.length + 1 := by
    have := congrArg List.length hG
    rw [List.length_append, List.length_map] at this
    split at this <;> simp at this <;> omega
  have ht := tkL_len x
  have hc := cutP_len (tkL x)
  refine ⟨_, _, _, by rw [List.length_append]; exact hI, ?_, ?_, by rw [List.length_append, List.length_append]; exact hlen, fun _ => by simp⟩
  · rw [stF_snoc, hst]
    unfold stepC
    simp only [hG, List.length_append, List.length_map, List.length_cons, List.length_nil, List.map_append, List.map_cons, List.map_nil]
    refine Prod.ext ?_ rfl
    simp only []
    rw [show Q.length + (0 + 1) - 1 = (Q.map (fun x => x.1)).length from by rw [List.length_map]; omega]
    rw [modify_last]
  · intro p hp
    rw [totP_snoc]
    rcases List.mem_append.1 hp with q | q
    · have := hall p.1 (List.mem_append.2 (.inl (List.mem_map.2 ⟨p, q, rfl⟩))); omega
    · simp at q; subst q
      have := hall (n, t) (by simp)
      simp only [List.length_append] at this ⊢
      omega
theorem ClI.open {S : Nat} {w : World} {Q : List Cl} {p : Cl} {v : Value} {ct : Bool} {nm : Nat} {W : World} (h : ClI S w (Q ++ [p]) v ct nm W) : ∃ g cap cur, v = .slice (some ⟨g, 0, none⟩) (Q.length + 1) cap ∧ W.heap[g]? = some (.cells cur 60 (0, 0)) ∧ cur[Q.length * 2 + 1]? = some p.2 ∧ Q.length + 1 ≤ cap ∧ cap ≤ maxLen ∧ cur.size = cap * 2 := by
  have hrow := h.own.row
  rcases hrow.1.2 with ⟨q, q'⟩ | ⟨g, cap, cur, hv, _⟩
  · rw [List.length_append] at q'; simp at q'
  · have hv2 : v = .slice (some ⟨g, 0, none⟩) (Q.length + 1) cap := by rw [hv, List.length_append]; rfl
    subst hv2
    obtain ⟨cur, h1, h2, h3, h4, h5, h6, h7⟩ := ownG_cur clL 2 (by decide) clL_len (by have := hrow.own; rw [List.length_append] at this; exact this)
    refine ⟨g, cap, cur, rfl, h1, ?_, h3, h4, h5⟩
    have hx : (Q ++ [p])[Q.length]? = some p := by simp
    have := flatG_get clL_len (Q ++ [p]) Q.length 1 _ hx (by decide)
    rw [← h6, List.getElem?_take_of_lt (by omega), Array.getElem?_toList] at this
    exact this
theorem sliceHead (ao : Option Addr) (m cap : Nat) (hc : m + 1 ≤ cap) : ∀ w, (Instr.slice 26 (.slice ao (m + 1) cap) none (some (.int .i64 (m : Int))) none).run Tryd.prog w = .ok (.slice ao m cap) w := by
  intro w
  have h1 : (m : Int) ≤ (cap : Int) := by omega
  have h2 : ¬ ((cap : Int) < (m : Int)) := by omega
  simp [go_sem, Tryd.underlying26, h1, h2]
  try omega
theorem Kb.trans {q : Nat} {A B C : World} (h : Kb q A B) (k : Kb q B C) : Kb q A C := fun o ho => k o (h o ho)
theorem info57 : (Tryd.prog.info? 57).map (·.size) = some 1 := by kernel_rfl
theorem info3 : (Tryd.prog.info? 3).map (·.size) = some 1 := by kernel_rfl
theorem info4 : (Tryd.prog.info? 4).map (·.size) = some 1 := by kernel_rfl
theorem info26 : (Tryd.prog.info? 26).map (·.size) = some 1 := by kernel_rfl
end Go.Proofs.YtdamhdceajmdfaaDoor
