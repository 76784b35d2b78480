
-- OpsIn: what the walk stands on.
import Derived.Test.YtaaagdmhokgcjaaF1
import Derived.Deep.RegionWith
namespace Go.Proofs.Ytaaagdmhokgcjaa
open Go.ChangeShapes Go.WideShapes Go.ChangeAt Go.RowKit
set_option linter.unusedVariables false
set_option maxRecDepth 100000
set_option linter.unusedSimpArgs false
def ancB (pw : Int) : Bool := decide (pw = 1 ∨ pw = 2)
theorem anchored_c (pw : Int) (pa : ByteArray) (w : World) :
    Calls Try.prog 19 #[.agg #[.int .i64 pw, .string pa]] w fun e w' => e = .returned (.bool (ancB pw)) ∧ Below w.heap.size w w' := by
  have c00 : (w.alloc (.cells #[.int .i64 pw, .string pa] 39)).cell? ⟨w.heap.size, 0, none⟩ = some (.int .i64 pw) := cell_rowK (heap_alloc_new w _) 0 _ rfl
  have HB0 := hidK (bupK (Below.refl w.heap.size w) (.cells #[.int .i64 pw, .string pa] 39))
  go_enter Try.func19, Try.ntmps19
  by_cases h1 : pw = 1
  · subst h1
    go_wp2
    go_ret
    exact ⟨rfl, HB0.out⟩
  · by_cases h2 : pw = 2
    · subst h2
      go_wp2
      go_ret
      exact ⟨rfl, HB0.out⟩
    · have e : ancB pw = false := by unfold ancB; simp [h1, h2]
      rw [e]
      have b1 : (pw == 1) = false := by simp [h1]
      have b2 : (pw == 2) = false := by simp [h2]
      go_wp2
      go_ret
      exact ⟨by first | rfl | simp [h1, h2], HB0.out⟩
theorem row_drop {w : World} {b off cap n k : Nat} {L : List Mx} (h : RowM w (.slice (some ⟨b, off, none⟩) n cap) L) (hn : L.length = n) (hk : k ≤ n) : RowM w (.slice (some ⟨b, off + k * 7, none⟩) (n - k) (cap - k)) (L.drop k) := by
  obtain ⟨ao, c1, e, h1, h2, h3, h4⟩ := h
  injection e with e1 e2 e3
  subst e1
  subst e3
  have l1 : (L.drop k).length = n - k := by rw [List.length_drop, hn]
  refine ⟨_, cap - k, by rw [l1], by rw [l1]; omega, by omega, (fun h => by cases h), fun hp => ?_⟩
  rw [l1] at hp
  obtain ⟨b', off', e', hc⟩ := h4 (by omega)
  injection e' with e'
  injection e' with e1 e2 _
  refine ⟨b, off + k * 7, rfl, fun j u hu => ?_⟩
  rw [← flatG_drop mxL 7 mxL_len, List.getElem?_drop] at hu
  have := hc _ u hu
  rw [e1, e2, Nat.add_assoc]; exact this
theorem lastOf {M : List Mx} {i : Nat} {x : Mx} (h : M[i]? = some x) (hc : cnt (nms (M.drop (i + 1))) x.n = 0) : ∀ j y, i < j → M[j]? = some y → y.n ≠ x.n := by
  intro j y hj hy e
  unfold cnt at hc
  rw [List.countP_eq_zero] at hc
  have hm : y ∈ M.drop (i + 1) := by
    have : (M.drop (i + 1))[j - (i + 1)]? = some y := by rw [List.getElem?_drop, show i + 1 + (j - (i + 1)) = j by omega]; exact hy
    exact List.mem_of_getElem? this
  exact absurd (by simp [e]) (hc y.n (List.mem_map.2 ⟨y, hm, rfl⟩))
theorem keep_step {M l : List Mx} {i : Nat} {x : Mx} (h : l[i]? = some x) : keepM M (l.drop i) = if cnt (nms M) x.n = 0 then x :: keepM M (l.drop (i + 1)) else keepM M (l.drop (i + 1)) := by
  have hd : l.drop i = x :: l.drop (i + 1) := by
    obtain ⟨hi, e⟩ := List.getElem?_eq_some_iff.1 h
    rw [List.drop_eq_getElem_cons hi, e]
  unfold keepM
  rw [hd, List.filter_cons]
  by_cases e : cnt (nms M) x.n = 0
  · simp [e]
  · simp [e]
theorem keep_end {M l : List Mx} {i : Nat} (h : l.length ≤ i) : keepM M (l.drop i) = [] := by
  rw [List.drop_eq_nil_of_le h]; rfl
end Go.Proofs.Ytaaagdmhokgcjaa
