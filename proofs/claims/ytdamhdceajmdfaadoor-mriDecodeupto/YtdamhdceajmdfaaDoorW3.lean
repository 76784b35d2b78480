
-- namesIn.
import Derived.Test.YtdamhdceajmdfaaDoorW2
namespace Go.Proofs.YtdamhdceajmdfaaDoor
open Go.ChangeShapes Go.WideShapes Go.ChangeAt Go.RowKit Go.MapKept
set_option linter.unusedVariables false
set_option maxRecDepth 100000
set_option linter.unusedSimpArgs false
theorem rowT_mid {w : World} {b off cap i j : Nat} {L : List ByteArray} (h : RowT w (.slice (some ⟨b, off, none⟩) L.length cap) L) (hj : j ≤ L.length) (hi : i ≤ j) : RowT w (.slice (some ⟨b, off + i, none⟩) (j - i) (cap - i)) ((L.take j).drop i) := by
  obtain ⟨ao, c, e, h1, h2, h3, h4⟩ := h
  injection e with e1 e2 e3
  subst e1; subst e3
  have hl : ((L.take j).drop i).length = j - i := by rw [List.length_drop, List.length_take]; omega
  refine ⟨some ⟨b, off + i, none⟩, cap - i, by rw [hl], by rw [hl]; omega, by omega, by simp, fun hp => ?_⟩
  obtain ⟨b', off', e, hc⟩ := h4 (by rw [hl] at hp; omega)
  injection e with e
  injection e with e1 e2 e3
  subst e1; subst e2
  refine ⟨b, off + i, rfl, fun k u hu => ?_⟩
  have hf : ∀ l : List ByteArray, l.flatMap txL = l.map Value.string := by intro l; induction l with | nil => rfl | cons y t ih => rw [List.flatMap_cons, ih]; rfl
  rw [hf, List.getElem?_map, List.getElem?_drop] at hu
  have hk : i + k < j := by
    by_cases q : i + k < j
    · exact q
    · rw [List.getElem?_eq_none (by rw [List.length_take]; omega)] at hu; simp at hu
  rw [List.getElem?_take_of_lt hk] at hu
  have := hc (i + k) u (by rw [hf, List.getElem?_map]; exact hu)
  rw [Nat.add_assoc]; exact this
theorem tail_dropLast (L : List ByteArray) : L.tail.dropLast = (L.take (L.length - 1)).drop 1 := by
  rw [List.dropLast_eq_take, ← List.drop_one, List.length_drop, List.drop_take]
set_option maxHeartbeats 4000000 in
theorem namesIn_1 (v : Value) (L : List ByteArray) (w : World) (hv : RowT w v L) (hn : L.length ≤ 67108864) :
    Calls Tryd.prog 42 #[v, .int .i64 1] w fun e w' => NmSays (namesA L 1) w e w' := by
  have HW := hidK (wordsOf_c v L w hv hn)
  obtain ⟨a1, c1, q1⟩ := hv.slice
  by_cases h0 : L = []
  · subst h0
    have e0 : namesA [] 1 = none := rfl
    rw [e0]
    clear hv hn e0 HW
    subst q1
    go_enter Tryd.func42, Tryd.ntmps42
    go_wp2
    go_ret2
    exact ⟨Below.refl _ _, _, rfl, ownT_nil _ _⟩
  · have e0 : namesA L 1 = wordsA L := by unfold namesA; rw [if_pos ⟨rfl, h0⟩]
    rw [e0]
    obtain ⟨n, hnn⟩ : ∃ n, n = L.length := ⟨_, rfl⟩
    have hp : 0 < n := by rw [hnn]; exact List.length_pos_iff.2 h0
    rw [← hnn] at q1
    subst q1
    have pI : (0 : Int) < (n : Int) := by omega
    clear hv hn e0 hnn h0
    go_enter Tryd.func42, Tryd.ntmps42
    go_wp2_with (go_at_call 54; refine HW.out.mono ?_; rintro e w3 ⟨h3, u, rfl, hu⟩)
    go_ret2
    exact ⟨h3, _, rfl, hu⟩
set_option maxHeartbeats 4000000 in
theorem namesIn_0 (v : Value) (L : List ByteArray) (w : World) (hv : RowT w v L) (hn : L.length ≤ 67108864) :
    Calls Tryd.prog 42 #[v, .int .i64 0] w fun e w' => NmSays (namesA L 0) w e w' := by
  obtain ⟨a1, c1, q1⟩ := hv.slice
  by_cases h0 : L = []
  · subst h0
    have e0 : namesA [] 0 = some [] := rfl
    rw [e0]
    clear hv hn e0
    subst q1
    go_enter Tryd.func42, Tryd.ntmps42
    go_wp2
    go_ret2
    exact ⟨Below.refl _ _, _, rfl, ownT_nil _ _⟩
  · have e0 : namesA L 0 = none := by unfold namesA; rw [if_neg (by simp), if_neg (by simp), if_neg (by simp [h0])]
    rw [e0]
    obtain ⟨n, hnn⟩ : ∃ n, n = L.length := ⟨_, rfl⟩
    have hp : 0 < n := by rw [hnn]; exact List.length_pos_iff.2 h0
    rw [← hnn] at q1
    subst q1
    have pI : ((n : Int) == 0) = false := by simp; omega
    clear hv hn e0 hnn h0
    go_enter Tryd.func42, Tryd.ntmps42
    go_wp2
    go_ret2
    exact ⟨Below.refl _ _, _, rfl, ownT_nil _ _⟩
end Go.Proofs.YtdamhdceajmdfaaDoor
