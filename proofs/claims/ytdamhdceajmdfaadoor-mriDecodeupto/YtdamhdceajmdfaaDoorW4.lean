
-- namesIn (2).
import Derived.Test.YtdamhdceajmdfaaDoorW3
namespace Go.Proofs.YtdamhdceajmdfaaDoor
open Go.ChangeShapes Go.WideShapes Go.ChangeAt Go.RowKit Go.MapKept
set_option linter.unusedVariables false
set_option maxRecDepth 100000
set_option linter.unusedSimpArgs false
theorem namesA_2 {L : List ByteArray} {x y : ByteArray} {m : Nat} (hn : L.length = m + 2) (hx : L[0]? = some x) (hy : L[m + 1]? = some y) : namesA L 2 = if (x.toList == [40]) = true ∧ (y.toList == [41]) = true then wordsA L.tail.dropLast else none := by
  have h0 : L ≠ [] := fun e => by rw [e] at hn; simp at hn
  unfold namesA
  rw [if_neg (by simp), List.head?_eq_getElem?, hx, List.getLast?_eq_getElem?, hn, show m + 2 - 1 = m + 1 from rfl, hy, tl_eq, tl_eq, beqB, beqB]
  by_cases h1 : x = byB [40] ∧ y = byB [41]
  · rw [if_pos ⟨rfl, by omega, by rw [h1.1], by rw [h1.2]⟩, if_pos ⟨by simp [h1.1], by simp [h1.2]⟩]
  · rw [if_neg (fun q => h1 ⟨by injection q.2.2.1, by injection q.2.2.2⟩), if_neg (by simp [h0]), if_neg (fun q => h1 ⟨by simpa using q.1, by simpa using q.2⟩)]
set_option maxHeartbeats 4000000 in
theorem namesIn_2 (v : Value) (L : List ByteArray) (w : World) (hv : RowT w v L) (hn : L.length ≤ 67108864) :
    Calls Tryd.prog 42 #[v, .int .i64 2] w fun e w' => NmSays (namesA L 2) w e w' := by
  obtain ⟨a1, c1, q1⟩ := hv.slice
  by_cases h0 : L = []
  · subst h0
    have e0 : namesA [] 2 = some [] := rfl
    rw [e0]
    clear hv hn e0
    subst q1
    go_enter Tryd.func42, Tryd.ntmps42
    go_wp2
    go_ret2
    exact ⟨Below.refl _ _, _, rfl, ownT_nil _ _⟩
  · by_cases h1 : L.length = 1
    · have e0 : namesA L 2 = none := by unfold namesA; rw [if_neg (by simp), if_neg (by omega), if_neg (by simp [h0])]
      rw [e0]
      rw [h1] at q1
      clear hv hn e0
      subst q1
      go_enter Tryd.func42, Tryd.ntmps42
      go_wp2
      go_ret2
      exact ⟨Below.refl _ _, _, rfl, ownT_nil _ _⟩
    · have hp := List.length_pos_iff.2 h0
      obtain ⟨m, hm⟩ : ∃ m, L.length = m + 2 := ⟨L.length - 2, by omega⟩
      obtain ⟨x, hx⟩ : ∃ x, L[0]? = some x := ⟨_, List.getElem?_eq_getElem (by omega)⟩
      obtain ⟨y, hy⟩ : ∃ y, L[m + 1]? = some y := ⟨_, List.getElem?_eq_getElem (by omega)⟩
      obtain ⟨b, off, cap, e1, d1⟩ := RowG.tx hv hx
      obtain ⟨b2, off2, cap2, e2, d2⟩ := RowG.tx hv hy
      rw [namesA_2 hm hx hy]
      rw [e1] at e2
      injection e2 with e2 _ e3
      injection e2 with e2
      injection e2 with e4 e5 _
      subst e4; subst e5; subst e3
      have hcap : m + 2 ≤ cap := by obtain ⟨ao, c, q, z1, _⟩ := hv; rw [e1] at q; injection q with _ _ q; omega
      have hcm : cap ≤ maxLen := by obtain ⟨ao, c, q, z1, z2, _⟩ := hv; rw [e1] at q; injection q with _ _ q; omega
      unfold maxLen at hcm
      have HW : Hid (Calls Tryd.prog 54 #[.slice (some ⟨b, off + 1, none⟩) m (cap - 1)] w fun e w' => NmSays (wordsA L.tail.dropLast) w e w') := by
        rw [tail_dropLast, hm]
        have := rowT_mid (i := 1) (j := m + 1) (by rw [← e1]; exact hv) (by omega) (by omega)
        rw [show m + 1 - 1 = m by omega] at this
        exact wordsOf_c _ _ w this (by rw [List.length_drop, List.length_take]; omega)
      rw [e1, hm]
      obtain ⟨r, hr⟩ : ∃ r, r = wordsA L.tail.dropLast := ⟨_, rfl⟩
      rw [← hr] at HW ⊢
      have i1 : IntKind.i64.wrap ((m : Int) + 2 - 1) = (m : Int) + 1 := by rw [IntKind.wrap_i64]; omega
      have i2 : IntKind.i64.wrap ((m : Int) + 1) = (m : Int) + 1 := by rw [IntKind.wrap_i64]; omega
      have j0 : (0 : Int) < (m : Int) + 2 := by omega
      have j1 : (1 : Int) < (m : Int) + 2 := by omega
      have j2 : (0 : Int) ≤ (m : Int) + 1 := by omega
      have j3 : (m : Int) + 1 < (m : Int) + 2 := by omega
      have j4 : (1 : Int) ≤ (m : Int) + 1 := by omega
      have j5 : (m : Int) + 1 ≤ (cap : Int) := by omega
      have j6 : ¬ ((m : Int) + 2 = 0) := by omega
      have j7 : (((m : Int) + 2) == 0) = false := by simp; omega
      simp only [Nat.add_zero] at d1
      clear hv hn hx hy h0 h1 hm e1 hr hp q1
      cases hxq : (x.toList == [40])
      · rw [if_neg (by simp)]
        go_enter Tryd.func42, Tryd.ntmps42
        go_wp2
        go_ret2
        exact ⟨Below.refl _ _, _, rfl, ownT_nil _ _⟩
      · cases hyq : (y.toList == [41])
        · rw [if_neg (by simp)]
          go_enter Tryd.func42, Tryd.ntmps42
          go_wp2
          go_ret2
          exact ⟨Below.refl _ _, _, rfl, ownT_nil _ _⟩
        · rw [if_pos ⟨rfl, rfl⟩]
          go_enter Tryd.func42, Tryd.ntmps42
          go_wp2_with (go_at_call 54; refine HW.out.mono ?_; rintro e w3 ⟨h3, u, rfl, hu⟩)
          go_ret2
          exact ⟨h3, _, rfl, hu⟩
end Go.Proofs.YtdamhdceajmdfaaDoor
