
-- isContinued, namesIn.
import Derived.Test.YtdamhdceajmdfaaDoorW1
namespace Go.Proofs.YtdamhdceajmdfaaDoor
open Go.ChangeShapes Go.WideShapes Go.ChangeAt Go.RowKit Go.MapKept
set_option linter.unusedVariables false
set_option maxRecDepth 100000
set_option linter.unusedSimpArgs false
theorem isPlus_at {L : List ByteArray} {x : ByteArray} {n : Nat} (hn : n = L.length) (hx : L[n - 1]? = some x) : isPlus L = (x.toList == [43]) := by
  unfold isPlus
  rw [List.getLast?_eq_getElem?, ← hn, hx, tl_eq]
  rfl
set_option maxHeartbeats 4000000 in
theorem isCont_c (v : Value) (L : List ByteArray) (w : World) (hv : RowT w v L) (hn : L.length ≤ 67108864) :
    Calls Tryd.prog 39 #[v] w fun e w' => e = .returned (.bool (isPlus L)) ∧ w' = w := by
  obtain ⟨a1, c1, q1⟩ := hv.slice
  obtain ⟨n, hnn⟩ : ∃ n, n = L.length := ⟨_, rfl⟩
  rw [← hnn] at q1 hn
  by_cases h0 : n = 0
  · have hL : L = [] := List.eq_nil_of_length_eq_zero (by omega)
    subst q1
    subst hL
    have e0 : isPlus [] = false := rfl
    rw [e0]
    clear hv hnn e0
    subst h0
    go_enter Tryd.func39, Tryd.ntmps39
    go_wp2
    go_ret
    exact ⟨rfl, rfl⟩
  · obtain ⟨x, hx⟩ : ∃ x, L[n - 1]? = some x := ⟨_, List.getElem?_eq_getElem (by omega)⟩
    obtain ⟨b, off, cap, e1, d1⟩ := RowG.tx hv hx
    rw [isPlus_at hnn hx]
    rw [q1] at e1
    injection e1 with e1 e2 e3
    subst q1
    subst e1
    obtain ⟨m, hm⟩ : ∃ m, n = m + 1 := ⟨n - 1, by omega⟩
    subst hm
    clear e2 e3 hv hnn hx h0
    simp only [Nat.add_sub_cancel] at d1
    have hw : IntKind.i64.wrap ((m : Int) + 1 - 1) = (m : Int) := by rw [IntKind.wrap_i64]; omega
    have hw2 : IntKind.i64.wrap (m : Int) = (m : Int) := by rw [IntKind.wrap_i64]; omega
    have m0 : (0 : Int) ≤ (m : Int) := by omega
    have m1 : (m : Int) < (m : Int) + 1 := by omega
    have m2 : (0 : Int) < (m : Int) + 1 := by omega
    go_enter Tryd.func39, Tryd.ntmps39
    go_wp2
    go_ret
    exact ⟨rfl, rfl⟩
end Go.Proofs.YtdamhdceajmdfaaDoor
