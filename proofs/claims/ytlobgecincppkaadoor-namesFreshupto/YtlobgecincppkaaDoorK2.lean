
-- shelflaw8.wide, twin: contracts.
import Derived.Test.YtlobgecincppkaaDoorK1
import Derived.Laws.AppendOwnNone
namespace Go.Proofs.YtlobgecincppkaaDoor
open Go.ChangeShapes Go.WideShapes Go.ChangeAt Go.RowKit
set_option linter.unusedVariables false
set_option maxRecDepth 100000

def wsum (L : List ByteArray) : Nat := (L.map (fun b => b.size + 2)).sum
theorem wsum_next (L : List ByteArray) (j : Nat) (hj : j < L.length) : wsum (L.take (j + 1)) = wsum (L.take j) + (L.getD j .empty).size + 2 := by
  have : L.getD j .empty = L[j] := by simp [List.getD, List.getElem?_eq_getElem hj]
  unfold wsum
  rw [List.take_add_one, List.map_append, List.sum_append, List.getElem?_eq_getElem hj, this]
  simp; omega
set_option maxHeartbeats 2000000 in
theorem twin_c (lv : Value) (L : List ByteArray) (w : World) (B : Nat) (hr : w.ownsRow B 9 1 lv L.length (strV L)) (hn : L.length ≤ 1100000) :
    Calls Tryd.prog 5 #[lv] w fun e w' => ∃ v, e = .returned v ∧ w'.ownsRow w.heap.size 9 1 v L.length (strV L) ∧ Below w.heap.size w w' := by
  obtain ⟨i0, hi, hz0, hz1, hz2⟩ := info_parts info9
  have h0 : w.ownsRow w.heap.size 9 1 (.slice none 0 0) 0 [] := ⟨rfl, .inl ⟨rfl, rfl⟩⟩
  have hcl := fun (g cap : Nat) (e : lv = .slice (some ⟨g, 0, none⟩) L.length cap) (j : Nat) (x : Value) (hx : (strV L)[j]? = some x) => hr.cells (g := g) (by rw [e]; rfl) j x hx
  rcases hr.2 with ⟨rfl, hl⟩ | ⟨g, cap, cur, rfl, _⟩
  · obtain rfl : L = [] := List.eq_nil_of_length_eq_zero hl
    go_enter Tryd.func5, Tryd.ntmps5
    go_wp2_with (at_builtin; refine wpList_append_own_none rfl _ _ 22 rfl w.heap.size 9 i0 1 Tryd.underlying22 hi _ _ _ rfl h0 rfl ?_)
    go_ret
    exact ⟨_, rfl, h0, Below.refl _ _⟩
  · have HC := hidE (hcl g cap rfl)
    clear hcl hr
    go_enter Tryd.func5, Tryd.ntmps5
    go_wp2_with (at_builtin; refine wpList_append_own _ rfl _ _ 22 rfl w.heap.size 9 i0 (.string ⟨#[]⟩) 1 16 Tryd.underlying22 hi hz0 hz1 hz2 rfl (by decide) _ _ _ rfl h0 ⟨g, 0, none⟩ L.length cap (strV L) rfl ?cl ?c1 ?c2 ?c3 ?c4 ?c5 ?_)
    case cl => rw [strV_length, Nat.mul_one]
    case c1 =>
      intro q u hu
      exact HC.out q u hu
    case c2 => intro u hu; simp [strV] at hu; obtain ⟨x, _, rfl⟩ := hu; rfl
    case c3 => unfold maxLen; omega
    case c4 => omega
    case c5 => exact Nat.le_refl _
    intro v' w5 hown5 hgrow _
    have hbR : Below w.heap.size w w5 := Below.grown (Below.refl _ _) hgrow (Nat.le_refl _) (fun q hq => by cases hq)
    have HF : Hid (w5.ownsRow w.heap.size 9 1 v' L.length (strV L) ∧ Below w.heap.size w w5) := ⟨by first | exact hown5 | (rw [Nat.zero_add, List.nil_append] at hown5; exact hown5) | simpa using hown5, hbR⟩
    clear hown5 hgrow hbR h0 HC
    go_wp2
    go_ret
    exact ⟨_, rfl, HF.out⟩
end Go.Proofs.YtlobgecincppkaaDoor
