
-- shelflaw8.wide, twin: contracts.
import Derived.Test.YtmppfpkcnhcfbabDoorK1
import Derived.Laws.AppendOwnNone
namespace Go.Proofs.YtmppfpkcnhcfbabDoor
open Go.ChangeShapes Go.WideShapes Go.ChangeAt Go.RowKit
set_option linter.unusedVariables false
set_option maxRecDepth 100000

def wsum (L : List ByteArray) : Nat := (L.map (fun b => b.size + 2)).sum
theorem wsum_next (L : List ByteArray) (j : Nat) (hj : j < L.length) : wsum (L.take (j + 1)) = wsum (L.take j) + (L.getD j .empty).size + 2 := by
  have : L.getD j .empty = L[j] := by simp [List.getD, List.getElem?_eq_getElem hj]
  unfold wsum
  rw [List.take_add_one, List.map_append, List.sum_append, List.getElem?_eq_getElem hj, this]
  simp; omega
set_option maxHeartbeats 4000000 in
theorem wide_c (lv : Value) (L : List ByteArray) (w : World) (hr : RowS w lv L) (hn : L.length ≤ 1100000) (hz : ∀ j, j < L.length → (L.getD j .empty).size ≤ 1100000) (hs : ∀ j, wsum (L.take j) ≤ 4000000) :
    Calls Tryd.prog 22 #[lv] w fun e w' => e = .returned (.bool false) ∧ w' = w := by
  obtain ⟨ao, cap, rfl, hcell⟩ := hr.cells
  obtain ⟨n, hnn⟩ : ∃ n, n = L.length := ⟨_, rfl⟩
  have HN := hidE hnn
  have HC := hidE hcell
  have HZ := hidE hz
  have HS := hidE hs
  rw [← hnn]
  have hn' : n ≤ 1100000 := by omega
  clear hcell hr hz hn hnn hs
  go_enter Tryd.func22, Tryd.ntmps22
  go_wp2
  go_loopw [3, 4] (fun v i wx => ∃ j : Nat, j ≤ n ∧ i = .int .i64 j ∧ v = .int .i64 (wsum (L.take j)) ∧ wx = w) (fun _ i _ => n - (intOf i).toNat)
  case atStart => exact ⟨0, Nat.zero_le _, rfl, rfl, rfl⟩
  case round =>
    obtain ⟨j, hj, rfl, rfl, hw⟩ := hrel
    subst hw
    have hwj := HS.out j
    obtain ⟨a, ha⟩ : ∃ a, a = wsum (L.take j) := ⟨_, rfl⟩
    rw [← ha] at hwj ⊢
    have hai : (a : Int) ≤ 4000000 := by omega
    by_cases hjn : j < n
    · obtain ⟨s, hs⟩ : ∃ s, s = L.getD j .empty := ⟨_, rfl⟩
      obtain ⟨b, off, rfl, hb, hcx⟩ := HC.out j (by have := HN.out; omega)
      rw [← hs] at hcx
      have hjI : (j : Int) < (n : Int) := by omega
      have hj0 : (0 : Int) ≤ (j : Int) := by omega
      have hsz : s.size ≤ 1100000 := by rw [hs]; exact HZ.out j (by have := HN.out; omega)
      have hszi : (s.size : Int) ≤ 1100000 := by omega
      have hnx : wsum (L.take (j + 1)) = a + s.size + 2 := by rw [wsum_next L j (by have := HN.out; omega), ← ha, ← hs]
      have HNX := hidE hnx
      have g1 : ¬ ((1099511627776 : Int) < (s.size : Int)) := by omega
      have g2 : ¬ ((1099511627776 : Int) < (a : Int)) := by omega
      clear hs ha hnx hsz hwj hb
      go_wp2
      go_roundw
      case rel => exact ⟨j + 1, hjn, by go_num, by rw [HNX.out]; go_num, by first | rfl | trivial⟩
      case measure => clear HC HZ HS; simp [intOf]; omega
    · obtain rfl : j = n := by omega
      have g2 : ¬ ((1099511627776 : Int) < (a : Int)) := by omega
      have g3 : decide ((1099511627776 : Int) < (a : Int)) = false := decide_eq_false g2
      clear ha hwj
      go_wp2
      go_ret
      exact ⟨by first | rfl | (rw [g3]; rfl) | (simp only [g3]; rfl), by first | rfl | trivial⟩
set_option maxHeartbeats 2000000 in
theorem twin_c (lv : Value) (L : List ByteArray) (w : World) (B : Nat) (hr : w.ownsRow B 9 1 lv L.length (strV L)) (hn : L.length ≤ 1100000) :
    Calls Tryd.prog 17 #[lv] w fun e w' => ∃ v, e = .returned v ∧ w'.ownsRow w.heap.size 9 1 v L.length (strV L) ∧ Below w.heap.size w w' := by
  obtain ⟨i0, hi, hz0, hz1, hz2⟩ := info_parts info9
  have h0 : w.ownsRow w.heap.size 9 1 (.slice none 0 0) 0 [] := ⟨rfl, .inl ⟨rfl, rfl⟩⟩
  have hcl := fun (g cap : Nat) (e : lv = .slice (some ⟨g, 0, none⟩) L.length cap) (j : Nat) (x : Value) (hx : (strV L)[j]? = some x) => hr.cells (g := g) (by rw [e]; rfl) j x hx
  rcases hr.2 with ⟨rfl, hl⟩ | ⟨g, cap, cur, rfl, _⟩
  · obtain rfl : L = [] := List.eq_nil_of_length_eq_zero hl
    go_enter Tryd.func17, Tryd.ntmps17
    go_wp2_with (at_builtin; refine wpList_append_own_none rfl _ _ 22 rfl w.heap.size 9 i0 1 Tryd.underlying22 hi _ _ _ rfl h0 rfl ?_)
    go_ret
    exact ⟨_, rfl, h0, Below.refl _ _⟩
  · have HC := hidE (hcl g cap rfl)
    clear hcl hr
    go_enter Tryd.func17, Tryd.ntmps17
    go_wp2_with (at_builtin; refine wpList_append_own _ rfl _ _ 22 rfl w.heap.size 9 i0 (.string ⟨#[]⟩) 1 16 Tryd.underlying22 hi hz0 hz1 hz2 rfl (by decide) _ _ _ rfl h0 ⟨g, 0, none⟩ L.length cap (strV L) rfl ?cl ?c1 ?c2 ?c3 ?c4 ?c5 ?_)
    case cl => rw [strV_length, Nat.mul_one]
    case c1 =>
      intro q u hu
      exact HC.out q u hu
    case c2 => intro u hu; simp [strV] at hu; obtain ⟨x, _, rfl⟩ := hu; rfl
    case c3 => unfold maxLen; omega
    case c4 => omega
    case c5 => exact Nat.le_refl _
    intro v' w5 hown5 hgrow _
    have hbR : Below w.heap.size w w5 := Below.grown (Below.refl _ _) hgrow (Nat.le_refl _) (fun q hq => by cases hq)
    have HF : Hid (w5.ownsRow w.heap.size 9 1 v' L.length (strV L) ∧ Below w.heap.size w w5) := ⟨by first | exact hown5 | (rw [Nat.zero_add, List.nil_append] at hown5; exact hown5) | simpa using hown5, hbR⟩
    clear hown5 hgrow hbR h0 HC
    go_wp2
    go_ret
    exact ⟨_, rfl, HF.out⟩
end Go.Proofs.YtmppfpkcnhcfbabDoor
