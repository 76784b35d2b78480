
-- shelflaw8.kept, wide, twin: contracts.
import Derived.Test.YtmppfpkcnhcfbabDoorE3
import Derived.Test.YtmppfpkcnhcfbabDoorG2v
import Derived.OwnWalk
import Derived.Deep.MidRow
namespace Go.Proofs.YtmppfpkcnhcfbabDoor
open Go.ChangeShapes Go.WideShapes Go.ChangeAt Go.RowKit
set_option linter.unusedVariables false
set_option maxRecDepth 100000

def strV (l : List ByteArray) : List Value := l.map .string
theorem strV_length (l : List ByteArray) : (strV l).length = l.length := by simp [strV]
theorem ownBelow {w w' : World} {B : Nat} {v : Value} {n : Nat} {xs : List Value} (h : w.ownsRow B 9 1 v n xs) (hb : Below w.heap.size w w') : w'.ownsRow B 9 1 v n xs :=
  h.kept (row := none) ⟨hb.os, hb.tape, hb.output, hb.size, fun k hk _ => hb.block k hk⟩ (by cases hv : v.ownBlock <;> simp)
theorem RowS.of_own {w : World} {B : Nat} {v : Value} {l : List ByteArray} (h : w.ownsRow B 9 1 v l.length (strV l)) : RowS w v l := by
  rcases h.2 with ⟨rfl, h0⟩ | ⟨g, cap, cur, rfl, _⟩
  · exact .inl ⟨List.eq_nil_of_length_eq_zero h0, _, _, rfl⟩
  · refine .inr ⟨g, 0, cap, rfl, fun j hj => ?_⟩
    have := h.cells (g := g) rfl j (.string (l.getD j .empty)) (by simp [strV, List.getD, List.getElem?_eq_getElem hj])
    have e : (⟨g, 0, none⟩ : Addr).add j = ⟨g, 0 + j, none⟩ := by
      unfold Addr.add
      split
      · simp_all
      · simp
    rw [e] at this; exact this
theorem RowS.cells {w : World} {v : Value} {l : List ByteArray} (h : RowS w v l) : ∃ ao cap, v = .slice ao l.length cap ∧ ∀ j, j < l.length → ∃ b off, ao = some ⟨b, off, none⟩ ∧ b < w.heap.size ∧ w.cell? ⟨b, off + j, none⟩ = some (.string (l.getD j .empty)) := by
  rcases h with ⟨h0, ao, c, rfl⟩ | ⟨b, off, cap, rfl, hc⟩
  · exact ⟨ao, c, by rw [h0]; rfl, fun j hj => by rw [h0] at hj; simp at hj⟩
  · exact ⟨some ⟨b, off, none⟩, cap, rfl, fun j hj => ⟨b, off, rfl, block_lt_of_cell (hc j hj), hc j hj⟩⟩
theorem RowS.on {w w' : World} {v : Value} {l : List ByteArray} (h : RowS w v l) (b : Below w.heap.size w w') : RowS w' v l := by
  rcases h with h | ⟨bk, off, cap, rfl, hc⟩
  · exact .inl h
  · exact .inr ⟨bk, off, cap, rfl, fun j hj => (b.cell (p := ⟨bk, off + j, none⟩) (block_lt_of_cell (hc j hj))).trans (hc j hj)⟩
def okN (s : ByteArray) : Bool := validL s.data.toList
theorem filter_next (L : List ByteArray) (j : Nat) (hj : j < L.length) : (L.take (j + 1)).filter okN = (L.take j).filter okN ++ (if okN (L.getD j .empty) = true then [L.getD j .empty] else []) := by
  rw [List.take_add_one, List.filter_append, List.getElem?_eq_getElem hj]
  congr 1
  have : L.getD j .empty = L[j] := by simp [List.getD, List.getElem?_eq_getElem hj]
  rw [this]
  simp [List.filter_cons]
set_option maxHeartbeats 4000000 in
theorem kept_c (lv : Value) (L : List ByteArray) (w : World) (hr : RowS w lv L) (hn : L.length ≤ 1100000) (hz : ∀ j, j < L.length → (L.getD j .empty).size ≤ maxLen) :
    Calls Tryd.prog 21 #[lv] w fun e w' => ∃ v, e = .returned v ∧ w'.ownsRow w.heap.size 9 1 v (L.filter okN).length (strV (L.filter okN)) ∧ Below w.heap.size w w' := by
  obtain ⟨i0, hi, hz0, hz1, hz2⟩ := info_parts info9
  obtain ⟨ao, cap, rfl, hcell⟩ := hr.cells
  obtain ⟨n, hnn⟩ : ∃ n, n = L.length := ⟨_, rfl⟩
  have HN := hidE hnn
  have HC := hidE hcell
  have HZ := hidE hz
  rw [← hnn]
  have hn' : n ≤ 1100000 := by omega
  clear hcell hr hz hn hnn
  go_enter Tryd.func21, Tryd.ntmps21
  go_wp2
  go_loopw [3, 4] (fun v i wx => ∃ j : Nat, j ≤ n ∧ i = .int .i64 j ∧ wx.ownsRow w.heap.size 9 1 v ((L.take j).filter okN).length (strV ((L.take j).filter okN)) ∧ Below w.heap.size w wx) (fun _ i _ => n - (intOf i).toNat)
  case atStart => exact ⟨0, Nat.zero_le _, rfl, ⟨rfl, .inl ⟨rfl, rfl⟩⟩, Below.refl _ _⟩
  case round =>
    obtain ⟨j, hj, rfl, hown, hK⟩ := hrel
    rename World => wx
    by_cases hjn : j < n
    · obtain ⟨s, hs⟩ : ∃ s, s = L.getD j .empty := ⟨_, rfl⟩
      obtain ⟨b, off, rfl, hb, hc⟩ := HC.out j (by have := HN.out; omega)
      rw [← hs] at hc
      have hcx : wx.cell? ⟨b, off + j, none⟩ = some (.string s) := (hK.cell (p := ⟨b, off + j, none⟩) hb).trans hc
      have hjI : (j : Int) < (n : Int) := by omega
      have hj0 : (0 : Int) ≤ (j : Int) := by omega
      have hft := filter_next L j (by have := HN.out; omega)
      rw [← hs] at hft
      have hkl : ((L.take j).filter okN).length ≤ 1100000 := by
        have h1 := List.length_filter_le okN (L.take j)
        rw [List.length_take] at h1; omega
      have hsz : s.size ≤ maxLen := by rw [hs]; exact HZ.out j (by have := HN.out; omega)
      have HV : Hid (∀ w', Calls Tryd.prog 16 #[.string s] w' fun e w'' => e = .returned (.bool (okN s)) ∧ w'' = w') := fun w' => lvalid_c s w' hsz
      cases ho : okN s
      · rw [ho] at HV hft
        rw [if_neg (by decide), List.append_nil] at hft
        have HO := hidE (And.intro hown (And.intro hK hft))
        clear hs hc hb hft hown hK hkl hsz
        go_wp2_with (first | (go_at_call 16; refine (HV.out _).mono ?_; rintro e wa ⟨rfl, hwa⟩; subst wa))
        go_roundw
        case rel =>
          obtain ⟨hown, hK, hft⟩ := HO.out
          exact ⟨j + 1, hjn, by go_num, by rw [hft]; exact hown, hK⟩
        case measure => clear HO HC HZ; simp [intOf]; omega
      · rw [ho] at HV hft
        rw [if_pos rfl] at hft
        have HO := hidE (And.intro hown (And.intro hK hft))
        have hc3 : ((L.take j).filter okN).length + 1 ≤ maxLen := by unfold maxLen; omega
        have hc4 : (((L.take j).filter okN).length + 1) * 16 ≤ 140737488355328 := by omega
        have hOW := hown.alloc (.cells #[.string s] 9)
        have hBK := hK.size
        clear hs hc hb hft hown hK hkl hsz
        go_wp2_with (first
          | (go_at_call 16; refine (HV.out _).mono ?_; rintro e wa ⟨rfl, hwa⟩; subst wa)
          | (at_builtin; refine wpList_append_own _ rfl _ _ 22 rfl w.heap.size 9 i0 (.string ⟨#[]⟩) 1 16 Tryd.underlying22 hi hz0 hz1 hz2 rfl (by decide) _ _ _ rfl hOW ⟨wx.heap.size, 0, none⟩ 1 1 [.string s] rfl rfl ?c1 (by intro u hu; simp at hu; subst hu; rfl) ?c3 ?c4 ?c5 ?_))
        case c1 =>
          intro q u hu
          rw [Addr.add_mid, Nat.zero_add, cell_of_row _ _ _ _ _ _ (heap_alloc_new wx _)]
          simpa using hu
        case c3 => exact hc3
        case c4 => exact hc4
        case c5 => simp; omega
        intro v' w5 hown5 hgrow _
        obtain ⟨hown, hK, hft⟩ := HO.out
        have hrow : ∀ q, u3.ownBlock = some q → w.heap.size ≤ q := fun q hq => (hown.lt q hq).1
        have hbR : Below w.heap.size wx w5 := Below.grown (Below.alloc (Below.refl _ _) hBK _) hgrow (by simp; omega) hrow
        have HF : Hid (w5.ownsRow w.heap.size 9 1 v' ((L.take (j + 1)).filter okN).length (strV ((L.take (j + 1)).filter okN)) ∧ Below w.heap.size w w5) := ⟨by rw [hft, List.length_append]; unfold strV; rw [List.map_append]; exact hown5, hK.trans hbR⟩
        clear hown hK hft hrow hbR hown5 hgrow hOW HO
        go_wp2
        go_roundw
        case rel => exact ⟨j + 1, hjn, by go_num, HF.out⟩
        case measure => clear HF HC HZ; simp [intOf]; omega
    · obtain rfl : j = n := by omega
      have hft : L.take j = L := List.take_of_length_le (by have := HN.out; omega)
      rw [hft] at hown
      have HO := hidE (And.intro hown hK)
      clear hown hK hft
      go_wp2
      go_ret
      exact ⟨_, rfl, HO.out⟩
end Go.Proofs.YtmppfpkcnhcfbabDoor
