
-- Two answers beside one another; an answer that is refused.
import Derived.Test.YtjbphheojfclcaaGreatZC
import Derived.Deep.QuietTactic
import Derived.BigQuiet
import Derived.Deep.RegionWith
import Derived.Deep.DrawnRows
import Derived.Deep.CutRange
namespace Go.Proofs.YtjbphheojfclcaaGreat
open Go.RowKit
set_option linter.unusedVariables false
set_option maxRecDepth 100000
variable {PS : (Nat → Prop) → Nat → St → World → Prop}
attribute [local go_sem ↓] Go.wp_at_zero Go.wp_at_succ
set_option maxHeartbeats 1000000 in
theorem same_c (va vb : Value) (la lb : List ByteArray) (w : World) (ha : RowS w va la) (hb : RowS w vb lb) (hla : la.length ≤ 4194304) (hlb : lb.length ≤ 4194304) :
    Calls Tryz.prog 40 #[va, vb] w fun e w' => e = .returned (.bool (decide (la = lb))) ∧ ∃ n, w' = w.drewN n := by
  by_cases hlen : la.length = lb.length
  · rcases Nat.eq_zero_or_pos la.length with h0 | h0
    · obtain rfl : la = [] := List.eq_nil_of_length_eq_zero h0
      obtain rfl : lb = [] := List.eq_nil_of_length_eq_zero (by omega)
      obtain ⟨ao, cap, rfl⟩ := ha.form
      obtain ⟨ao', cap', rfl⟩ := hb.form
      clear ha hb
      simp only [List.length_nil]
      go_enter Tryz.func40, Tryz.ntmps40
      go_wp2
      go_rounds 1
      go_ret
      exact ⟨by simp, 0, rfl⟩
    · obtain ⟨b, off, cap, rfl, hca⟩ : ∃ b off cap, va = .slice (some ⟨b, off, none⟩) la.length cap ∧ ∀ j, j < la.length → w.cell? ⟨b, off + j, none⟩ = some (.string (la.getD j .empty)) := by
        rcases ha with ⟨rfl, _⟩ | h
        · simp at h0
        · exact h
      obtain ⟨b', off', cap', rfl, hcb⟩ : ∃ b off cap, vb = .slice (some ⟨b, off, none⟩) lb.length cap ∧ ∀ j, j < lb.length → w.cell? ⟨b, off + j, none⟩ = some (.string (lb.getD j .empty)) := by
        rcases hb with ⟨rfl, _⟩ | h
        · rw [List.length_nil] at hlen; omega
        · exact h
      obtain ⟨n, hn⟩ : ∃ n, n = la.length := ⟨_, rfl⟩
      rw [← hlen] at hcb ⊢
      rw [← hn] at hca hcb hla ⊢ h0
      have HL : Hid (n = la.length ∧ la.length = lb.length) := ⟨hn, hlen⟩
      have HA : Hid (∀ j, j < n → w.cell? ⟨b, off + j, none⟩ = some (.string (la.getD j .empty))) := hca
      have HB : Hid (∀ j, j < n → w.cell? ⟨b', off' + j, none⟩ = some (.string (lb.getD j .empty))) := hcb
      clear hn hlen hlb hca hcb
      go_enter Tryz.func40, Tryz.ntmps40
      go_wp2
      go_loopw [5] (fun i wx => ∃ k : Nat, i = .int .i64 k ∧ k ≤ n ∧ (∀ j, j < k → la.getD j .empty = lb.getD j .empty) ∧ ∃ m, wx = w.drewN m) (fun i _ => n - (intOf i).toNat)
      case atStart => exact ⟨0, rfl, Nat.zero_le _, fun j hj => absurd hj (Nat.not_lt_zero _), 0, rfl⟩
      case round =>
        obtain ⟨k, rfl, hkn, hsm, m, rfl⟩ := hrel
        have HSM : Hid (∀ j, j < k → la.getD j .empty = lb.getD j .empty) := hsm
        clear hsm
        by_cases hk : k < n
        · have b1 : decide ((k : Int) < (n : Int)) = true := by simp; omega
          have kI : (k : Int) < (n : Int) := by omega
          have ca : w.cell? ⟨b, off + k, none⟩ = some (.string (la.getD k .empty)) := HA.out k hk
          have cb : w.cell? ⟨b', off' + k, none⟩ = some (.string (lb.getD k .empty)) := HB.out k hk
          obtain ⟨x, hx⟩ : ∃ x, x = la.getD k .empty := ⟨_, rfl⟩
          obtain ⟨y, hy⟩ : ∃ y, y = lb.getD k .empty := ⟨_, rfl⟩
          rw [← hx] at ca
          rw [← hy] at cb
          have HXY : Hid (x = la.getD k .empty ∧ y = lb.getD k .empty) := ⟨hx, hy⟩
          clear hx hy
          by_cases hxy : x = y
          · have hbe : (x.toList == y.toList) = true := by rw [beqS]; simp [hxy]
            have HEQ : Hid (x = y) := hxy
            clear hxy
            go_wp2_with fail
            go_quiet (fail)
            go_wp2
            go_roundw
            case rel =>
              refine ⟨k + 1, by go_num, by omega, fun j hj => ?_, m + nq, rfl⟩
              by_cases e : j = k
              · subst e; rw [← HXY.out.1, ← HXY.out.2]; exact HEQ.out
              · exact HSM.out j (by omega)
            case measure => simp [intOf]; omega
          · have hbe : (x.toList == y.toList) = false := by rw [beqS]; simp [hxy]
            have HNE : Hid (¬ la = lb) := fun e => hxy (by rw [HXY.out.1, HXY.out.2, e])
            clear hxy
            go_wp2_with fail
            go_quiet (fail)
            go_wp2
            go_ret
            exact ⟨by rw [decide_eq_false HNE.out]; rfl, m + nq, by simp⟩
        · obtain rfl : k = n := by omega
          have b1 : decide ((k : Int) < (k : Int)) = false := by simp
          have HEQ : Hid (la = lb) := list_ext HL.out.2 (fun j hj => HSM.out j (by rw [HL.out.1]; exact hj))
          go_wp2
          go_ret
          exact ⟨by rw [decide_eq_true HEQ.out]; rfl, m, rfl⟩
  · obtain ⟨ao, cap, rfl⟩ := ha.form
    obtain ⟨ao', cap', rfl⟩ := hb.form
    have hn : ((la.length : Int) != (lb.length : Int)) = true := by simp; omega
    have HNE : Hid (¬ la = lb) := fun e => hlen (by rw [e])
    clear ha hb hlen
    go_enter Tryz.func40, Tryz.ntmps40
    go_wp2
    go_ret
    exact ⟨by rw [decide_eq_false HNE.out]; rfl, 0, rfl⟩
theorem RowS.on {w W : World} {v : Value} {l : List ByteArray} (h : RowS w v l) (hb : Below w.heap.size w W) : RowS W v l := by
  rcases h with h | ⟨b, off, cap, hv, hc⟩
  · exact .inl h
  · refine .inr ⟨b, off, cap, hv, fun j hj => ?_⟩
    have := hc j hj
    exact (World.cell?_of_block (a := ⟨b, off + j, none⟩) (hb.block b (World.block_lt_of_cell? w _ this))).trans this
set_option maxRecDepth 20000 in
set_option maxHeartbeats 8000000 in
theorem alike_raw (s : ByteArray) (n i0 i1 i2 i3 : Int) (inm : ByteArray) (isz : Int) (l : List ByteArray) (bad : Bool) (op nm : ByteArray) (e : Nat) (ao ao' : Option Addr) (c c' : Nat) (w : World) (h1 : RowS w (.slice ao l.length c) l) (h2 : RowS w (.slice ao' l.length c') l) (hl : l.length ≤ 4194304) :
    Calls Tryz.prog 17 #[.agg #[.string s, .int .i64 n, .int .i64 i0, .int .i64 i1, .int .i64 i2, .int .i64 i3, .string inm, .int .i64 isz, .slice ao l.length c, .bool bad, .bool false, .string op, .string nm, .int .i64 (e : Nat)], .agg #[.string s, .int .i64 n, .int .i64 i0, .int .i64 i1, .int .i64 i2, .int .i64 i3, .string inm, .int .i64 isz, .slice ao' l.length c', .bool bad, .bool false, .string op, .string nm, .int .i64 (e : Nat)]] w fun r w' => r = .returned (.bool true) ∧ Below w.heap.size w w' := by
  have HS : Hid (∀ W, Below w.heap.size w W → Calls Tryz.prog 40 #[.slice ao l.length c, .slice ao' l.length c'] W fun r w' => r = .returned (.bool true) ∧ Alike W w') := fun W hb => by
    refine (same_c _ _ l l W (h1.on hb) (h2.on hb) hl hl).mono ?_
    rintro r w' ⟨rfl, m, rfl⟩
    exact ⟨by simp, Alike.drewN _ m⟩
  obtain ⟨LN, hLN⟩ : ∃ LN, LN = l.length := ⟨_, rfl⟩
  rw [← hLN] at HS ⊢
  have HB : Hid (Below w.heap.size w ((w.alloc (.cells #[.string s, .int .i64 n, .int .i64 i0, .int .i64 i1, .int .i64 i2, .int .i64 i3, .string inm, .int .i64 isz, .slice ao LN c, .bool bad, .bool false, .string op, .string nm, .int .i64 (e : Nat)] 34)).alloc (.cells #[.string s, .int .i64 n, .int .i64 i0, .int .i64 i1, .int .i64 i2, .int .i64 i3, .string inm, .int .i64 isz, .slice ao' LN c', .bool bad, .bool false, .string op, .string nm, .int .i64 (e : Nat)] 34))) := ((Below.refl _ w).alloc (Nat.le_refl _) _).alloc (by simp) _
  have e1 : (s.toList == s.toList) = true := by simp
  have e2 : (n == n) = true := by simp
  have e3 : (i0 == i0) = true := by simp
  have e4 : (i1 == i1) = true := by simp
  have e5 : (i2 == i2) = true := by simp
  have e6 : (i3 == i3) = true := by simp
  have e7 : (inm.toList == inm.toList) = true := by simp
  have e8 : (isz == isz) = true := by simp
  have e9 : (bad == bad) = true := by simp
  have e10 : (op.toList == op.toList) = true := by simp
  have e11 : (nm.toList == nm.toList) = true := by simp
  have e12 : ((e : Int) == (e : Int)) = true := by simp
  clear hLN h1 h2 hl
  go_enter Tryz.func17, Tryz.ntmps17
  go_wp2_with fail
  go_at_call 40
  refine (HS.out _ HB.out).mono ?_
  rintro r w1 ⟨rfl, hA⟩
  have hb1 : Below w.heap.size w w1 := HB.out.trans (hA.below.mono HB.out.size)
  obtain ⟨⟨x0, x1, x2, x3, x4, x5, x6, x7, x8, x9, x10, x11, x12, x13⟩, -⟩ := at14 (show w1.heap[w.heap.size]? = some (.cells #[.string s, .int .i64 n, .int .i64 i0, .int .i64 i1, .int .i64 i2, .int .i64 i3, .string inm, .int .i64 isz, .slice ao LN c, .bool bad, .bool false, .string op, .string nm, .int .i64 (e : Nat)] 34 (0, 0)) by rw [hA.heap]; exact ((((Below.refl _ (w.alloc _)).alloc (Nat.le_refl _) _).block w.heap.size (by simp)).trans (new_at rfl)))
  obtain ⟨⟨y0, y1, y2, y3, y4, y5, y6, y7, y8, y9, y10, y11, y12, y13⟩, -⟩ := at14 (show w1.heap[w.heap.size + 1]? = some (.cells #[.string s, .int .i64 n, .int .i64 i0, .int .i64 i1, .int .i64 i2, .int .i64 i3, .string inm, .int .i64 isz, .slice ao' LN c', .bool bad, .bool false, .string op, .string nm, .int .i64 (e : Nat)] 34 (0, 0)) by rw [hA.heap]; exact new_at (by simp))
  have HB1 : Hid (Below w.heap.size w w1) := hb1
  clear hb1 hA HB HS
  go_wp2
  go_returns
  exact ⟨rfl, HB1.out⟩
/-- Two answers that are one. -/
theorem alike_c (a : An) (ao ao' : Option Addr) (c c' : Nat) (w : World) (h1 : RowS w (.slice ao a.l.length c) a.l) (h2 : RowS w (.slice ao' a.l.length c') a.l) (hl : a.l.length ≤ 4194304) :
    Calls Tryz.prog 17 #[.agg (ansV a (.slice ao a.l.length c)), .agg (ansV a (.slice ao' a.l.length c'))] w fun r w' => r = .returned (.bool true) ∧ Below w.heap.size w w' := by
  obtain ⟨s, n, i0, i1, i2, i3, inm, isz, l, bad, op, nm, e⟩ := a
  exact alike_raw s n i0 i1 i2 i3 inm isz l bad op nm e ao ao' c c' w h1 h2 hl
set_option maxRecDepth 20000 in
set_option maxHeartbeats 8000000 in
theorem refused_c (op nm : ByteArray) (e : Nat) (n : Int) (ao : Option Addr) (c : Nat) (w : World) :
    Calls Tryz.prog 13 #[.agg (ansV { an0 with n := n, bad := true, op := op, nm := nm, e := e } (.slice ao 0 c)), .int .i64 (e : Int), .int .i64 n] w fun r w' => r = .returned (.bool true) ∧ Below w.heap.size w w' := by
  have e2 : (n == n) = true := by simp
  have e12 : ((e : Int) == (e : Int)) = true := by simp
  unfold ansV an0
  simp only
  have HB : Hid (∀ X, Below w.heap.size w (w.alloc X)) := fun X => (Below.refl _ w).alloc (Nat.le_refl _) _
  go_enter Tryz.func13, Tryz.ntmps13
  go_wp2
  go_returns
  exact ⟨rfl, HB.out _⟩
end Go.Proofs.YtjbphheojfclcaaGreat
