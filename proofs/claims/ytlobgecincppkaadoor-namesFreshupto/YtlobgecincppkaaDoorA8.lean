
-- shelflaw8.same: two lists of names compared.
import Derived.Test.YtlobgecincppkaaDoorK1
import Derived.WalkLawsBesides
import Derived.Handy
import Derived.ProofKit
import Derived.BigQuiet
import Derived.Deep.QuietTactic
import Derived.Deep.Draws
namespace Go.Proofs.YtlobgecincppkaaDoor
open Go.RowKit
set_option linter.unusedVariables false
set_option maxRecDepth 100000
theorem beqS (a b : ByteArray) : (a.toList == b.toList) = decide (a = b) := by
  rw [ByteArray.toList_eq, ByteArray.toList_eq]
  by_cases h : a = b
  · simp [h]
  · rw [decide_eq_false h]
    refine beq_eq_false_iff_ne.2 fun e => h ?_
    cases a; cases b
    simpa using e
theorem list_ext {a b : List ByteArray} (hl : a.length = b.length) (h : ∀ j, j < a.length → a.getD j .empty = b.getD j .empty) : a = b := by
  apply List.ext_getElem hl
  intro j h1 h2
  have := h j h1
  simpa [List.getD, List.getElem?_eq_getElem h1, List.getElem?_eq_getElem h2] using this
set_option maxHeartbeats 1000000 in
theorem same_c (va vb : Value) (la lb : List ByteArray) (w : World) (ha : RowS w va la) (hb : RowS w vb lb) (hla : la.length ≤ 4194304) (hlb : lb.length ≤ 4194304) :
    Calls Tryd.prog 9 #[va, vb] w fun e w' => e = .returned (.bool (decide (la = lb))) ∧ ∃ n, w' = w.drewN n := by
  by_cases hlen : la.length = lb.length
  · rcases Nat.eq_zero_or_pos la.length with h0 | h0
    · obtain rfl : la = [] := List.eq_nil_of_length_eq_zero h0
      obtain rfl : lb = [] := List.eq_nil_of_length_eq_zero (by omega)
      obtain ⟨ao, cap, rfl⟩ := ha.form
      obtain ⟨ao', cap', rfl⟩ := hb.form
      clear ha hb
      simp only [List.length_nil]
      go_enter Tryd.func9, Tryd.ntmps9
      go_wp2
      go_rounds 1
      go_ret
      exact ⟨by simp, 0, rfl⟩
    · obtain ⟨b, off, cap, rfl, hca⟩ : ∃ b off cap, va = .slice (some ⟨b, off, none⟩) la.length cap ∧ ∀ j, j < la.length → w.cell? ⟨b, off + j, none⟩ = some (.string (la.getD j .empty)) := by
        rcases ha with ⟨rfl, _⟩ | h
        · simp at h0
        · exact h
      obtain ⟨b', off', cap', rfl, hcb⟩ : ∃ b off cap, vb = .slice (some ⟨b, off, none⟩) lb.length cap ∧ ∀ j, j < lb.length → w.cell? ⟨b, off + j, none⟩ = some (.string (lb.getD j .empty)) := by
        rcases hb with ⟨rfl, _⟩ | h
        · rw [List.length_nil] at hlen; omega
        · exact h
      obtain ⟨n, hn⟩ : ∃ n, n = la.length := ⟨_, rfl⟩
      rw [← hlen] at hcb ⊢
      rw [← hn] at hca hcb hla ⊢ h0
      have HL : Hid (n = la.length ∧ la.length = lb.length) := ⟨hn, hlen⟩
      have HA : Hid (∀ j, j < n → w.cell? ⟨b, off + j, none⟩ = some (.string (la.getD j .empty))) := hca
      have HB : Hid (∀ j, j < n → w.cell? ⟨b', off' + j, none⟩ = some (.string (lb.getD j .empty))) := hcb
      clear hn hlen hlb hca hcb
      go_enter Tryd.func9, Tryd.ntmps9
      go_wp2
      go_loopw [5] (fun i wx => ∃ k : Nat, i = .int .i64 k ∧ k ≤ n ∧ (∀ j, j < k → la.getD j .empty = lb.getD j .empty) ∧ ∃ m, wx = w.drewN m) (fun i _ => n - (intOf i).toNat)
      case atStart => exact ⟨0, rfl, Nat.zero_le _, fun j hj => absurd hj (Nat.not_lt_zero _), 0, rfl⟩
      case round =>
        obtain ⟨k, rfl, hkn, hsm, m, rfl⟩ := hrel
        have HSM : Hid (∀ j, j < k → la.getD j .empty = lb.getD j .empty) := hsm
        clear hsm
        by_cases hk : k < n
        · have b1 : decide ((k : Int) < (n : Int)) = true := by simp; omega
          have kI : (k : Int) < (n : Int) := by omega
          have ca : w.cell? ⟨b, off + k, none⟩ = some (.string (la.getD k .empty)) := HA.out k hk
          have cb : w.cell? ⟨b', off' + k, none⟩ = some (.string (lb.getD k .empty)) := HB.out k hk
          obtain ⟨x, hx⟩ : ∃ x, x = la.getD k .empty := ⟨_, rfl⟩
          obtain ⟨y, hy⟩ : ∃ y, y = lb.getD k .empty := ⟨_, rfl⟩
          rw [← hx] at ca
          rw [← hy] at cb
          have HXY : Hid (x = la.getD k .empty ∧ y = lb.getD k .empty) := ⟨hx, hy⟩
          clear hx hy
          by_cases hxy : x = y
          · have hbe : (x.toList == y.toList) = true := by rw [beqS]; simp [hxy]
            have HEQ : Hid (x = y) := hxy
            clear hxy
            go_wp2_with fail
            go_quiet (fail)
            go_wp2
            go_roundw
            case rel =>
              refine ⟨k + 1, by go_num, by omega, fun j hj => ?_, m + nq, rfl⟩
              by_cases e : j = k
              · subst e; rw [← HXY.out.1, ← HXY.out.2]; exact HEQ.out
              · exact HSM.out j (by omega)
            case measure => simp [intOf]; omega
          · have hbe : (x.toList == y.toList) = false := by rw [beqS]; simp [hxy]
            have HNE : Hid (¬ la = lb) := fun e => hxy (by rw [HXY.out.1, HXY.out.2, e])
            clear hxy
            go_wp2_with fail
            go_quiet (fail)
            go_wp2
            go_ret
            exact ⟨by rw [decide_eq_false HNE.out]; rfl, m + nq, by simp⟩
        · obtain rfl : k = n := by omega
          have b1 : decide ((k : Int) < (k : Int)) = false := by simp
          have HEQ : Hid (la = lb) := list_ext HL.out.2 (fun j hj => HSM.out j (by rw [HL.out.1]; exact hj))
          go_wp2
          go_ret
          exact ⟨by rw [decide_eq_true HEQ.out]; rfl, m, rfl⟩
  · obtain ⟨ao, cap, rfl⟩ := ha.form
    obtain ⟨ao', cap', rfl⟩ := hb.form
    have hn : ((la.length : Int) != (lb.length : Int)) = true := by simp; omega
    have HNE : Hid (¬ la = lb) := fun e => hlen (by rw [e])
    clear ha hb hlen
    go_enter Tryd.func9, Tryd.ntmps9
    go_wp2
    go_ret
    exact ⟨by rw [decide_eq_false HNE.out]; rfl, 0, rfl⟩
end Go.Proofs.YtlobgecincppkaaDoor
