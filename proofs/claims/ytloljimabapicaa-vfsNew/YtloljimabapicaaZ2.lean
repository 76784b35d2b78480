
-- VfsNew's walk.
import Derived.Test.YtloljimabapicaaZ1
namespace Go.Proofs.Ytloljimabapicaa
open Go.RowKit
set_option linter.unusedVariables false
theorem new_list (c : Nat) : (Vs.new c).list.1 = ([], 0) ∧ (Vs.new c).list.2.cnt = 1 := ⟨rfl, rfl⟩
set_option maxHeartbeats 4000000 in
theorem vfsNew_w (c : Int) (w : World) : Calls Try.prog 3 #[.int .i64 c] w fun e w' => e = .returned (.bool true) ∧ Below w.heap.size w w' := by
  by_cases hc : c < 0 ∨ 1073741824 < c
  · have HF : Hid (∀ w, Calls Try.prog 4 #[.int .i64 c] w fun e w' => e = .returned (.pointer none) ∧ Below w.heap.size w w') := fun w => fNew_no pcn c w hc
    have HR : Hid (∀ w, Calls Try.prog 5 #[.int .i64 c] w fun e w' => e = .returned (.pointer none) ∧ w' = w) := fun w => rNew_no c w hc
    clear hc
    go_enter Try.func3, Try.ntmps3
    go_wp2_with (first
      | (go_at_call 4; refine (HF.out _).mono ?_; rintro e w1 ⟨rfl, hb1⟩)
      | (go_at_call 5; refine (HR.out _).mono ?_; rintro e w2 ⟨rfl, hw2⟩; subst w2))
    go_ret
    exact ⟨rfl, hb1⟩
  · obtain ⟨cn, rfl⟩ := Int.eq_ofNat_of_zero_le (show 0 ≤ c by omega)
    have hcn : cn ≤ 1073741824 := by omega
    have HF : Hid (∀ w, Calls Try.prog 4 #[.int .i64 (cn : Int)] w fun e w' => ∃ q, e = .returned (.pointer (some ⟨q, 0, none⟩)) ∧ PV PSn (fun k => w.heap.size ≤ k ∧ k < w'.heap.size) q (Vs.new cn) w' ∧ Below w.heap.size w w') := fun w => fNew_c pcn cn w hcn
    have HR : Hid (∀ w, Calls Try.prog 5 #[.int .i64 (cn : Int)] w fun e w' => (∃ r, e = .returned (.pointer (some ⟨r, 0, none⟩))) ∧ Below w.heap.size w w') := fun w => rNew_n cn w hcn
    have HCA : Hid (∀ G q w, PV PSn G q (Vs.new cn) w → Calls Try.prog 6 #[.pointer (some ⟨q, 0, none⟩)] w fun e w' => e = .returned (.int .i64 0) ∧ w' = w) := fun G q w h => fCalls_c G q _ w h
    have HDN : Hid (∀ G q w, PV PSn G q (Vs.new cn) w → Calls Try.prog 7 #[.pointer (some ⟨q, 0, none⟩)] w fun e w' => e = .returned (.bool false) ∧ w' = w) := fun G q w h => fDown_c G q _ w h
    have HLI : Hid (∀ G q w, PV PSn G q (Vs.new cn) w → Calls Try.prog 8 #[.pointer (some ⟨q, 0, none⟩)] w fun e w' => ∃ ao cp, e = .returned (.tuple #[.slice ao 0 cp, .nilIface]) ∧ (∃ G', PV PSn G' q (Vs.new cn).list.2 w') ∧ Kp G w w') := fun G q w h => by
      refine (fList_c pcn G q _ w h (new_wf cn hcn) (by simp [Vs.new])).mono ?_
      rintro e w' ⟨x, ev, rfl, ho, he, hd, hk⟩
      obtain ⟨n1, n2⟩ := new_list cn
      rw [n1] at ho he
      obtain ⟨ao, cp, rfl⟩ := own_shape ho
      rcases he with ⟨_, rfl⟩ | ⟨h0, _⟩
      · exact ⟨ao, cp, rfl, ⟨_, hd⟩, hk⟩
      · exact absurd rfl h0
    have HC1 : Hid (∀ q w, (∃ G', PV PSn G' q (Vs.new cn).list.2 w) → Calls Try.prog 6 #[.pointer (some ⟨q, 0, none⟩)] w fun e w' => e = .returned (.int .i64 1) ∧ w' = w) := fun q w ⟨G, h⟩ => fCalls_c G q _ w h
    have HB : Hid (∀ q (w1 w2 w3 : World), PV PSn (fun k => w.heap.size ≤ k ∧ k < w1.heap.size) q (Vs.new cn) w1 → Below w.heap.size w w1 → Below w1.heap.size w1 w2 → PV PSn (fun k => w.heap.size ≤ k ∧ k < w1.heap.size) q (Vs.new cn) w2 ∧ (Kp (fun k => w.heap.size ≤ k ∧ k < w1.heap.size) w2 w3 → Below w.heap.size w w3)) := fun q w1 w2 w3 h b1 b2 => by
      refine ⟨h.below pcn b2, fun hk => ?_⟩
      have s1 := b1.size
      have s2 := b2.size
      exact (b1.trans (b2.mono s1)).trans (hk.below (fun k hk => hk.1) (by omega))
    clear hc
    go_enter Try.func3, Try.ntmps3
    go_wp2_with (first
      | (go_at_call 4; refine (HF.out _).mono ?_; rintro e w1 ⟨q, rfl, p1, hb1⟩)
      | (go_at_call 5; refine (HR.out _).mono ?_; rintro e w2 ⟨⟨r, rfl⟩, hb2⟩; have p2 := (HB.out q w1 w2 w2 p1 hb1 hb2).1)
      | (go_at_call 6; refine (HCA.out _ _ _ p2).mono ?_; rintro e w3 ⟨rfl, hw3⟩; subst w3)
      | (go_at_call 7; refine (HDN.out _ _ _ p2).mono ?_; rintro e w4 ⟨rfl, hw4⟩; subst w4))
    go_at_call 8
    refine (HLI.out _ _ _ p2).mono ?_
    rintro e w5 ⟨ao, cp, rfl, p5, k5⟩
    have b5 := (HB.out q w1 w2 w5 p1 hb1 hb2).2 k5
    clear p1 hb1 hb2 p2 k5
    go_wp2_with (go_at_call 6; refine (HC1.out _ _ p5).mono ?_; rintro e w6 ⟨rfl, hw6⟩; subst w6)
    go_ret
    exact ⟨rfl, b5⟩
end Go.Proofs.Ytloljimabapicaa
