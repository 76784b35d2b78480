
-- A new volume: the contracts that New and List need.
import Derived.Test.YtloljimabapicaaV10
import Derived.Test.YtloljimabapicaaU10
namespace Go.Proofs.Ytloljimabapicaa
open Go.RowKit
set_option linter.unusedVariables false
/-- A disk that is new. -/
def PSn (F : Nat → Prop) (p : Nat) (st : St) (w : World) : Prop :=
  F p ∧ p < w.heap.size ∧ ∃ c : Nat, st = St.new c ∧ w.heap[p]? = some (.cells #[.int .i64 c, .int .i64 0, .map none, .map none, .map none, .map none, .slice none 0 0] 59)
set_option maxHeartbeats 2000000 in
theorem new_no_p (c : Int) (w : World) (hc : c < 0 ∨ 1073741824 < c) : Calls Try.prog 9 #[.int .i64 c] w fun e w' => e = .returned (.pointer none) ∧ Below w.heap.size w w' := by
  rcases (by omega : c < 0 ∨ (0 ≤ c ∧ 1073741824 < c)) with h | ⟨h, h2⟩
  · have b0 : decide (c < 0) = true := decide_eq_true h
    go_enter Try.func9, Try.ntmps9
    go_wp2
    go_ret
    exact ⟨rfl, Below.refl _ _⟩
  · have b0 : decide (c < 0) = false := decide_eq_false (by omega)
    have b1 : decide (1073741824 < c) = true := decide_eq_true h2
    go_enter Try.func9, Try.ntmps9
    go_wp2
    go_ret
    exact ⟨rfl, Below.refl _ _⟩
set_option maxHeartbeats 2000000 in
theorem new_p (c : Nat) (w : World) (hc : c ≤ 1073741824) : Calls Try.prog 9 #[.int .i64 c] w fun e w' => ∃ p, e = .returned (.pointer (some ⟨p, 0, none⟩)) ∧ PSn (fun k => w.heap.size ≤ k ∧ k < w'.heap.size) p (St.new c) w' ∧ Below w.heap.size w w' := by
  have b0 : decide ((c : Int) < 0) = false := decide_eq_false (by omega)
  have b1 : decide ((1073741824 : Int) < (c : Int)) = false := decide_eq_false (by omega)
  go_enter Try.func9, Try.ntmps9
  go_wp2
  go_ret
  exact ⟨_, rfl, ⟨⟨Nat.le_refl _, by simp⟩, by simp, c, rfl, heap_alloc_new w _⟩, (Below.refl _ w).alloc (Nat.le_refl _) _⟩
theorem names_p (F : Nat → Prop) (p : Nat) (st : St) (w : World) (h : PSn F p st w) (hw : Wf st) : Calls Try.prog 37 #[.pointer (some ⟨p, 0, none⟩)] w fun e w' => (∃ v, e = .returned v ∧ w'.ownsRow w.heap.size 9 1 v st.names.length (strV st.names)) ∧ PSn F p st w' ∧ Kp F w w' := by
  obtain ⟨h1, h2, c, rfl, h3⟩ := h
  have c2 : w.cell? ⟨p, 2, none⟩ = some (.map none) := by rw [Lib.cell_of_heap h3]; rfl
  refine (pnames_c p (.map none) [] w c2 (.inl ⟨rfl, rfl⟩) Dw.nil (by simp)).mono ?_
  rintro e w' ⟨⟨v, rfl, ho⟩, hb⟩
  refine ⟨⟨v, rfl, ho⟩, ⟨h1, Nat.lt_of_lt_of_le h2 hb.size, c, rfl, (hb.block p h2).trans h3⟩, ⟨hb.os, hb.tape, hb.output, hb.size, fun k hk _ => hb.block k hk⟩⟩
theorem pcn : PC PSn where
  same := fun h hk => ⟨h.1, by
    obtain ⟨h1, h2, c, rfl, h3⟩ := h
    have := (hk _ h1 h2).trans h3
    exact (Array.getElem?_eq_some_iff.1 this).1, by
    obtain ⟨h1, h2, c, rfl, h3⟩ := h
    exact ⟨c, rfl, (hk _ h1 h2).trans h3⟩⟩
  mono := fun h hk => ⟨hk _ h.1, h.2⟩
  new_no := new_no_p
  new_c := new_p
  names := fun F p st w h hw => names_p F p st w h hw
theorem refNew_no (c : Int) (w : World) (h : c < 0 ∨ 1073741824 < c) : Calls Try.prog 10 #[.int .i64 c] w fun e w' => e = .returned (.pointer none) ∧ w' = w := by
  by_cases h0 : c < 0
  · have b1 : decide (c < 0) = true := by simp [h0]
    go_enter Try.func10, Try.ntmps10
    go_wp2
    go_ret
    exact ⟨rfl, rfl⟩
  · have b1 : decide (c < 0) = false := by simp [h0]
    have b2 : decide (1073741824 < c) = true := by simp; omega
    go_enter Try.func10, Try.ntmps10
    go_wp2
    go_ret
    exact ⟨rfl, rfl⟩
set_option maxHeartbeats 4000000 in
theorem rNew_no (c : Int) (w : World) (hc : c < 0 ∨ 1073741824 < c) : Calls Try.prog 5 #[.int .i64 c] w fun e w' => e = .returned (.pointer none) ∧ w' = w := by
  have HN : Hid (Calls Try.prog 10 #[.int .i64 c] w fun e w' => e = .returned (.pointer none) ∧ w' = w) := refNew_no c w hc
  clear hc
  go_enter Try.func5, Try.ntmps5
  go_wp2_with (go_at_call 10; refine HN.out.mono ?_; rintro e w1 ⟨rfl, hb1⟩; subst w1)
  go_returns
  exact ⟨rfl, rfl⟩
theorem refNew_n (c : Nat) (w : World) (h : c ≤ 1073741824) : Calls Try.prog 10 #[.int .i64 c] w fun e w' => (∃ d, e = .returned (.pointer (some ⟨d, 0, none⟩))) ∧ Below w.heap.size w w' := by
  have b1 : decide ((c : Int) < 0) = false := by simp
  have b2 : decide (1073741824 < (c : Int)) = false := by simp; omega
  go_enter Try.func10, Try.ntmps10
  go_wp2
  go_ret
  exact ⟨⟨_, rfl⟩, ((Below.refl _ w).alloc (Nat.le_refl _) _).alloc (by simp) _⟩
theorem rNew_n (c : Nat) (w : World) (hc : c ≤ 1073741824) : Calls Try.prog 5 #[.int .i64 c] w fun e w' => (∃ r, e = .returned (.pointer (some ⟨r, 0, none⟩))) ∧ Below w.heap.size w w' := by
  have HN : Hid (Calls Try.prog 10 #[.int .i64 (c : Int)] w fun e w' => (∃ d, e = .returned (.pointer (some ⟨d, 0, none⟩))) ∧ Below w.heap.size w w') := refNew_n c w hc
  have HE : Hid (∀ (w1 : World) (X : Obj), Below w.heap.size w w1 → Below w.heap.size w (w1.alloc X)) := fun w1 X h => h.alloc h.size X
  clear hc
  go_enter Try.func5, Try.ntmps5
  go_wp2_with (go_at_call 10; refine HN.out.mono ?_; rintro e w1 ⟨⟨d, rfl⟩, hb1⟩)
  go_returns
  exact ⟨⟨_, rfl⟩, HE.out _ _ hb1⟩
end Go.Proofs.Ytloljimabapicaa
