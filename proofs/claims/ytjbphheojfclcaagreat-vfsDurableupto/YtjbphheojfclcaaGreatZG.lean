
-- What the statements ask of a Vol besides: its making, its faces, the questions about a script.
import Derived.Test.YtjbphheojfclcaaGreatZF
import Derived.Test.YtjbphheojfclcaaGreatZH
import Derived.Test.YtjbphheojfclcaaGreatU10
namespace Go.Proofs.YtjbphheojfclcaaGreat
open Go.RowKit
set_option linter.unusedVariables false
set_option maxRecDepth 100000
variable {PS : (Nat → Prop) → Nat → St → World → Prop}
attribute [local go_sem ↓] Go.wp_at_zero Go.wp_at_succ
set_option maxHeartbeats 4000000 in
theorem good_c (c : Int) (w : World) : Calls Tryz.prog 9 #[.int .i64 c] w fun e w' => e = .returned (.bool (decide (0 ≤ c) && decide (c ≤ 1073741824))) ∧ w' = w := by
  by_cases h1 : 0 ≤ c
  · have b1 : decide (c ≥ (0 : Int)) = true := by simp; omega
    have b3 : decide ((0 : Int) ≤ c) = true := by simp; omega
    by_cases h2 : c ≤ 1073741824
    · have b2 : decide (c ≤ (1073741824 : Int)) = true := by simp; omega
      rw [b3, b2]
      go_enter Tryz.func9, Tryz.ntmps9
      go_wp2
      go_returns
      exact ⟨rfl, rfl⟩
    · have b2 : decide (c ≤ (1073741824 : Int)) = false := by simp; omega
      rw [b3, b2]
      go_enter Tryz.func9, Tryz.ntmps9
      go_wp2
      go_returns
      exact ⟨rfl, rfl⟩
  · have b1 : decide (c ≥ (0 : Int)) = false := by simp; omega
    have b3 : decide ((0 : Int) ≤ c) = false := by simp; omega
    rw [b3]
    go_enter Tryz.func9, Tryz.ntmps9
    go_wp2
    go_returns
    exact ⟨rfl, rfl⟩
set_option maxHeartbeats 4000000 in
theorem open_no (C : PC PS) (c : Int) (w : World) (hc : c < 0 ∨ 1073741824 < c) : Calls Tryz.prog 10 #[.int .i64 c] w fun e w' => e = .returned (.pointer none) ∧ Below w.heap.size w w' := by
  have HN : Hid (∀ w, Calls Tryz.prog 29 #[.int .i64 c] w fun e w' => e = .returned (.pointer none) ∧ Below w.heap.size w w') := fun w => fNew_no C c w hc
  clear hc
  go_enter Tryz.func10, Tryz.ntmps10
  go_wp2_with (go_at_call 29; refine (HN.out _).mono ?_; rintro e w1 ⟨rfl, hb1⟩)
  go_returns
  exact ⟨rfl, hb1⟩
set_option maxHeartbeats 4000000 in
theorem open_c (C : PC PS) (c : Nat) (w : World) (hc : c ≤ 1073741824) : Calls Tryz.prog 10 #[.int .i64 c] w fun e w' => ∃ vb, e = .returned (.pointer (some ⟨vb, 0, none⟩)) ∧ VA PS (fun k => w.heap.size ≤ k ∧ k < w'.heap.size) vb (Vl.new c) w' ∧ Below w.heap.size w w' := by
  have HN : Hid (Calls Tryz.prog 29 #[.int .i64 (c : Int)] w fun e w' => ∃ q, e = .returned (.pointer (some ⟨q, 0, none⟩)) ∧ PV PS (fun k => w.heap.size ≤ k ∧ k < w'.heap.size) q (Vs.new c) w' ∧ Below w.heap.size w w') := fNew_c C c w hc
  have HE : Hid (∀ q (w1 : World), PV PS (fun k => w.heap.size ≤ k ∧ k < w1.heap.size) q (Vs.new c) w1 → Below w.heap.size w w1 → ∀ W, W = w1.alloc (.cells #[.pointer (some ⟨q, 0, none⟩), .slice none 0 0] 45) → VA PS (fun k => w.heap.size ≤ k ∧ k < W.heap.size) w1.heap.size (Vl.new c) W ∧ Below w.heap.size w W) := fun q w1 h1 h2 W hW => by
    have hs := h2.size
    have hb : Below w1.heap.size w1 W := by rw [hW]; exact (Below.refl _ w1).alloc (Nat.le_refl _) _
    have hsW : W.heap.size = w1.heap.size + 1 := by rw [hW]; simp
    refine ⟨⟨q, .slice none 0 0, _, [], ⟨?_, h1.below C hb, rfl, fun k hk => ⟨hk.1, by have := hk.2; omega⟩, ⟨hs, by omega⟩, fun hk => by have := hk.2; omega, World.ownsRow_nil _ _ _ _, (fun k hk => by cases hk), (fun i a y h => by simp at h), by simp, fun k hk => hk.2⟩⟩, h2.trans (hb.mono hs)⟩
    rw [hW]; exact heap_alloc_new _ _
  clear hc
  go_enter Tryz.func10, Tryz.ntmps10
  go_wp2_with (go_at_call 29; refine HN.out.mono ?_; rintro e w1 ⟨q, rfl, hp1, hb1⟩)
  go_returns
  obtain ⟨g1, g2⟩ := HE.out q w1 hp1 hb1 _ rfl
  exact ⟨_, rfl, g1, g2⟩
set_option maxHeartbeats 4000000 in
theorem counted_c (k : Int) (w : World) : Calls Tryz.prog 25 #[.int .i64 k] w fun e w' => e = .returned (.bool (decide (1 ≤ k) && decide (k ≤ 9))) ∧ w' = w := by
  by_cases h1 : 1 ≤ k
  · have b1 : decide (k ≥ (1 : Int)) = true := by simp; omega
    have b3 : decide ((1 : Int) ≤ k) = true := by simp; omega
    by_cases h2 : k ≤ 9
    · have b2 : decide (k ≤ (9 : Int)) = true := by simp; omega
      rw [b3, b2]
      go_enter Tryz.func25, Tryz.ntmps25
      go_wp2
      go_returns
      exact ⟨rfl, rfl⟩
    · have b2 : decide (k ≤ (9 : Int)) = false := by simp; omega
      rw [b3, b2]
      go_enter Tryz.func25, Tryz.ntmps25
      go_wp2
      go_returns
      exact ⟨rfl, rfl⟩
  · have b1 : decide (k ≥ (1 : Int)) = false := by simp; omega
    have b3 : decide ((1 : Int) ≤ k) = false := by simp; omega
    rw [b3]
    go_enter Tryz.func25, Tryz.ntmps25
    go_wp2
    go_returns
    exact ⟨rfl, rfl⟩
set_option maxHeartbeats 8000000 in
theorem callable_c (S : Nat → Prop) (vb : Nat) (x : Vl) (K n : Int) (a b : ByteArray) (m0 m1 m2 m3 : Int) (po : Option Addr) (pl pc : Nat) (co : Option Addr) (cl cc : Nat) (w : World) (h : VA PS S vb x w) (C : PC PS) (hl : x.hs.length ≤ 2097152) :
    Calls Tryz.prog 21 #[.pointer (some ⟨vb, 0, none⟩), .agg #[.int .i64 K, .int .i64 n, .string a, .string b, .int .i64 m0, .int .i64 m1, .int .i64 m2, .int .i64 m3, .slice po pl pc, .slice co cl cc]] w fun e w' => e = .returned (.bool (x.can ⟨K, n, a, b, m0, m1, m2, m3⟩)) ∧ Below w.heap.size w w' := by
  obtain ⟨q, mv, G, hs, T⟩ := h
  have hhd := pick_hd T.eq n
  have hll : hs.length ≤ 2097152 := by rw [← T.eq, List.length_map] at hl; exact hl
  have HC : Hid (∀ W, Calls Tryz.prog 25 #[.int .i64 K] W fun e w' => e = .returned (.bool (decide (1 ≤ K) && decide (K ≤ 9))) ∧ w' = W) := fun W => counted_c K W
  obtain ⟨X, hX⟩ : ∃ X, X = Obj.cells #[.int .i64 K, .int .i64 n, .string a, .string b, .int .i64 m0, .int .i64 m1, .int .i64 m2, .int .i64 m3, .slice po pl pc, .slice co cl cc] 39 := ⟨_, rfl⟩
  have hbX : Below w.heap.size w (w.alloc X) := (Below.refl _ w).alloc (Nat.le_refl _) _
  have HH : Hid (Calls Tryz.prog 42 #[.pointer (some ⟨vb, 0, none⟩), .agg #[.int .i64 K, .int .i64 n, .string a, .string b, .int .i64 m0, .int .i64 m1, .int .i64 m2, .int .i64 m3, .slice po pl pc, .slice co cl cc]] (w.alloc X) fun e w' => e = .returned (pickV (pick hs n)) ∧ Below w.heap.size w w') := by
    refine (handle_c (PS := PS) S vb q x mv G hs K n a b m0 m1 m2 m3 po pl pc co cl cc (w.alloc X) (T.below C hbX) hll).mono ?_
    rintro e w' ⟨rfl, hb⟩
    exact ⟨rfl, hbX.trans (hb.mono hbX.size)⟩
  have HB : Hid (Below w.heap.size w (w.alloc X)) := hbX
  unfold Vl.can
  simp only
  rw [hhd]
  clear T hll hl hbX hhd
  subst hX
  by_cases h1 : 1 ≤ K
  · have b1 : decide ((1 : Int) ≤ K) = true := by simp; omega
    by_cases h2 : K ≤ 9
    · have b2 : decide (K ≤ (9 : Int)) = true := by simp; omega
      rw [b1, b2] at HC ⊢
      by_cases h3 : K < 8
      · have b3 : decide (K < (8 : Int)) = true := by simp; omega
        rw [b3]
        clear h1 h2 h3
        go_enter Tryz.func21, Tryz.ntmps21
        go_wp2_with (go_at_call 25; refine (HC.out _).mono ?_; rintro e w1 ⟨rfl, hw1⟩; subst w1)
        go_returns
        exact ⟨rfl, HB.out⟩
      · have b3 : decide (K < (8 : Int)) = false := by simp; omega
        rw [b3]
        clear h1 h2 h3
        cases hp : pick hs n with
        | none =>
          rw [hp] at HH
          unfold pickV at HH
          simp only at HH
          go_enter Tryz.func21, Tryz.ntmps21
          go_wp2_with (first
            | (go_at_call 25; refine (HC.out _).mono ?_; rintro e w1 ⟨rfl, hw1⟩; subst w1)
            | (go_at_call 42; refine (HH.out).mono ?_; rintro e w2 ⟨rfl, hb2⟩))
          go_returns
          exact ⟨rfl, hb2⟩
        | some z =>
          rw [hp] at HH
          unfold pickV at HH
          simp only at HH
          go_enter Tryz.func21, Tryz.ntmps21
          go_wp2_with (first
            | (go_at_call 25; refine (HC.out _).mono ?_; rintro e w1 ⟨rfl, hw1⟩; subst w1)
            | (go_at_call 42; refine (HH.out).mono ?_; rintro e w2 ⟨rfl, hb2⟩))
          go_returns
          exact ⟨rfl, hb2⟩
    · have b2 : decide (K ≤ (9 : Int)) = false := by simp; omega
      rw [b1, b2] at HC ⊢
      clear h1 h2
      go_enter Tryz.func21, Tryz.ntmps21
      go_wp2_with (go_at_call 25; refine (HC.out _).mono ?_; rintro e w1 ⟨rfl, hw1⟩; subst w1)
      go_returns
      exact ⟨rfl, HB.out⟩
  · have b1 : decide ((1 : Int) ≤ K) = false := by simp; omega
    rw [b1] at HC ⊢
    clear h1
    go_enter Tryz.func21, Tryz.ntmps21
    go_wp2_with (go_at_call 25; refine (HC.out _).mono ?_; rintro e w1 ⟨rfl, hw1⟩; subst w1)
    go_returns
    exact ⟨rfl, HB.out⟩
end Go.Proofs.YtjbphheojfclcaaGreat
