
-- shelfref7.name, Parse: contracts.
import Derived.Test.YtbkfkanknfdelaaDoorX4
import Derived.Test.YtbkfkanknfdelaaDoorRefDec
namespace Go.Proofs.YtbkfkanknfdelaaDoor
open Go.ChangeShapes Go.WideShapes Go.ChangeAt Go.RowKit
set_option linter.unusedVariables false
set_option maxRecDepth 100000

def fromB (l : List UInt8) (k : Nat) : Prop := ∀ (j : Nat) b, k ≤ j → l[j]? = some b → b = 32
theorem fromB_next (s : ByteArray) (q : Nat) (hq : q < s.size) (h : fromB s.data.toList (q + 1)) (hc : s[q].toNat = 32) : fromB s.data.toList q := by
  intro j b hj hb
  by_cases e : j = q
  · subst e
    rw [Rd.at_some s j hq] at hb
    injection hb with hb
    rw [← hb]; exact UInt8.toNat_inj.1 hc
  · exact h j b (by omega) hb
theorem fromB_end (s : ByteArray) (k : Nat) (hk : k ≤ s.size) (h : fromB s.data.toList k) (h2 : ∀ hq : k - 1 < s.size, 0 < k → ¬ s[k - 1].toNat = 32) : trimN s.data.toList = s.data.toList.take k := by
  have hl : s.data.toList.length = s.size := by simp
  refine trimN_is _ k (by omega) h (fun b h0 hb hc => ?_)
  rw [Rd.at_some s (k - 1) (by omega)] at hb
  injection hb with hb
  exact h2 (by omega) h0 (by rw [hb, hc]; rfl)
set_option maxHeartbeats 1000000 in
theorem name_c (s : ByteArray) (w : World) (hm : s.size ≤ maxLen) :
    Calls Tryd.prog 25 #[.string s] w fun e w' => e = .returned (.string (strL (trimN s.data.toList))) ∧ w' = w := by
  have hm' := hm
  unfold maxLen at hm
  go_enter Tryd.func25, Tryd.ntmps25
  go_wp2
  go_loop [3] (fun i => ∃ k : Nat, k ≤ s.size ∧ i = .int .i64 k ∧ fromB s.data.toList k) (fun i => (intOf i).toNat)
  case atStart => exact ⟨s.size, Nat.le_refl _, rfl, fun j b hj hb => by rw [List.getElem?_eq_none (by simpa using hj)] at hb; cases hb⟩
  case round =>
    obtain ⟨k, hk, rfl, hd⟩ := hrel
    have HD : Hid (fromB s.data.toList k) := hd
    clear hd
    by_cases h0 : k = 0
    · subst h0
      go_wp2
      go_ret
      refine ⟨?_, rfl⟩
      rw [fromB_end s 0 (by omega) HD.out (fun _ h => absurd h (by omega))]
      rfl
    · obtain ⟨q, rfl⟩ : ∃ q, k = q + 1 := ⟨k - 1, by omega⟩
      have hidx := Rd.idx s q (by omega)
      by_cases hc : s[q].toNat = 32
      · have hc' : ((s[q].toNat : Int) == 32) = true := by simp; omega
        have HC : Hid (s[q].toNat = 32) := hc
        clear hc
        go_wp2
        go_round
        case rel => exact ⟨q, by omega, by go_num, fromB_next s q (by omega) HD.out HC.out⟩
        case measure => simp [intOf]
      · have hc' : ((s[q].toNat : Int) == 32) = false := by simp; omega
        have HC : Hid (¬ s[q].toNat = 32) := hc
        clear hc
        go_wp2
        go_ret
        refine ⟨?_, rfl⟩
        rw [fromB_end s (q + 1) (by omega) HD.out (fun _ _ => HC.out)]
        exact congrArg (fun z => Ending.returned (Value.string z)) (Lib.extract_upto s (q + 1))
theorem rparse_neg (b : ByteArray) (i : Int) (w : World) (hm : b.size ≤ maxLen) (h : i < 0) :
    Calls Tryd.prog 13 #[.string b, .int .i64 i] w fun e w' => e = .returned (.tuple #[.agg #[.int .i64 0, .int .i64 0, .int .i64 0, .int .i64 0, .string ⟨#[]⟩, .int .i64 0], .int .i64 70]) ∧ Below w.heap.size w w' := by
  unfold maxLen at hm
  have b1 : decide (i < 0) = true := by simp; omega
  go_enter Tryd.func13, Tryd.ntmps13
  go_wp2
  exact bodyPost_ret (results_cell_tmp_row rfl _ _ w.heap.size _ _ _ _ _ rfl rfl (heap_alloc_new _ _) Tryd.underlying25 rfl (by kernel_rfl)) rfl ⟨rfl, bup (Below.refl _ _) _⟩
theorem rparse_over (b : ByteArray) (i : Int) (w : World) (hm : b.size ≤ maxLen) (h0 : 0 ≤ i) (h : (b.size : Int) < i) :
    Calls Tryd.prog 13 #[.string b, .int .i64 i] w fun e w' => e = .returned (.tuple #[.agg #[.int .i64 0, .int .i64 0, .int .i64 0, .int .i64 0, .string ⟨#[]⟩, .int .i64 0], .int .i64 70]) ∧ Below w.heap.size w w' := by
  unfold maxLen at hm
  have b1 : decide (i < 0) = false := by simp; omega
  have b2 : decide ((b.size : Int) < i) = true := by simp; omega
  go_enter Tryd.func13, Tryd.ntmps13
  go_wp2
  exact bodyPost_ret (results_cell_tmp_row rfl _ _ w.heap.size _ _ _ _ _ rfl rfl (heap_alloc_new _ _) Tryd.underlying25 rfl (by kernel_rfl)) rfl ⟨rfl, bup (Below.refl _ _) _⟩
theorem rparse_few (b : ByteArray) (i : Int) (w : World) (hm : b.size ≤ maxLen) (h0 : 0 ≤ i) (h1 : i ≤ (b.size : Int)) (h : (b.size : Int) - i < 60) :
    Calls Tryd.prog 13 #[.string b, .int .i64 i] w fun e w' => e = .returned (.tuple #[.agg #[.int .i64 0, .int .i64 0, .int .i64 0, .int .i64 0, .string ⟨#[]⟩, .int .i64 0], .int .i64 70]) ∧ Below w.heap.size w w' := by
  unfold maxLen at hm
  have b1 : decide (i < 0) = false := by simp; omega
  have b2 : decide ((b.size : Int) < i) = false := by simp; omega
  have b3 : decide ((b.size : Int) - i < 60) = true := by simp; omega
  go_enter Tryd.func13, Tryd.ntmps13
  go_wp2
  exact bodyPost_ret (results_cell_tmp_row rfl _ _ w.heap.size _ _ _ _ _ rfl rfl (heap_alloc_new _ _) Tryd.underlying25 rfl (by kernel_rfl)) rfl ⟨rfl, bup (Below.refl _ _) _⟩
set_option maxHeartbeats 1000000 in
theorem rparse_tail (b Hs : ByteArray) (i x y : Int) (w : World) (hm : b.size ≤ maxLen) (h0 : 0 ≤ i) (h1 : i ≤ (b.size : Int) - 60)
    (hsl : ∀ w, (Instr.slice 9 (.string b) (some (.int .i64 i)) (some (.int .i64 (i + 60))) none).run Tryd.prog w = .ok (.string Hs) w)
    (x58 : ∀ w, (Instr.index 9 (.string Hs) (.int .i64 58)).run Tryd.prog w = .ok (.int .u8 x) w) (x59 : ∀ w, (Instr.index 9 (.string Hs) (.int .i64 59)).run Tryd.prog w = .ok (.int .u8 y) w) (ht : ¬ (x = 96 ∧ y = 10)) :
    Calls Tryd.prog 13 #[.string b, .int .i64 i] w fun e w' => e = .returned (.tuple #[.agg #[.int .i64 0, .int .i64 0, .int .i64 0, .int .i64 0, .string ⟨#[]⟩, .int .i64 0], .int .i64 71]) ∧ Below w.heap.size w w' := by
  unfold maxLen at hm
  have b1 : decide (i < 0) = false := by simp; omega
  have b2 : decide ((b.size : Int) < i) = false := by simp; omega
  have b3 : decide ((b.size : Int) - i < 60) = false := by simp; omega
  by_cases hx : x = 96
  · have hy : ¬ y = 10 := fun h => ht ⟨hx, h⟩
    have c1 : (x != 96) = false := by simp [hx]
    have c2 : (y != 10) = true := by simp [hy]
    clear hx hy ht
    go_enter Tryd.func13, Tryd.ntmps13
    go_wp2
    exact bodyPost_ret (results_cell_tmp_row rfl _ _ w.heap.size _ _ _ _ _ rfl rfl (heap_alloc_new _ _) Tryd.underlying25 rfl (by kernel_rfl)) rfl ⟨rfl, bup (Below.refl _ _) _⟩
  · have c1 : (x != 96) = true := by simp [hx]
    clear hx ht
    go_enter Tryd.func13, Tryd.ntmps13
    go_wp2
    exact bodyPost_ret (results_cell_tmp_row rfl _ _ w.heap.size _ _ _ _ _ rfl rfl (heap_alloc_new _ _) Tryd.underlying25 rfl (by kernel_rfl)) rfl ⟨rfl, bup (Below.refl _ _) _⟩
set_option maxHeartbeats 2000000 in
theorem rparse_bad (b Hs g1 g2 g3 g4 g5 : ByteArray) (i x y : Int) (dv de ov oe : ByteArray → Int) (w : World) (hm : b.size ≤ maxLen) (h0 : 0 ≤ i) (h1 : i ≤ (b.size : Int) - 60)
    (hsl : ∀ w, (Instr.slice 9 (.string b) (some (.int .i64 i)) (some (.int .i64 (i + 60))) none).run Tryd.prog w = .ok (.string Hs) w)
    (x58 : ∀ w, (Instr.index 9 (.string Hs) (.int .i64 58)).run Tryd.prog w = .ok (.int .u8 x) w) (x59 : ∀ w, (Instr.index 9 (.string Hs) (.int .i64 59)).run Tryd.prog w = .ok (.int .u8 y) w) (c1 : (x != 96) = false) (c2 : (y != 10) = false)
    (s1 : ∀ w, (Instr.slice 9 (.string Hs) (some (.int .i64 16)) (some (.int .i64 28)) none).run Tryd.prog w = .ok (.string g1) w) (z1 : g1.size ≤ 60)
    (s2 : ∀ w, (Instr.slice 9 (.string Hs) (some (.int .i64 28)) (some (.int .i64 34)) none).run Tryd.prog w = .ok (.string g2) w) (z2 : g2.size ≤ 60)
    (s3 : ∀ w, (Instr.slice 9 (.string Hs) (some (.int .i64 34)) (some (.int .i64 40)) none).run Tryd.prog w = .ok (.string g3) w) (z3 : g3.size ≤ 60)
    (s4 : ∀ w, (Instr.slice 9 (.string Hs) (some (.int .i64 40)) (some (.int .i64 48)) none).run Tryd.prog w = .ok (.string g4) w) (z4 : g4.size ≤ 60)
    (s5 : ∀ w, (Instr.slice 9 (.string Hs) (some (.int .i64 48)) (some (.int .i64 58)) none).run Tryd.prog w = .ok (.string g5) w) (z5 : g5.size ≤ 60)
    (HD : Hid (∀ (g : ByteArray) (w : World), g.size ≤ 60 → Calls Tryd.prog 23 #[.string g] w fun e w' => e = .returned (.tuple #[.int .i64 (dv g), .int .i64 (de g)]) ∧ w' = w))
    (HO : Hid (∀ (g : ByteArray) (w : World), g.size ≤ 60 → Calls Tryd.prog 24 #[.string g] w fun e w' => e = .returned (.tuple #[.int .i64 (ov g), .int .i64 (oe g)]) ∧ w' = w))
    (hb : ¬ (de g1 = 0 ∧ de g2 = 0 ∧ de g3 = 0 ∧ oe g4 = 0 ∧ de g5 = 0)) :
    Calls Tryd.prog 13 #[.string b, .int .i64 i] w fun e w' => e = .returned (.tuple #[.agg #[.int .i64 0, .int .i64 0, .int .i64 0, .int .i64 0, .string ⟨#[]⟩, .int .i64 0], .int .i64 72]) ∧ Below w.heap.size w w' := by
  unfold maxLen at hm
  have b1 : decide (i < 0) = false := by simp; omega
  have b2 : decide ((b.size : Int) < i) = false := by simp; omega
  have b3 : decide ((b.size : Int) - i < 60) = false := by simp; omega
  by_cases q1 : de g1 = 0
  rotate_left
  · have y1 : (de g1 != 0) = true := by simp [q1]
    clear hb q1
    go_enter Tryd.func13, Tryd.ntmps13
    go_wp2_with (first | (go_at_call 23; refine (HD.out _ _ (by assumption)).mono ?_; rintro e w1 ⟨rfl, hw1⟩; subst w1) | (go_at_call 24; refine (HO.out _ _ (by assumption)).mono ?_; rintro e w1 ⟨rfl, hw1⟩; subst w1))
    exact bodyPost_ret (results_cell_tmp_row rfl _ _ w.heap.size _ _ _ _ _ rfl rfl (heap_alloc_new _ _) Tryd.underlying25 rfl (by kernel_rfl)) rfl ⟨rfl, bup (Below.refl _ _) _⟩
  have y1 : (de g1 != 0) = false := by simp [q1]
  by_cases q2 : de g2 = 0
  rotate_left
  · have y2 : (de g2 != 0) = true := by simp [q2]
    clear hb q1 q2
    go_enter Tryd.func13, Tryd.ntmps13
    go_wp2_with (first | (go_at_call 23; refine (HD.out _ _ (by assumption)).mono ?_; rintro e w1 ⟨rfl, hw1⟩; subst w1) | (go_at_call 24; refine (HO.out _ _ (by assumption)).mono ?_; rintro e w1 ⟨rfl, hw1⟩; subst w1))
    exact bodyPost_ret (results_cell_tmp_row rfl _ _ w.heap.size _ _ _ _ _ rfl rfl (heap_alloc_new _ _) Tryd.underlying25 rfl (by kernel_rfl)) rfl ⟨rfl, bup (Below.refl _ _) _⟩
  have y2 : (de g2 != 0) = false := by simp [q2]
  by_cases q3 : de g3 = 0
  rotate_left
  · have y3 : (de g3 != 0) = true := by simp [q3]
    clear hb q1 q2 q3
    go_enter Tryd.func13, Tryd.ntmps13
    go_wp2_with (first | (go_at_call 23; refine (HD.out _ _ (by assumption)).mono ?_; rintro e w1 ⟨rfl, hw1⟩; subst w1) | (go_at_call 24; refine (HO.out _ _ (by assumption)).mono ?_; rintro e w1 ⟨rfl, hw1⟩; subst w1))
    exact bodyPost_ret (results_cell_tmp_row rfl _ _ w.heap.size _ _ _ _ _ rfl rfl (heap_alloc_new _ _) Tryd.underlying25 rfl (by kernel_rfl)) rfl ⟨rfl, bup (Below.refl _ _) _⟩
  have y3 : (de g3 != 0) = false := by simp [q3]
  by_cases q4 : oe g4 = 0
  rotate_left
  · have y4 : (oe g4 != 0) = true := by simp [q4]
    clear hb q1 q2 q3 q4
    go_enter Tryd.func13, Tryd.ntmps13
    go_wp2_with (first | (go_at_call 23; refine (HD.out _ _ (by assumption)).mono ?_; rintro e w1 ⟨rfl, hw1⟩; subst w1) | (go_at_call 24; refine (HO.out _ _ (by assumption)).mono ?_; rintro e w1 ⟨rfl, hw1⟩; subst w1))
    exact bodyPost_ret (results_cell_tmp_row rfl _ _ w.heap.size _ _ _ _ _ rfl rfl (heap_alloc_new _ _) Tryd.underlying25 rfl (by kernel_rfl)) rfl ⟨rfl, bup (Below.refl _ _) _⟩
  have y4 : (oe g4 != 0) = false := by simp [q4]
  by_cases q5 : de g5 = 0
  rotate_left
  · have y5 : (de g5 != 0) = true := by simp [q5]
    clear hb q1 q2 q3 q4 q5
    go_enter Tryd.func13, Tryd.ntmps13
    go_wp2_with (first | (go_at_call 23; refine (HD.out _ _ (by assumption)).mono ?_; rintro e w1 ⟨rfl, hw1⟩; subst w1) | (go_at_call 24; refine (HO.out _ _ (by assumption)).mono ?_; rintro e w1 ⟨rfl, hw1⟩; subst w1))
    exact bodyPost_ret (results_cell_tmp_row rfl _ _ w.heap.size _ _ _ _ _ rfl rfl (heap_alloc_new _ _) Tryd.underlying25 rfl (by kernel_rfl)) rfl ⟨rfl, bup (Below.refl _ _) _⟩
  have y5 : (de g5 != 0) = false := by simp [q5]
  exact absurd ⟨q1, q2, q3, q4, q5⟩ hb
set_option maxHeartbeats 2000000 in
theorem rparse_ok (b Hs g0 g1 g2 g3 g4 g5 nm : ByteArray) (i x y : Int) (dv de ov oe : ByteArray → Int) (w : World) (hm : b.size ≤ maxLen) (h0 : 0 ≤ i) (h1 : i ≤ (b.size : Int) - 60)
    (hsl : ∀ w, (Instr.slice 9 (.string b) (some (.int .i64 i)) (some (.int .i64 (i + 60))) none).run Tryd.prog w = .ok (.string Hs) w)
    (x58 : ∀ w, (Instr.index 9 (.string Hs) (.int .i64 58)).run Tryd.prog w = .ok (.int .u8 x) w) (x59 : ∀ w, (Instr.index 9 (.string Hs) (.int .i64 59)).run Tryd.prog w = .ok (.int .u8 y) w) (c1 : (x != 96) = false) (c2 : (y != 10) = false)
    (s0 : ∀ w, (Instr.slice 9 (.string Hs) none (some (.int .i64 16)) none).run Tryd.prog w = .ok (.string g0) w)
    (H0 : Hid (∀ w, Calls Tryd.prog 25 #[.string g0] w fun e w' => e = .returned (.string nm) ∧ w' = w))
    (s1 : ∀ w, (Instr.slice 9 (.string Hs) (some (.int .i64 16)) (some (.int .i64 28)) none).run Tryd.prog w = .ok (.string g1) w) (z1 : g1.size ≤ 60)
    (s2 : ∀ w, (Instr.slice 9 (.string Hs) (some (.int .i64 28)) (some (.int .i64 34)) none).run Tryd.prog w = .ok (.string g2) w) (z2 : g2.size ≤ 60)
    (s3 : ∀ w, (Instr.slice 9 (.string Hs) (some (.int .i64 34)) (some (.int .i64 40)) none).run Tryd.prog w = .ok (.string g3) w) (z3 : g3.size ≤ 60)
    (s4 : ∀ w, (Instr.slice 9 (.string Hs) (some (.int .i64 40)) (some (.int .i64 48)) none).run Tryd.prog w = .ok (.string g4) w) (z4 : g4.size ≤ 60)
    (s5 : ∀ w, (Instr.slice 9 (.string Hs) (some (.int .i64 48)) (some (.int .i64 58)) none).run Tryd.prog w = .ok (.string g5) w) (z5 : g5.size ≤ 60)
    (HD : Hid (∀ (g : ByteArray) (w : World), g.size ≤ 60 → Calls Tryd.prog 23 #[.string g] w fun e w' => e = .returned (.tuple #[.int .i64 (dv g), .int .i64 (de g)]) ∧ w' = w))
    (HO : Hid (∀ (g : ByteArray) (w : World), g.size ≤ 60 → Calls Tryd.prog 24 #[.string g] w fun e w' => e = .returned (.tuple #[.int .i64 (ov g), .int .i64 (oe g)]) ∧ w' = w))
    (y1 : (de g1 != 0) = false) (y2 : (de g2 != 0) = false) (y3 : (de g3 != 0) = false) (y4 : (oe g4 != 0) = false) (y5 : (de g5 != 0) = false) :
    Calls Tryd.prog 13 #[.string b, .int .i64 i] w fun e w' => e = .returned (.tuple #[.agg #[.int .i64 (dv g1), .int .i64 (dv g2), .int .i64 (dv g3), .int .i64 (ov g4), .string nm, .int .i64 (dv g5)], .int .i64 0]) ∧ Below w.heap.size w w' := by
  unfold maxLen at hm
  have b1 : decide (i < 0) = false := by simp; omega
  have b2 : decide ((b.size : Int) < i) = false := by simp; omega
  have b3 : decide ((b.size : Int) - i < 60) = false := by simp; omega
  go_enter Tryd.func13, Tryd.ntmps13
  go_wp2_with (first | (go_at_call 23; refine (HD.out _ _ (by assumption)).mono ?_; rintro e w1 ⟨rfl, hw1⟩; subst w1) | (go_at_call 24; refine (HO.out _ _ (by assumption)).mono ?_; rintro e w1 ⟨rfl, hw1⟩; subst w1) | (go_at_call 25; refine (H0.out _).mono ?_; rintro e w1 ⟨rfl, hw1⟩; subst w1))
  exact bodyPost_ret (results_cell_tmp_row rfl _ _ w.heap.size _ _ _ _ _ rfl rfl (heap_alloc_new _ _) Tryd.underlying25 rfl (by kernel_rfl)) rfl ⟨rfl, bup (Below.refl _ _) _⟩
end Go.Proofs.YtbkfkanknfdelaaDoor
