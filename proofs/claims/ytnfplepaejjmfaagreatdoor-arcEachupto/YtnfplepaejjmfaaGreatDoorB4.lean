
-- shelfref8.Inline: a contract.
import Derived.Test.YtnfplepaejjmfaaGreatDoorB3
namespace Go.Proofs.YtnfplepaejjmfaaGreatDoor
open Go.ChangeShapes Go.WideShapes Go.ChangeAt Go.RowKit
set_option linter.unusedVariables false
set_option maxRecDepth 100000

def zeroFrom (l : List UInt8) (k n : Nat) : Prop := ∀ (j : Nat) (b : UInt8), k ≤ j → j < n → l[j]? = some b → b = 0
theorem zeroFrom_next (s : ByteArray) (q n : Nat) (hq : q < s.size) (h : zeroFrom s.data.toList (q + 1) n) (hc : s[q].toNat = 0) : zeroFrom s.data.toList q n := by
  intro j b hj hn hb
  by_cases e : j = q
  · subst e
    rw [at_some s j hq] at hb
    injection hb with hb
    rw [← hb]; exact UInt8.toNat_inj.1 hc
  · exact h j b (by omega) hn hb
theorem trimZ_is (s : ByteArray) (k n : Nat) (hk : k ≤ n) (hn : n ≤ s.size) (h : zeroFrom s.data.toList k n) (h2 : ∀ hq : k - 1 < s.size, 0 < k → ¬ s[k - 1].toNat = 0) : trimZ (s.data.toList.take n) = s.data.toList.take k := by
  have hl : s.data.toList.length = s.size := by simp
  unfold trimZ
  rw [Lib.trimRightB_take (s.data.toList.take n) 0 k (by rw [List.length_take]; omega) (fun j b hj hb => ?_) (fun b h0 hb => ?_), List.take_take, Nat.min_eq_left hk]
  · have hjn : j < n := by have := (List.getElem?_eq_some_iff.1 hb).1; rw [List.length_take] at this; omega
    rw [List.getElem?_take_of_lt hjn] at hb
    exact h j b hj hjn hb
  · rw [List.getElem?_take_of_lt (by omega), at_some s (k - 1) (by omega)] at hb
    injection hb with hb
    intro hc
    exact h2 (by omega) h0 (by rw [hb, hc]; rfl)
theorem inline_hit (s : ByteArray) (n k : Nat) (hn : n ≤ s.size) (e : trimZ (s.data.toList.take n) = s.data.toList.take k) (b : Bool) (hb : validL (s.data.toList.take k) = b) :
    inlineL s.data.toList n = if b then (strL (s.data.toList.take k), strL (s.data.toList.drop n), 0) else (ByteArray.empty, ByteArray.empty, 80) := by
  have hl : s.data.toList.length = s.size := by simp
  unfold inlineL
  rw [if_neg (by omega), Int.toNat_natCast, e, hb]
theorem belowDN {B : Nat} {a w : World} (h : Below B a w) (n : Nat) : Below B a (w.drewN n) := ⟨h.os, h.tape, h.output, h.size, h.block⟩
set_option maxHeartbeats 1000000 in
theorem rinline_c (s : ByteArray) (n : Int) (w : World) (hm : s.size ≤ maxLen) :
    Calls Tryz.prog 96 #[.string s, .int .i64 n] w fun e w' => e = .returned (.tuple #[.string (inlineL s.data.toList n).1, .string (inlineL s.data.toList n).2.1, .int .i64 (inlineL s.data.toList n).2.2]) ∧ Below w.heap.size w w' := by
  have hl : s.data.toList.length = s.size := by simp
  have hm' : s.size ≤ maxLen := hm
  unfold maxLen at hm
  by_cases h0 : n < 0
  · have c0 : decide (n < 0) = true := by simp; omega
    have HV : Hid (inlineL s.data.toList n = (ByteArray.empty, ByteArray.empty, 80)) := by show inlineL s.data.toList n = _; unfold inlineL; rw [if_pos (Or.inl h0)]
    go_enter Tryz.func96, Tryz.ntmps96
    go_wp2
    go_ret3
    exact ⟨by rw [HV.out]; rfl, Below.refl _ _⟩
  have c0 : decide (n < 0) = false := by simp; omega
  obtain ⟨m, rfl⟩ := Int.eq_ofNat_of_zero_le (show 0 ≤ n by omega)
  by_cases h1 : s.size < m
  · have c1 : decide ((s.size : Int) < (m : Int)) = true := by simp; omega
    have HV : Hid (inlineL s.data.toList m = (ByteArray.empty, ByteArray.empty, 80)) := by show inlineL s.data.toList m = _; unfold inlineL; rw [if_pos (Or.inr (by omega))]
    go_enter Tryz.func96, Tryz.ntmps96
    go_wp2
    go_ret3
    exact ⟨by rw [HV.out]; rfl, Below.refl _ _⟩
  have c1 : decide ((s.size : Int) < (m : Int)) = false := by simp; omega
  have HM : Hid (s.size ≤ maxLen) := hm'
  clear hl hm'
  go_enter Tryz.func96, Tryz.ntmps96
  go_wp2
  go_loop [7] (fun i => ∃ k : Nat, k ≤ m ∧ i = .int .i64 k ∧ zeroFrom s.data.toList k m) (fun i => (intOf i).toNat)
  case atStart => exact ⟨m, Nat.le_refl _, rfl, fun j b h1 h2 => absurd h2 (by omega)⟩
  case round =>
    obtain ⟨k, hk, rfl, hd⟩ := hrel
    have HD : Hid (zeroFrom s.data.toList k m) := hd
    clear hd
    have hksz : k ≤ s.size := by omega
    have tail : Hid ((∀ hq : k - 1 < s.size, 0 < k → ¬ s[k - 1].toNat = 0) → ∃ bb : Bool, (inlineL s.data.toList m = if bb then (strL (s.data.toList.take k), strL (s.data.toList.drop m), 0) else (ByteArray.empty, ByteArray.empty, 80)) ∧ (∀ w, Calls Tryz.prog 113 #[.string (strL (s.data.toList.take k))] w fun e w' => e = .returned (.bool bb) ∧ w' = w)) := fun h2 => by
      have e := trimZ_is s k m hk (by omega) HD.out h2
      refine ⟨_, inline_hit s m k (by omega) e _ rfl, fun w => ?_⟩
      have h := rvalid_c (strL (s.data.toList.take k)) w (by have := HM.out; rw [strL_size, List.length_take]; unfold maxLen at *; simp; omega)
      rw [strL_data] at h; exact h
    have s2 := slice_at s m (by omega)
    by_cases h0 : k = 0
    · subst h0
      obtain ⟨bb, HL, HR⟩ := tail.out (fun _ h => absurd h (by omega))
      have s1 : ∀ w, (Instr.slice 9 (.string s) none (some (.int .i64 0)) none).run Tryz.prog w = .ok (.string (strL (s.data.toList.take 0))) w := slice_to s 0 hksz
      have HL' : Hid (inlineL s.data.toList m = if bb then (strL (s.data.toList.take 0), strL (s.data.toList.drop m), 0) else (ByteArray.empty, ByteArray.empty, 80)) := HL
      have HR' : Hid (∀ w, Calls Tryz.prog 113 #[.string (strL (s.data.toList.take 0))] w fun e w' => e = .returned (.bool bb) ∧ w' = w) := HR
      clear HL HR tail
      generalize strL (s.data.toList.take 0) = nm at s1 HL' HR'
      generalize strL (s.data.toList.drop m) = rest at s2 HL'
      cases bb
      · go_wp2_with (go_at_call 113; refine (HR'.out _).mono ?_; rintro e w1 ⟨rfl, hw1⟩; subst w1)
        go_ret3
        exact ⟨by rw [HL'.out]; rfl, Below.refl _ _⟩
      · go_wp2_with (go_at_call 113; refine (HR'.out _).mono ?_; rintro e w1 ⟨rfl, hw1⟩; subst w1)
        go_quiet (fail)
        go_wp2
        go_ret3
        exact ⟨by rw [HL'.out]; rfl, belowDN (Below.refl _ _) _⟩
    · obtain ⟨q, rfl⟩ : ∃ q, k = q + 1 := ⟨k - 1, by omega⟩
      have hi := idx s q (by omega)
      by_cases hc : s[q].toNat = 0
      · have d1 : ((s[q].toNat : Int) == 0) = true := by simp; omega
        have HN : Hid (zeroFrom s.data.toList q m) := zeroFrom_next s q m (by omega) HD.out hc
        clear hc tail
        go_wp2
        go_round
        case rel => exact ⟨q, by omega, by go_num, HN.out⟩
        case measure => simp [intOf]
      · have d1 : ((s[q].toNat : Int) == 0) = false := by simp; omega
        obtain ⟨bb, HL, HR⟩ := tail.out (fun _ _ => hc)
        have s1 : ∀ w, (Instr.slice 9 (.string s) none (some (.int .i64 ((q : Int) + 1))) none).run Tryz.prog w = .ok (.string (strL (s.data.toList.take (q + 1)))) w := slice_to s (q + 1) hksz
        clear hc
        have HL' : Hid (inlineL s.data.toList m = if bb then (strL (s.data.toList.take (q + 1)), strL (s.data.toList.drop m), 0) else (ByteArray.empty, ByteArray.empty, 80)) := HL
        have HR' : Hid (∀ w, Calls Tryz.prog 113 #[.string (strL (s.data.toList.take (q + 1)))] w fun e w' => e = .returned (.bool bb) ∧ w' = w) := HR
        clear HL HR tail
        generalize strL (s.data.toList.take (q + 1)) = nm at s1 HL' HR'
        generalize strL (s.data.toList.drop m) = rest at s2 HL'
        cases bb
        · go_wp2_with (go_at_call 113; refine (HR'.out _).mono ?_; rintro e w1 ⟨rfl, hw1⟩; subst w1)
          go_ret3
          exact ⟨by rw [HL'.out]; rfl, Below.refl _ _⟩
        · go_wp2_with (go_at_call 113; refine (HR'.out _).mono ?_; rintro e w1 ⟨rfl, hw1⟩; subst w1)
          go_quiet (fail)
          go_wp2
          go_ret3
          exact ⟨by rw [HL'.out]; rfl, belowDN (Below.refl _ _) _⟩
end Go.Proofs.YtnfplepaejjmfaaGreatDoor
