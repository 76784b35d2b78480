
-- shelfref8.Look, Inline: contracts.
import Derived.Test.YtnfplepaejjmfaaGreatDoorB1
import Derived.Deep.QuietTactic
import Derived.BigQuiet
namespace Go.Proofs.YtnfplepaejjmfaaGreatDoor
open Go.ChangeShapes Go.WideShapes Go.ChangeAt Go.RowKit
set_option linter.unusedVariables false
set_option maxRecDepth 100000

theorem slice_mid (s : ByteArray) (a b : Nat) (h : a ≤ b) (hb : b ≤ s.size) : ∀ w, (Instr.slice 9 (.string s) (some (.int .i64 (a : Int))) (some (.int .i64 (b : Int))) none).run Tryz.prog w = .ok (.string (strL ((s.data.toList.drop a).take (b - a)))) w := by
  intro w
  rw [run_slice_string w 9 s .i64 .i64 a b Tryz.underlying9 (by omega) (by omega) (by omega), Int.toNat_natCast, Int.toNat_natCast, Lib.extract_eq]; rfl
theorem slice_to (s : ByteArray) (k : Nat) (h : k ≤ s.size) : ∀ w, (Instr.slice 9 (.string s) none (some (.int .i64 (k : Int))) none).run Tryz.prog w = .ok (.string (strL (s.data.toList.take k))) w := by
  intro w
  rw [run_slice_string_to_if w 9 s .i64 k Tryz.underlying9, if_pos (by omega), Int.toNat_natCast, Lib.extract_upto]; rfl
theorem slice_at (s : ByteArray) (k : Nat) (h : k ≤ s.size) : ∀ w, (Instr.slice 9 (.string s) (some (.int .i64 (k : Int))) none none).run Tryz.prog w = .ok (.string (strL (s.data.toList.drop k))) w := by
  intro w
  rw [run_slice_string_from_if w 9 s .i64 _ Tryz.underlying9, if_pos (by omega), Int.toNat_natCast, Lib.extract_from]; rfl
def noSep (l : List UInt8) (a k : Nat) : Prop := ∀ j, a ≤ j → j < k → ¬ sepAt l j
theorem noSep_next (s : ByteArray) (a k : Nat) (h : k + 1 < s.size) (hd : noSep s.data.toList a k) (hc : ¬ (s[k].toNat = 47 ∧ s[k + 1].toNat = 10)) : noSep s.data.toList a (k + 1) := by
  intro j ha hj
  by_cases e : j = k
  · subst e
    rintro ⟨h1, h2⟩
    rw [at_some s j (by omega)] at h1
    rw [at_some s (j + 1) h] at h2
    injection h1 with h1
    injection h2 with h2
    exact hc ⟨by rw [h1]; rfl, by rw [h2]; rfl⟩
  · exact hd j ha (by omega)
theorem sep_here (s : ByteArray) (k : Nat) (h : k + 1 < s.size) (h1 : s[k].toNat = 47) (h2 : s[k + 1].toNat = 10) : sepAt s.data.toList k := by
  refine ⟨?_, ?_⟩
  · rw [at_some s k (by omega), show s[k] = 47 from UInt8.toNat_inj.1 h1]
  · rw [at_some s (k + 1) h, show s[k + 1] = 10 from UInt8.toNat_inj.1 h2]
theorem noSep_end (s : ByteArray) (a k : Nat) (h : ¬ k + 1 < s.size) (hd : noSep s.data.toList a k) : firstSep s.data.toList a = none := by
  have hl : s.data.toList.length = s.size := by simp
  refine firstSep_no _ _ (fun j ha hs => ?_)
  by_cases hj : j < k
  · exact hd j ha hj hs
  · have := (List.getElem?_eq_some_iff.1 hs.2).1
    omega
theorem look_hit (s : ByteArray) (a k : Nat) (ha : a ≤ k) (hk : a < s.size) (h : sepAt s.data.toList k) (hd : noSep s.data.toList a k) (b : Bool) (hb : validL ((s.data.toList.drop a).take (k - a)) = b) :
    lookL s.data.toList a = if b then (strL ((s.data.toList.drop a).take (k - a)), 0) else (ByteArray.empty, 80) := by
  have hl : s.data.toList.length = s.size := by simp
  unfold lookL
  rw [if_neg (by omega), Int.toNat_natCast, firstSep_at _ _ k ha h hd]
  show (if validL _ = true then _ else _) = _
  rw [hb]
theorem look_none (s : ByteArray) (a : Nat) (h : firstSep s.data.toList a = none) : lookL s.data.toList a = (ByteArray.empty, 81) := by
  unfold lookL
  split
  · rfl
  · rw [Int.toNat_natCast, h]
set_option maxHeartbeats 1000000 in
theorem rlook_c (s : ByteArray) (off : Int) (w : World) (hm : s.size ≤ maxLen) :
    Calls Tryz.prog 95 #[.string s, .int .i64 off] w fun e w' => e = .returned (.tuple #[.string (lookL s.data.toList off).1, .int .i64 (lookL s.data.toList off).2]) ∧ w' = w := by
  have hl : s.data.toList.length = s.size := by simp
  have hm' : s.size ≤ maxLen := hm
  unfold maxLen at hm
  by_cases h0 : off < 0
  · have c0 : decide (off < 0) = true := by simp; omega
    have HV : Hid (lookL s.data.toList off = (ByteArray.empty, 81)) := by show lookL s.data.toList off = _; unfold lookL; rw [if_pos (Or.inl h0)]
    go_enter Tryz.func95, Tryz.ntmps95
    go_wp2
    go_ret2
    exact ⟨by rw [HV.out]; rfl, rfl⟩
  have c0 : decide (off < 0) = false := by simp; omega
  obtain ⟨a, rfl⟩ := Int.eq_ofNat_of_zero_le (show 0 ≤ off by omega)
  by_cases h1 : s.size ≤ a
  · have c1 : decide ((s.size : Int) ≤ (a : Int)) = true := by simp; omega
    have HV : Hid (lookL s.data.toList a = (ByteArray.empty, 81)) := by show lookL s.data.toList a = _; unfold lookL; rw [if_pos (Or.inr (by omega))]
    go_enter Tryz.func95, Tryz.ntmps95
    go_wp2
    go_ret2
    exact ⟨by rw [HV.out]; rfl, rfl⟩
  have c1 : decide ((s.size : Int) ≤ (a : Int)) = false := by simp; omega
  have HM : Hid (s.size ≤ maxLen) := hm'
  clear hl hm'
  go_enter Tryz.func95, Tryz.ntmps95
  go_wp2
  go_loop [6] (fun i => ∃ k : Nat, a ≤ k ∧ k < s.size ∧ i = .int .i64 k ∧ noSep s.data.toList a k) (fun i => s.size - (intOf i).toNat)
  case atStart => exact ⟨a, Nat.le_refl _, by omega, rfl, fun j h1 h2 => absurd h2 (by omega)⟩
  case round =>
    obtain ⟨k, hak, hk, rfl, hd⟩ := hrel
    have HD : Hid (noSep s.data.toList a k) := hd
    clear hd
    by_cases hlt : k + 1 < s.size
    · have hi1 := idx s k hk
      have hi2 : ∀ w, (Instr.index 9 (.string s) (.int .i64 ((k : Int) + 1))).run Tryz.prog w = .ok (.int .u8 (s[k + 1].toNat : Int)) w := fun w => by
        have h := idx s (k + 1) hlt w
        rw [Int.natCast_add] at h; exact h
      have HX : Hid (¬ (s[k].toNat = 47 ∧ s[k + 1].toNat = 10) → noSep s.data.toList a (k + 1)) := fun hc => noSep_next s a k hlt HD.out hc
      by_cases e1 : s[k].toNat = 47
      · have d1 : ((s[k].toNat : Int) == 47) = true := by simp; omega
        by_cases e2 : s[k + 1].toNat = 10
        · have d2 : ((s[k + 1].toNat : Int) == 10) = true := by simp; omega
          have hsl := slice_mid s a k hak (by omega)
          have HL := look_hit s a k hak (by omega) (sep_here s k hlt e1 e2) HD.out
          have HR := fun w => rvalid_c (strL ((s.data.toList.drop a).take (k - a))) w (by have := HM.out; rw [strL_size, List.length_take, List.length_drop]; unfold maxLen at *; simp; omega)
          rw [strL_data] at HR
          generalize validL ((s.data.toList.drop a).take (k - a)) = bb at HL HR
          have HL' : Hid (lookL s.data.toList a = if bb then (strL ((s.data.toList.drop a).take (k - a)), 0) else (ByteArray.empty, 80)) := HL bb rfl
          have HR' : Hid (∀ w, Calls Tryz.prog 113 #[.string (strL ((s.data.toList.drop a).take (k - a)))] w fun e w' => e = .returned (.bool bb) ∧ w' = w) := HR
          generalize strL ((s.data.toList.drop a).take (k - a)) = nm at hsl HL' HR'
          clear HL HR e1 e2
          cases bb
          · go_wp2_with (go_at_call 113; refine (HR'.out _).mono ?_; rintro e w1 ⟨rfl, hw1⟩; subst w1)
            go_ret2
            exact ⟨by rw [HL'.out]; rfl, rfl⟩
          · go_wp2_with (go_at_call 113; refine (HR'.out _).mono ?_; rintro e w1 ⟨rfl, hw1⟩; subst w1)
            go_ret2
            exact ⟨by rw [HL'.out]; rfl, rfl⟩
        · have d2 : ((s[k + 1].toNat : Int) == 10) = false := by simp; omega
          have HN := HX.out (fun h => e2 h.2)
          have HN' : Hid (noSep s.data.toList a (k + 1)) := HN
          clear HN e1 e2
          go_wp2
          go_round
          case rel => exact ⟨k + 1, by omega, hlt, by go_num, HN'.out⟩
          case measure => simp [intOf]; omega
      · have d1 : ((s[k].toNat : Int) == 47) = false := by simp; omega
        have HN' : Hid (noSep s.data.toList a (k + 1)) := HX.out (fun h => e1 h.1)
        clear e1
        go_wp2
        go_round
        case rel => exact ⟨k + 1, by omega, hlt, by go_num, HN'.out⟩
        case measure => simp [intOf]; omega
    · have HV : Hid (lookL s.data.toList a = (ByteArray.empty, 81)) := look_none s a (noSep_end s a k hlt HD.out)
      go_wp2
      go_ret2
      exact ⟨by rw [HV.out]; rfl, rfl⟩
end Go.Proofs.YtnfplepaejjmfaaGreatDoor
