
-- The document's own runes: plain, asHex, one.
import Derived.Test.YtjpoifoejbabiabDoorF3
import Derived.Test.YtjpoifoejbabiabDoorConv
import Derived.BigRegion
import Derived.RegionTactic
import Derived.WalkSpells
namespace Go.Proofs.YtjpoifoejbabiabDoor
open Go.RowKit
set_option linter.unusedVariables false
set_option maxRecDepth 100000
theorem rplain_c (s : ByteArray) (k : Nat) (w : World) (hk : k < s.size) (hm : s.size ≤ 4194304) :
    Calls Tryd.prog 54 #[.string s, .int .i64 k, .int .i64 (runLen ((lsq s).drop k))] w fun e w' => e = .returned (.bool (plainL ((lsq s).drop k))) ∧ w' = w := by
  have hidx := idxq s k hk
  have hdr := dropq_cons s k hk
  obtain ⟨c, hc⟩ : ∃ c, c = s[k] := ⟨_, rfl⟩
  rw [← hc] at hidx hdr
  have hc9 := c.toNat_lt
  obtain ⟨cn, hcn⟩ : ∃ cn : Nat, cn = c.toNat := ⟨_, rfl⟩
  have hg0 : ((lsq s).drop k).getD 0 0 = c := by rw [hdr]; rfl
  have hpl : plainL ((lsq s).drop k) = match runLen ((lsq s).drop k) with
      | 0 => false
      | 1 => decide (33 ≤ cn) && decide (cn ≠ 34) && decide (cn ≠ 92) && decide (cn ≠ 127)
      | 2 => decide (cn ≠ 194) || decide (159 < (((lsq s).drop k).getD 1 0).toNat)
      | _ => true := by rw [hcn, ← hg0]; rfl
  have hrl := runLen_le ((lsq s).drop k)
  rw [List.length_drop, lsq_len] at hrl
  have h4 := wid_le4 ((lsq s).drop k)
  have h4' : runLen ((lsq s).drop k) ≤ 4 := by unfold wid at h4; omega
  rw [hpl]
  obtain ⟨r, hr⟩ : ∃ r, r = runLen ((lsq s).drop k) := ⟨_, rfl⟩
  rw [← hr] at hrl h4' ⊢
  rw [← hcn] at hidx hc9
  have hr4 : r = 0 ∨ r = 1 ∨ r = 2 ∨ r = 3 ∨ r = 4 := by omega
  clear hpl h4 h4' hcn hr hg0
  rcases hr4 with rfl | rfl | rfl | rfl | rfl
  · go_enter Tryd.func54, Tryd.ntmps54
    go_wp2
    go_ret
    exact ⟨rfl, rfl⟩
  · show Calls _ _ _ _ fun e w' => e = .returned (.bool (decide (33 ≤ cn) && decide (cn ≠ 34) && decide (cn ≠ 92) && decide (cn ≠ 127))) ∧ _
    clear hdr
    go_enter Tryd.func54, Tryd.ntmps54
    go_wp2
    all_goals
      go_ret
      refine ⟨retB ?_, rfl⟩
      rw [Bool.eq_iff_iff]
      (try simp only [Bool.and_eq_true, decide_eq_true_eq, bne_iff_ne, ne_eq])
      first | omega | (simp; omega)
  · have h1 : k + 1 < s.size := by omega
    have hi1 : ∀ w, (Instr.index 9 (.string s) (.int .i64 ((k : Int) + 1))).run Tryd.prog w = .ok (.int .u8 ((s[k + 1]'h1).toNat : Int)) w := by
      have := idxq s (k + 1) h1
      simpa using this
    have hg1 : ((lsq s).drop k).getD 1 0 = s[k + 1]'h1 := by
      rw [hdr, dropq_cons s (k + 1) h1]; rfl
    obtain ⟨d, hd⟩ : ∃ d, d = (((lsq s).drop k).getD 1 0).toNat := ⟨_, rfl⟩
    rw [← hg1, ← hd] at hi1
    show Calls _ _ _ _ fun e w' => e = .returned (.bool (decide (cn ≠ 194) || decide (159 < (((lsq s).drop k).getD 1 0).toNat))) ∧ _
    rw [← hd]
    clear hd hg1 hdr
    go_enter Tryd.func54, Tryd.ntmps54
    go_wp2
    all_goals
      go_ret
      refine ⟨retB ?_, rfl⟩
      rw [Bool.eq_iff_iff]
      (try simp only [Bool.or_eq_true, decide_eq_true_eq, ne_eq])
      first | omega | (simp; omega)
  · go_enter Tryd.func54, Tryd.ntmps54
    go_wp2
    go_ret
    exact ⟨rfl, rfl⟩
  · go_enter Tryd.func54, Tryd.ntmps54
    go_wp2
    go_ret
    exact ⟨rfl, rfl⟩
set_option maxHeartbeats 1000000 in
theorem asHex_c (s : ByteArray) (w : World) (hm : s.size ≤ 4194304) :
    Calls Tryd.prog 77 #[.string s] w fun e w' => e = .returned (.string (strB (hexs (lsq s)))) ∧ Below w.heap.size w w' := by
  go_enter Tryd.func77, Tryd.ntmps77
  go_wp2
  go_loopw [3, 4] (fun o i wx => ∃ k : Nat, i = .int .i64 k ∧ k ≤ s.size ∧ o = .string (strB (hexs ((lsq s).take k))) ∧ Below w.heap.size w wx) (fun _ i _ => s.size - (intOf i).toNat)
  case atStart => exact ⟨0, rfl, Nat.zero_le _, rfl, Below.refl _ _⟩
  case round =>
    obtain ⟨k, rfl, hks, rfl, hbw⟩ := hrel
    have hbs := hbw.size
    by_cases hk : k < s.size
    · have b1 : decide ((k : Int) < (s.size : Int)) = true := by simp; omega
      have hidx := idxq s k hk
      rw [at_lsq s k hk] at hidx
      have HT : Hid (hexs ((lsq s).take (k + 1)) = hexs ((lsq s).take k) ++ hexB ((lsq s).getD k 0)) := hexs_take _ _ (by rw [lsq_len]; exact hk)
      obtain ⟨c, hc⟩ : ∃ c, c = (lsq s).getD k 0 := ⟨_, rfl⟩
      rw [← hc] at hidx HT
      have hc9 := c.toNat_lt
      have h1 := hexT_at (c.toNat / 16) (by omega)
      have h2 := hexT_at (c.toNat % 16) (by omega)
      have q1 : ((c.toNat : Int)) / 16 = ((c.toNat / 16 : Nat) : Int) := by omega
      have q2 : ((c.toNat : Int)) % 16 = ((c.toNat % 16 : Nat) : Int) := by omega
      unfold hexT at h1 h2
      rw [← q1] at h1
      rw [← q2] at h2
      obtain ⟨n, hn⟩ : ∃ n : Nat, n = c.toNat := ⟨_, rfl⟩
      rw [← hn] at hidx h1 h2 hc9
      obtain ⟨d1, hd1⟩ : ∃ d, d = hexD (n / 16) := ⟨_, rfl⟩
      obtain ⟨d2, hd2⟩ : ∃ d, d = hexD (n % 16) := ⟨_, rfl⟩
      rw [← hd1] at h1
      rw [← hd2] at h2
      have HE : Hid (hexB c = [92, 120] ++ [d1, d2]) := by show _ = _; unfold hexB; rw [← hn, hd1, hd2]; rfl
      have hl : (strB (hexs ((lsq s).take k))).size ≤ 16777216 := by
        have : (strB (hexs ((lsq s).take k))).size = (hexs ((lsq s).take k)).length := by simp [strB, ByteArray.size]
        rw [this, hexs_length, List.length_take]; omega
      have HO : Hid (strB (hexs ((lsq s).take (k + 1))) = strB (hexs ((lsq s).take k)) ++ ⟨#[92, 120]⟩ ++ strB [d1, d2]) := by
        show _ = _
        rw [HT.out, HE.out]
        apply Go.WideShapes.bytes_inj
        simp [strB]
      have hcv : (convert 49 9 (.slice (some ⟨wr.heap.size, 0, none⟩) 2 2)).run Tryd.prog (wr.alloc (.cells #[.int .u8 d1.toNat, .int .u8 d2.toNat] 5)).drew = .ok (.string (strB [d1, d2])) (wr.alloc (.cells #[.int .u8 d1.toNat, .int .u8 d2.toNat] 5)).drew := conv_two wr.drew d1 d2
      obtain ⟨o, ho⟩ : ∃ o, o = strB (hexs ((lsq s).take k)) := ⟨_, rfl⟩
      rw [← ho] at hl HO ⊢
      have h2s : (strB [d1, d2]).size = 2 := rfl
      obtain ⟨t, ht⟩ : ∃ t, t = strB [d1, d2] := ⟨_, rfl⟩
      rw [← ht] at hcv HO h2s
      clear hn hd1 hd2 q1 q2 hc HT HE ho ht
      go_wp2_with fail
      go_region
      go_wp2
      go_roundw
      case rel => exact ⟨k + 1, by go_num, by omega, by rw [HO.out], by go_grown⟩
      case measure => simp [intOf]; omega
    · obtain rfl : k = s.size := by omega
      have b1 : decide ((s.size : Int) < (s.size : Int)) = false := by simp
      have HE : Hid ((lsq s).take s.size = lsq s) := List.take_of_length_le (by rw [lsq_len]; exact Nat.le_refl _)
      go_wp2
      go_ret
      exact ⟨by rw [HE.out]; rfl, hbw⟩
end Go.Proofs.YtjpoifoejbabiabDoor
