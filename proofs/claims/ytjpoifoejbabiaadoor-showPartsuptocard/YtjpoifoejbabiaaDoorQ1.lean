
import Derived.Test.YtjpoifoejbabiaaDoorB1
import Derived.Test.YtjpoifoejbabiaaDoorWords
import Derived.ProofKit
import Derived.WalkLawsBesides
import Derived.Lib.IndexBytes
import Derived.Lib.OthersKept
import Derived.BigQuiet
import Derived.Deep.RegionWith
namespace Go.Proofs.YtjpoifoejbabiaaDoor
open Go.RowKit
set_option linter.unusedVariables false
set_option maxRecDepth 100000
theorem idxq (s : ByteArray) (k : Nat) (h : k < s.size) : ∀ w, (Instr.index 9 (.string s) (.int .i64 (k : Int))).run Tryd.prog w = .ok (.int .u8 (s[k].toNat : Int)) w := by
  intro w
  rw [run_index_string w 9 s .i64 k Tryd.underlying9, dif_pos (by omega)]
  simp
def lsq (s : ByteArray) : List UInt8 := s.data.toList
theorem lsq_len (s : ByteArray) : (lsq s).length = s.size := by simp [lsq]
theorem valL_le (l : List UInt8) (hl : l ≠ []) : valL l ≤ 1114111 := by
  unfold valL
  rcases runOf l hl with ⟨h, d, p⟩ | ⟨c, r, e, k, h, d⟩ | ⟨c, c1, r, e, a0, b0, a1, b1, h, d⟩ | ⟨c, c1, c2, r, e, a0, b0, a1, b1, a2, b2, x, y, h, d⟩ | ⟨c, c1, c2, c3, r, e, a0, b0, a1, b1, a2, b2, a3, b3, x, y, h, d⟩
  · rw [d]; decide
  · rw [d]; show c.toNat ≤ _; omega
  · rw [d]; show _ ≤ _; omega
  · rw [d]; show _ ≤ _; omega
  · rw [d]; show _ ≤ _; omega
theorem stray_c (t : ByteArray) (r : Nat) (hr : r = valL (lsq t)) (h9 : r ≤ 1114111) (w : World) :
    Calls Tryd.prog 34 #[.string t, .int .i32 r] w fun e w' => e = .returned (.bool (strayL (lsq t))) ∧ w' = w := by
  have hp : Lib.hasPrefix (lsq t) [239, 191, 189] = decide ([239, 191, 189] <+: lsq t) := by
    unfold Lib.hasPrefix
    by_cases h : [239, 191, 189] <+: lsq t
    · rw [decide_eq_true h]; exact List.isPrefixOf_iff_prefix.2 h
    · rw [decide_eq_false h]
      cases e : List.isPrefixOf [239, 191, 189] (lsq t)
      · rfl
      · exact absurd (List.isPrefixOf_iff_prefix.1 e) h
  have hs : strayL (lsq t) = (decide (r = 65533) && !(decide ([239, 191, 189] <+: lsq t))) := by unfold strayL; rw [hr]
  rw [← hp] at hs
  obtain ⟨b, hb⟩ : ∃ b, b = Lib.hasPrefix (lsq t) [239, 191, 189] := ⟨_, rfl⟩
  have HP : Hid (∀ w, Calls Tryd.prog 45 #[.string t, .string ⟨#[239, 191, 189]⟩] w fun e w' => e = .returned (.bool b) ∧ w' = w) := fun w => by rw [hb]; exact Tryd.strings_HasPrefix t ⟨#[239, 191, 189]⟩ w
  rw [← hb] at hs
  rw [hs]
  clear hp hs hb hr
  by_cases h : r = 65533
  · subst h
    go_enter Tryd.func34, Tryd.ntmps34
    go_wp2_with (go_at_call 45; refine (HP.out _).mono ?_; rintro e w1 ⟨rfl, hw1⟩; subst w1)
    go_ret
    exact ⟨by simp, rfl⟩
  · have n1 : ((r : Int) == 65533) = false := by simp; omega
    go_enter Tryd.func34, Tryd.ntmps34
    go_wp2
    go_ret
    exact ⟨by simp [h], rfl⟩
theorem retB {a b : Bool} (h : a = b) : Ending.returned (.bool a) = .returned (.bool b) := by rw [h]
theorem plain_c (t : ByteArray) (r : Nat) (hr : r = valL (lsq t)) (h9 : r ≤ 1114111) (w : World) :
    Calls Tryd.prog 33 #[.string t, .int .i32 r] w fun e w' => e = .returned (.bool (plainV (lsq t))) ∧ w' = w := by
  obtain ⟨b, hb⟩ : ∃ b, b = strayL (lsq t) := ⟨_, rfl⟩
  have HP : Hid (∀ w, Calls Tryd.prog 34 #[.string t, .int .i32 r] w fun e w' => e = .returned (.bool b) ∧ w' = w) := fun w => by rw [hb]; exact stray_c t r hr h9 w
  have hs : plainV (lsq t) = (if b = true ∨ r = 34 ∨ r = 92 then false else (decide (32 < r) && decide (r < 127)) || decide (159 < r)) := by unfold plainV; rw [hb, hr]
  have HS : Hid (plainV (lsq t) = (if b = true ∨ r = 34 ∨ r = 92 then false else (decide (32 < r) && decide (r < 127)) || decide (159 < r))) := hs
  clear hs hb hr
  rcases b with _ | _
  · go_enter Tryd.func33, Tryd.ntmps33
    go_wp2_with (go_at_call 34; refine (HP.out _).mono ?_; rintro e w1 ⟨rfl, hw1⟩; subst w1)
    all_goals
      go_ret
      refine ⟨?_, rfl⟩
      rw [HS.out]
      simp only [Bool.false_eq_true, false_or]
      clear HS HP
      refine retB ?_
      (try simp only [beq_eq_false_iff_ne, beq_iff_eq, ne_eq] at *)
      by_cases hh : r = 34 ∨ r = 92
      · first | (exfalso; omega; done) | (rw [if_pos hh]; done) | (rw [if_pos hh]; rfl)
      · rw [if_neg hh, Bool.eq_iff_iff]
        (try simp only [Bool.or_eq_true, Bool.and_eq_true, decide_eq_true_eq])
        first | omega | (simp; omega)
  · go_enter Tryd.func33, Tryd.ntmps33
    go_wp2_with (go_at_call 34; refine (HP.out _).mono ?_; rintro e w1 ⟨rfl, hw1⟩; subst w1)
    go_ret
    exact ⟨by rw [HS.out]; simp, rfl⟩
end Go.Proofs.YtjpoifoejbabiaaDoor
