
-- shelflaw8.told, zeros, valid; strconv.Itoa.
import Derived.Test.YtmppfpkcnhcfbabDoorG0
import Derived.Test.YtmppfpkcnhcfbabDoorD4
import Derived.Test.YtmppfpkcnhcfbabDoorQ3
import Derived.Test.YtmppfpkcnhcfbabDoorRPut
import Derived.Test.YtmppfpkcnhcfbabDoorB3
namespace Go.Proofs.YtmppfpkcnhcfbabDoor
open Go.ChangeShapes Go.WideShapes Go.ChangeAt Go.RowKit
set_option linter.unusedVariables false
set_option maxRecDepth 100000

theorem itoa_c (v : Nat) (w : World) (hv : v ≤ 9223372036854775807) (hT : Tabs w) :
    Calls Tryd.prog 14 #[.int .i64 v] w fun e w' => e = .returned (.string (strL (dg 10 v))) ∧ Below w.heap.size w w' := by
  refine (Tryd.strconv_Itoa v (by omega) (by omega) w hT.t10).mono fun e w' ⟨he, k, os, hw⟩ => ?_
  refine ⟨?_, by rw [hw]; exact below_grown w k os⟩
  rw [he, ← dec_dg v (big64 10 v (by omega) hv)]
  unfold Lib.itoa
  rw [if_neg (by omega), Int.toNat_natCast]; rfl
theorem num_c (n : Int) (w : World) : Calls Tryd.prog 10 #[.int .i64 n] w fun e w' => e = .returned (.int .i64 n) ∧ w' = w := by
  go_enter Tryd.func10, Tryd.ntmps10
  go_wp2
  go_ret
  exact ⟨rfl, rfl⟩
def clamp16 (n : Int) : Nat := if n < 0 then 0 else if 16 < n then 16 else n.toNat
theorem zeros_c (n : Int) (w : World) : Calls Tryd.prog 13 #[.int .i64 n] w fun e w' => e = .returned (.string (strL (List.replicate (clamp16 n) 48))) ∧ w' = w := by
  have hall : ∀ k : Nat, k ≤ 16 → ∀ w, (Instr.slice 9 (.string ⟨#[48, 48, 48, 48, 48, 48, 48, 48, 48, 48, 48, 48, 48, 48, 48, 48]⟩) none (some (.int .i64 (k : Int))) none).run Tryd.prog w = .ok (.string (strL (List.replicate k 48))) w := by
    intro k hk w
    have := slice_to ⟨#[48, 48, 48, 48, 48, 48, 48, 48, 48, 48, 48, 48, 48, 48, 48, 48]⟩ k hk w
    rw [this]
    congr 3
    show List.take k (List.replicate 16 48) = _
    rw [List.take_replicate, Nat.min_eq_left hk]
  unfold clamp16
  by_cases h0 : n < 0
  · rw [if_pos h0]
    have h := hall 0 (by omega)
    go_enter Tryd.func13, Tryd.ntmps13
    go_wp2
    go_ret
    exact ⟨rfl, rfl⟩
  rw [if_neg h0]
  by_cases h1 : 16 < n
  · rw [if_pos h1]
    have h := hall 16 (by omega)
    go_enter Tryd.func13, Tryd.ntmps13
    go_wp2
    go_ret
    exact ⟨rfl, rfl⟩
  · rw [if_neg h1]
    obtain ⟨k, rfl⟩ := Int.eq_ofNat_of_zero_le (show 0 ≤ n by omega)
    have h := hall k (by omega)
    rw [Int.toNat_natCast]
    clear hall
    generalize strL (List.replicate k 48) = g at *
    go_enter Tryd.func13, Tryd.ntmps13
    go_wp2
    go_ret
    exact ⟨rfl, rfl⟩
theorem told_c (s : ByteArray) (so v : Int) (n : ByteArray) (w : World) (hs : s.size ≤ maxLen) (ht : Told s.data.toList so v n) :
    Calls Tryd.prog 12 #[.string s, .int .i64 so, .int .i64 v, .string n] w fun e w' => e = .returned (.bool true) ∧ Below w.heap.size w w' := by
  have hl : s.data.toList.length = s.size := by simp
  have H := fun w => pread_c s w hs
  unfold Told at ht
  rw [ht] at H
  have HN : Hid (∀ n w, Calls Tryd.prog 10 #[.int .i64 n] w fun e w' => e = .returned (.int .i64 n) ∧ w' = w) := fun n w => num_c n w
  by_cases h16 : 16 < s.size
  · rw [if_pos (by omega)] at H
    have HR : Hid (∀ w, Calls Tryd.prog 34 #[.string s] w fun e w' => e = .returned (.tuple #[.agg #[.int .i64 0, .int .i64 0, .string ⟨#[]⟩], .int .i64 80]) ∧ Below w.heap.size w w') := H
    have c16 : decide ((16 : Int) < (s.size : Int)) = true := decide_eq_true (by omega)
    have c17 : (16 : Int) < (s.size : Int) := by omega
    clear H ht hs hl h16
    go_enter Tryd.func12, Tryd.ntmps12
    go_wp2_with (first | (go_at_call 34; refine (HR.out _).mono ?_; rintro e w1 ⟨rfl, hb1⟩) | (go_at_call 10; refine (HN.out _ _).mono ?_; rintro e w2 ⟨rfl, hw2⟩; subst w2))
    go_ret
    exact ⟨rfl, bup hb1 _⟩
  · rw [if_neg (by omega)] at H
    have HR : Hid (∀ w, Calls Tryd.prog 34 #[.string s] w fun e w' => e = .returned (.tuple #[.agg #[.int .i64 so, .int .i64 v, .string n], .int .i64 0]) ∧ Below w.heap.size w w') := H
    have c16 : decide ((16 : Int) < (s.size : Int)) = false := decide_eq_false (by omega)
    have c17 : ¬ (16 : Int) < (s.size : Int) := by omega
    clear H ht hs hl h16
    go_enter Tryd.func12, Tryd.ntmps12
    go_wp2_with (first | (go_at_call 34; refine (HR.out _).mono ?_; rintro e w1 ⟨rfl, hb1⟩) | (go_at_call 10; refine (HN.out _ _).mono ?_; rintro e w2 ⟨rfl, hw2⟩; subst w2))
    go_ret
    exact ⟨by simp, bup hb1 _⟩
end Go.Proofs.YtmppfpkcnhcfbabDoor
