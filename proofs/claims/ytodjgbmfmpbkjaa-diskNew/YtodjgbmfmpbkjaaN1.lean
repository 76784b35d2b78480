-- A new volume (the statement's walk).
import Derived.Test.YtodjgbmfmpbkjaaG2
namespace Go.Proofs.Ytodjgbmfmpbkjaa
open Go.RowKit
set_option linter.unusedVariables false
variable {PS : (Nat → Prop) → Nat → St → World → Prop}
theorem new_read (c : Nat) (n : Int) : (St.new c).read n = (⟨#[]⟩, 34) := rfl
theorem new_append (c : Nat) (n : Int) (d : ByteArray) : (St.new c).append n d = (34, St.new c) := rfl
theorem new_find (c : Nat) : (St.new c).find ⟨#[97]⟩ = ((⟨#[]⟩, noBd), (0, 30)) := by
  unfold St.find
  rw [if_neg (by decide), if_pos (show leads (St.new c).now _ = 0 from rfl)]
theorem refNewN_no (c : Int) (w : World) (h : c < 0 ∨ 1073741824 < c) : Calls Try.prog 10 #[.int .i64 c] w fun e w' => e = .returned (.pointer none) ∧ w' = w := by
  by_cases h0 : c < 0
  · have b1 : decide (c < 0) = true := by simp [h0]
    go_enter Try.func10, Try.ntmps10
    go_wp2
    go_ret
    exact ⟨rfl, rfl⟩
  · have b1 : decide (c < 0) = false := by simp [h0]
    have b2 : decide (1073741824 < c) = true := by simp; omega
    go_enter Try.func10, Try.ntmps10
    go_wp2
    go_ret
    exact ⟨rfl, rfl⟩
theorem refNewN_c (c : Nat) (w : World) (h : c ≤ 1073741824) : Calls Try.prog 10 #[.int .i64 c] w fun e w' => (∃ p, e = .returned (.pointer (some p))) ∧ Below w.heap.size w w' := by
  have b1 : decide ((c : Int) < 0) = false := by simp
  have b2 : decide (1073741824 < (c : Int)) = false := by simp; omega
  go_enter Try.func10, Try.ntmps10
  go_wp2
  go_ret
  exact ⟨⟨_, rfl⟩, ((Below.refl _ w).alloc (Nat.le_refl _) _).alloc (by simp) _⟩
set_option maxHeartbeats 4000000 in
theorem diskNew_w (C : PC PS) (c : Int) (w : World) : Calls Try.prog 3 #[.int .i64 c] w fun e w' => e = .returned (.bool true) ∧ Below w.heap.size w w' := by
  by_cases hc : c < 0 ∨ 1073741824 < c
  · have HD : Hid (∀ w, Calls Try.prog 9 #[.int .i64 c] w fun e w' => e = .returned (.pointer none) ∧ Below w.heap.size w w') := fun w => C.new_no c w hc
    have HR : Hid (∀ w, Calls Try.prog 10 #[.int .i64 c] w fun e w' => e = .returned (.pointer none) ∧ w' = w) := fun w => refNewN_no c w hc
    clear hc
    go_enter Try.func3, Try.ntmps3
    go_wp2_with (first
      | (go_at_call 9; refine (HD.out _).mono ?_; rintro e w1 ⟨rfl, hb1⟩)
      | (go_at_call 10; refine (HR.out _).mono ?_; rintro e w2 ⟨rfl, hw2⟩; subst w2))
    go_ret
    exact ⟨rfl, hb1⟩
  · obtain ⟨cn, rfl⟩ := Int.eq_ofNat_of_zero_le (show 0 ≤ c by omega)
    have hcn : cn ≤ 1073741824 := by omega
    have hwf := new_wf cn hcn
    have HD : Hid (Calls Try.prog 9 #[.int .i64 (cn : Int)] w fun e w' => ∃ F p, e = .returned (.pointer (some ⟨p, 0, none⟩)) ∧ One PS w.heap.size F p (St.new cn) w' ∧ Below w.heap.size w w') := (C.new_c cn w hcn).mono (by
      rintro e w' ⟨p, rfl, h1, h2⟩
      exact ⟨_, p, rfl, ⟨h1, fun k hk => hk⟩, h2⟩)
    have HR : Hid (∀ w, Calls Try.prog 10 #[.int .i64 (cn : Int)] w fun e w' => (∃ p, e = .returned (.pointer (some p))) ∧ Below w.heap.size w w') := fun w => refNewN_c cn w hcn
    have HRD : Hid (∀ F p wx, One PS w.heap.size F p (St.new cn) wx → w.heap.size ≤ wx.heap.size → Calls Try.prog 11 #[.pointer (some ⟨p, 0, none⟩), .int .i64 1] wx fun e w' => e = .returned (.tuple #[.string ⟨#[]⟩, .int .i64 34]) ∧ One PS w.heap.size F p (St.new cn) w' ∧ Below w.heap.size wx w') := fun F p wx t hB => (C.read F p (St.new cn) 1 wx t.d hwf).mono (by
      rintro e w' ⟨rfl, hq⟩; exact ⟨rfl, t.ask hB hq⟩)
    have HFI : Hid (∀ F p wx, One PS w.heap.size F p (St.new cn) wx → w.heap.size ≤ wx.heap.size → Calls Try.prog 12 #[.pointer (some ⟨p, 0, none⟩), .string ⟨#[97]⟩] wx fun e w' => e = .returned (.tuple #[.agg #[.int .i64 0, .int .i64 0, .int .i64 0, .int .i64 0, .string ⟨#[]⟩, .int .i64 0], .int .i64 0, .int .i64 30]) ∧ One PS w.heap.size F p (St.new cn) w' ∧ Below w.heap.size wx w') := fun F p wx t hB => (C.find F p (St.new cn) ⟨#[97]⟩ wx t.d hwf).mono (by
      rintro e w' ⟨rfl, hq⟩
      rw [new_find]; exact ⟨rfl, t.ask hB hq⟩)
    have HAP : Hid (∀ F p wx, One PS w.heap.size F p (St.new cn) wx → w.heap.size ≤ wx.heap.size → Calls Try.prog 13 #[.pointer (some ⟨p, 0, none⟩), .int .i64 1, .string ⟨#[120]⟩] wx fun e w' => e = .returned (.int .i64 34) ∧ One PS w.heap.size (ext F wx w') p (St.new cn) w' ∧ Below w.heap.size wx w') := fun F p wx t hB => (C.append F p (St.new cn) 1 ⟨#[120]⟩ wx t.d hwf (by decide)).mono (by
      rintro e w' ⟨rfl, hq⟩; exact ⟨rfl, t.did hB hq⟩)
    have HNM : Hid (∀ F p wx, One PS w.heap.size F p (St.new cn) wx → w.heap.size ≤ wx.heap.size → Calls Try.prog 15 #[.pointer (some ⟨p, 0, none⟩)] wx fun e w' => (∃ ao cp, e = .returned (.slice ao 0 cp)) ∧ One PS w.heap.size F p (St.new cn) w' ∧ Below w.heap.size wx w') := fun F p wx t hB => (C.names F p (St.new cn) wx t.d hwf).mono (by
      rintro e w' ⟨⟨v, rfl, ho⟩, hq⟩
      obtain ⟨ao, cp, rfl⟩ := own_shape ho
      exact ⟨⟨ao, cp, rfl⟩, t.ask hB hq⟩)
    have HUS : Hid (∀ F p wx, One PS w.heap.size F p (St.new cn) wx → w.heap.size ≤ wx.heap.size → Calls Try.prog 16 #[.pointer (some ⟨p, 0, none⟩)] wx fun e w' => e = .returned (.int .i64 0) ∧ One PS w.heap.size F p (St.new cn) w' ∧ Below w.heap.size wx w') := fun F p wx t hB => (C.used F p (St.new cn) wx t.d hwf).mono (by
      rintro e w' ⟨rfl, hq⟩; exact ⟨rfl, t.ask hB hq⟩)
    have HPE : Hid (∀ F p wx, One PS w.heap.size F p (St.new cn) wx → w.heap.size ≤ wx.heap.size → Calls Try.prog 17 #[.pointer (some ⟨p, 0, none⟩)] wx fun e w' => e = .returned (.int .i64 0) ∧ One PS w.heap.size F p (St.new cn) w' ∧ Below w.heap.size wx w') := fun F p wx t hB => (C.pending F p (St.new cn) wx t.d hwf).mono (by
      rintro e w' ⟨rfl, hq⟩; exact ⟨rfl, t.ask hB hq⟩)
    have HNU : Hid (∀ (n : Int) w, Calls Try.prog 14 #[.int .i64 n] w fun e w' => e = .returned (.int .i64 n) ∧ w' = w) := fun n w => num_c n w
    clear hc hwf hcn
    go_enter Try.func3, Try.ntmps3
    go_wp2_with (first
      | (go_at_call 9; refine HD.out.mono ?_; rintro e w1 ⟨F, p, rfl, t1, hb1⟩; have s1 := hb1.size)
      | (go_at_call 10; refine (HR.out _).mono ?_; rintro e w2 ⟨⟨pr, rfl⟩, bb2⟩; have s2 := bb2.size; have t2 := t1.below C bb2; have hb2 := hb1.trans (bb2.mono s1))
      | (go_at_call 11; refine (HRD.out _ _ _ t2 (by omega)).mono ?_; rintro e w3 ⟨rfl, t3, bb3⟩; have s3 := bb3.size)
      | (go_at_call 12; refine (HFI.out _ _ _ t3 (by omega)).mono ?_; rintro e w4 ⟨rfl, t4, bb4⟩; have s4 := bb4.size)
      | (go_at_call 13; refine (HAP.out _ _ _ (t4.below C ((Below.refl _ w4).alloc (Nat.le_refl _) _)) (by simp; omega)).mono ?_; rintro e w5 ⟨rfl, t5, bb5⟩; have s5 : w4.heap.size + 1 ≤ w5.heap.size := (by have := bb5.size; simpa using this))
      | (go_at_call 15; refine (HNM.out _ _ _ t5 (by omega)).mono ?_; rintro e w6 ⟨⟨ao, cp, rfl⟩, t6, bb6⟩; have s6 := bb6.size)
      | (go_at_call 16; refine (HUS.out _ _ _ t6 (by omega)).mono ?_; rintro e w7 ⟨rfl, t7, bb7⟩; have s7 := bb7.size)
      | (go_at_call 17; refine (HPE.out _ _ _ t7 (by omega)).mono ?_; rintro e w8 ⟨rfl, t8, bb8⟩)
      | (go_at_call 14; refine (HNU.out _ _).mono ?_; rintro e w9 ⟨rfl, hw9⟩; subst w9))
    go_ret
    exact ⟨rfl, ((((((hb2.trans bb3).trans bb4).alloc (by omega) _).trans bb5).trans bb6).trans bb7).trans bb8⟩
end Go.Proofs.Ytodjgbmfmpbkjaa
