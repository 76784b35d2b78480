-- DiskTorn's walk.
import Derived.Test.YtodjgbmfmpbkjaaP5
namespace Go.Proofs.Ytodjgbmfmpbkjaa
open Go.RowKit
set_option linter.unusedVariables false
variable {PS : (Nat → Prop) → Nat → St → World → Prop}
theorem within_c (n lo hi : Int) (w : World) : Calls Try.prog 28 #[.int .i64 n, .int .i64 lo, .int .i64 hi] w fun e w' => e = .returned (.int .i64 (within n lo hi)) ∧ w' = w := by
  unfold within
  by_cases h1 : n < lo
  · have b1 : decide (n < lo) = true := by simp [h1]
    rw [if_pos h1]
    go_enter Try.func28, Try.ntmps28
    go_wp2
    go_ret
    exact ⟨rfl, rfl⟩
  · have b1 : decide (n < lo) = false := by simp [h1]
    rw [if_neg h1]
    by_cases h2 : hi < n
    · have b2 : decide (hi < n) = true := by simp [h2]
      rw [if_pos h2]
      go_enter Try.func28, Try.ntmps28
      go_wp2
      go_ret
      exact ⟨rfl, rfl⟩
    · have b2 : decide (hi < n) = false := by simp [h2]
      rw [if_neg h2]
      go_enter Try.func28, Try.ntmps28
      go_wp2
      go_ret
      exact ⟨rfl, rfl⟩
theorem rep_wf (c : Nat) (name old temp fresh : ByteArray) (m : Int) (hs : c = old.size + fresh.size) (hc : c ≤ 1073741824) (h : name ≠ temp) (h1 : okName name = true) (h2 : okName temp = true) : Wf (St.rep1 c name old temp m) ∧ Wf (St.rep2 c name old temp fresh m) ∧ Wf (St.rep4 c name old temp fresh m 0) := by
  subst hs
  have w0 := (set_wf (old.size + fresh.size) name old hc h1 (by omega)).2.2.2
  have w1 := (create_fine w0 temp m 0 0 0 (by simp [St.set4]) (by simp [St.set4])).wf
  rw [rep_1 _ name old temp m h h2] at w1
  have w2 := (append_fine w1 2 fresh).wf
  rw [rep_2 name old temp fresh m h] at w2
  have w3 := (rename_fine w2 temp name (by simp [St.rep2])).wf
  rw [rep_4 _ name old temp fresh m 0 (St.rep2 _ name old temp fresh m) rfl h h1 h2] at w3
  exact ⟨w1, w2, w3⟩
theorem torn_DW (c : Nat) (name old temp fresh : ByteArray) (m keep : Int) (hok : okName name = true) : DW (St.torn c name old temp fresh m keep) := by
  intro d hd
  have e : (St.torn c name old temp fresh m keep).dirs = [[(name, 2)]] := rfl
  rw [e] at hd
  simp at hd
  subst hd
  exact ⟨by simp, by simp, by simp [hok]⟩
set_option maxRecDepth 100000 in
set_option maxHeartbeats 8000000 in
theorem diskTorn_w (C : PC PS) (name temp old fresh : ByteArray) (keep : Int) (w : World) (ho : old.size ≤ 1048576) (hfr : fresh.size ≤ 1048576) :
    Calls Try.prog 6 #[.string name, .string temp, .string old, .string fresh, .int .i64 keep] w fun e w' => e = .returned (.bool true) ∧ Below w.heap.size w w' := by
  have HP := pair_c name temp
  by_cases hp : (okName name && (okName temp && !(decide (name = temp)))) = true
  · rw [hp] at HP
    have HPP : Hid (∀ w, Calls Try.prog 20 #[.string name, .string temp] w fun e w' => e = .returned (.bool true) ∧ w' = w) := HP
    simp only [Bool.and_eq_true, Bool.not_eq_true', decide_eq_false_iff_not] at hp
    obtain ⟨h1, h2, h3⟩ := hp
    obtain ⟨c, hc⟩ : ∃ c, c = old.size + fresh.size := ⟨_, rfl⟩
    have hsum : ((old.size : Int) + (fresh.size : Int)) = (c : Int) := by omega
    have hcl : c ≤ 1073741824 := by omega
    have b1 : decide ((1073741824 : Int) < (old.size : Int) + (fresh.size : Int)) = false := by simp; omega
    have u1 : (old.size : Int) + (fresh.size : Int) ≤ 9223372036854775807 := by omega
    obtain ⟨w1, w2, w4⟩ := rep_wf c name old temp fresh 0 hc hcl h3 h1 h2
    have w0 := (set_wf c name old hcl h1 (by omega)).2.2.2
    have HS : Hid (∀ wx, Calls Try.prog 21 #[.string name, .string old, .int .i64 ((old.size : Int) + (fresh.size : Int))] wx fun e w' => ∃ p F, e = .returned (.pointer (some ⟨p, 0, none⟩)) ∧ One PS wx.heap.size F p (St.set4 c name old) w' ∧ Below wx.heap.size wx w') := fun wx => by rw [hsum]; exact set_c C c name old wx hcl h1 (by omega)
    have HC : Hid (∀ F p wx, One PS w.heap.size F p (St.set4 c name old) wx → w.heap.size ≤ wx.heap.size → Calls Try.prog 22 #[.pointer (some ⟨p, 0, none⟩), .string temp, .agg #[.int .i64 0, .int .i64 0, .int .i64 0, .int .i64 0]] wx fun e w' =>
        e = .returned (.tuple #[.int .i64 2, .int .i64 0]) ∧ One PS w.heap.size (ext F wx w') p (St.rep1 c name old temp 0) w' ∧ Below w.heap.size wx w') := fun F p wx t hB => (C.create F p _ temp 0 0 0 0 wx t.d w0).mono (by
      rintro e w' ⟨rfl, hd⟩
      rw [rep_1 c name old temp 0 h3 h2] at hd ⊢
      exact ⟨rfl, t.did hB hd⟩)
    have HA : Hid (∀ F p wx, One PS w.heap.size F p (St.rep1 c name old temp 0) wx → w.heap.size ≤ wx.heap.size → Calls Try.prog 13 #[.pointer (some ⟨p, 0, none⟩), .int .i64 2, .string fresh] wx fun e w' =>
        e = .returned (.int .i64 0) ∧ One PS w.heap.size (ext F wx w') p (St.rep2 c name old temp fresh 0) w' ∧ Below w.heap.size wx w') := fun F p wx t hB => (C.append F p _ 2 fresh wx t.d w1 (by omega)).mono (by
      rintro e w' ⟨rfl, hd⟩
      rw [hc, rep_2 name old temp fresh 0 h3, ← hc] at hd
      rw [hc, rep_2 name old temp fresh 0 h3]
      exact ⟨rfl, by rw [← hc]; exact t.did hB hd⟩)
    have HR : Hid (∀ F p wx, One PS w.heap.size F p (St.rep2 c name old temp fresh 0) wx → w.heap.size ≤ wx.heap.size → Calls Try.prog 24 #[.pointer (some ⟨p, 0, none⟩), .string temp, .string name] wx fun e w' =>
        e = .returned (.int .i64 0) ∧ One PS w.heap.size (ext F wx w') p (St.rep4 c name old temp fresh 0 0) w' ∧ Below w.heap.size wx w') := fun F p wx t hB => (C.rename F p _ temp name wx t.d w2).mono (by
      rintro e w' ⟨rfl, hd⟩
      rw [rep_4 c name old temp fresh 0 0 (St.rep2 c name old temp fresh 0) rfl h3 h1 h2] at hd ⊢
      exact ⟨rfl, t.did hB hd⟩)
    have HN : Hid (∀ (n : Int) w, Calls Try.prog 14 #[.int .i64 n] w fun e w' => e = .returned (.int .i64 n) ∧ w' = w) := fun n w => num_c n w
    have HW4 : Hid (Wf (St.rep4 c name old temp fresh 0 0)) := w4
    obtain ⟨n, hn1, hn2⟩ := within_nat keep fresh.size
    have HWI : Hid (∀ wx, Calls Try.prog 28 #[.int .i64 keep, .int .i64 0, .int .i64 fresh.size] wx fun e w' => e = .returned (.int .i64 (n : Int)) ∧ w' = wx) := fun wx => by
      have := within_c keep 0 fresh.size wx
      rw [hn1] at this; exact this
    have wt : Wf (St.torn c name old temp fresh 0 keep) := (crash_fine w4 2 [keep]).wf
    have dt : DW (St.torn c name old temp fresh 0 keep) := torn_DW c name old temp fresh 0 keep h1
    have hdat : (cutB [keep] 0 ⟨0, 0, 0, 0, fresh, 0⟩).data = fresh.extract 0 n := by rw [torn_data, hn1]; simp
    have HO : Hid (∀ F p wx, One PS w.heap.size F p (St.torn c name old temp fresh 0 keep) wx → w.heap.size ≤ wx.heap.size → Calls Try.prog 26 #[.pointer (some ⟨p, 0, none⟩), .string name, .string (fresh.extract 0 n)] wx fun e w' => e = .returned (.bool true) ∧ Below w.heap.size wx w') := fun F p wx t hB => only_c C w.heap.size F p _ _ name _ wx t wt dt hB (torn_files c name old temp fresh 0 keep) rfl hdat
    have n0 : (0 : Int) ≤ (n : Int) := by omega
    have n1 : (n : Int) ≤ (fresh.size : Int) := by omega
    clear hsum hc hcl w0 w1 w2 w4 h1 h2 h3 HP wt dt hdat hn1
    go_enter Try.func6, Try.ntmps6
    go_wp2_with (first
      | (go_at_call 20; refine (HPP.out _).mono ?_; rintro e x0 ⟨rfl, hx0⟩; subst x0)
      | (go_at_call 21; refine (HS.out _).mono ?_; rintro e x1 ⟨p, F, rfl, t1, hb1⟩; have hs1 := hb1.size)
      | (go_at_call 22; refine (HC.out _ p _ t1 hs1).mono ?_; rintro e x2 ⟨rfl, t2, hb2⟩; have hb2' := hb1.trans hb2; have hs2 := hb2'.size)
      | (go_at_call 13; refine (HA.out _ p _ t2 hs2).mono ?_; rintro e x3 ⟨rfl, t3, hb3⟩; have hb3' := hb2'.trans hb3; have hs3 := hb3'.size)
      | (go_at_call 24; refine (HR.out _ p _ t3 hs3).mono ?_; rintro e x4 ⟨rfl, t4, hb4⟩; have hb4' := hb3'.trans hb4; have hs4 := hb4'.size)
      | (go_at_call 14; refine (HN.out _ _).mono ?_; rintro e w6 ⟨rfl, hw6⟩; subst w6))
    have hbA : Below x4.heap.size x4 (x4.alloc (.cells #[.int .i64 keep] 3)) := (Below.refl _ x4).alloc (Nat.le_refl _) _
    have tA := t4.below C hbA
    have hbA' := hb4'.trans (hbA.mono hs4)
    have hsA := hbA'.size
    refine (C.crash _ p _ 2 _ [keep] _ tA.d HW4.out (.inr ⟨x4.heap.size, 0, 1, rfl, by simp, fun j hj => ?_⟩) (fun _ k hk hF => ?_) (by simp)).mono ?_
    · simp at hj; subst hj; rw [Lib.cell_of_heap (heap_alloc_new x4 _)]; rfl
    · have h8 := (t4.lo k hF).2
      simp [Value.ownBlock] at hk
      omega
    rintro e x5 ⟨rfl, hd⟩
    obtain ⟨t5, hb5⟩ := tA.did hsA hd
    have hb5' := hbA'.trans hb5
    have hs5 := hb5'.size
    go_wp2_with (first
      | (go_at_call 28; refine (HWI.out _).mono ?_; rintro e x6 ⟨rfl, hx6⟩; subst x6)
      | (go_at_call 26; refine (HO.out _ p _ t5 hs5).mono ?_; rintro e x7 ⟨rfl, hb7⟩))
    go_ret
    exact ⟨rfl, hb5'.trans hb7⟩
  · rw [Bool.not_eq_true] at hp
    rw [hp] at HP
    have HPP : Hid (∀ w, Calls Try.prog 20 #[.string name, .string temp] w fun e w' => e = .returned (.bool false) ∧ w' = w) := HP
    clear hp HP
    go_enter Try.func6, Try.ntmps6
    go_wp2_with (go_at_call 20; refine (HPP.out _).mono ?_; rintro e x0 ⟨rfl, hx0⟩; subst x0)
    go_ret
    exact ⟨rfl, Below.refl _ _⟩
end Go.Proofs.Ytodjgbmfmpbkjaa
