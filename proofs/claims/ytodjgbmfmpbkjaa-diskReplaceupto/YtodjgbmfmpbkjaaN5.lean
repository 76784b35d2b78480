
-- DiskReplace's walk.
import Derived.Test.YtodjgbmfmpbkjaaP6
import Derived.Test.YtodjgbmfmpbkjaaN4
import Derived.Deep.RegionWith
namespace Go.Proofs.Ytodjgbmfmpbkjaa
open Go.RowKit
set_option linter.unusedVariables false
variable {PS : (Nat → Prop) → Nat → St → World → Prop}
theorem replace_wf (c : Nat) (name old temp fresh : ByteArray) (hs : c = old.size + fresh.size) (hc : c ≤ 1073741824) (h : name ≠ temp) (h1 : okName name = true) (h2 : okName temp = true) : Wf (St.rep1 c name old temp 2) ∧ Wf (St.rep2 c name old temp fresh 2) ∧ Wf (St.rep3 c name old temp fresh) ∧ Wf (St.rep4 c name old temp fresh 2 fresh.size) := by
  obtain ⟨w1, w2, _⟩ := rep_wf c name old temp fresh 2 hs hc h h1 h2
  have w3 := (sync_fine w2 2).wf
  rw [rep_3 c name old temp fresh h] at w3
  have w4 := (rename_fine w3 temp name (by simp [St.rep3])).wf
  rw [rep_4 c name old temp fresh 2 fresh.size (St.rep3 c name old temp fresh) rfl h h1 h2] at w4
  exact ⟨w1, w2, w3, w4⟩
set_option maxRecDepth 100000 in
set_option maxHeartbeats 8000000 in
theorem diskReplace_w (C : PC PS) (name temp old fresh : ByteArray) (n : Int) (cv : Value) (cuts : List Int) (w : World) (ho : old.size ≤ 1048576) (hfr : fresh.size ≤ 1048576) (hri : RowI w cv cuts) (hlo : cuts ≠ [] → ∀ k, cv.ownBlock = some k → k < w.heap.size) (hcl : cuts.length ≤ 1048576) :
    Calls Try.prog 5 #[.string name, .string temp, .string old, .string fresh, .int .i64 n, cv] w fun e w' => e = .returned (.bool true) ∧ Below w.heap.size w w' := by
  have HP := pair_c name temp
  obtain ⟨ao, cl, cp, hcv⟩ : ∃ ao cl cp, cv = .slice ao cl cp := by
    rcases hri with ⟨_, ao, c, h⟩ | ⟨b, off, cap, h, _⟩
    · exact ⟨_, _, _, h⟩
    · exact ⟨_, _, _, h⟩
  by_cases hp : (okName name && (okName temp && !(decide (name = temp)))) = true
  · rw [hp] at HP
    have HPP : Hid (∀ w, Calls Try.prog 20 #[.string name, .string temp] w fun e w' => e = .returned (.bool true) ∧ w' = w) := HP
    simp only [Bool.and_eq_true, Bool.not_eq_true', decide_eq_false_iff_not] at hp
    obtain ⟨h1, h2, h3⟩ := hp
    obtain ⟨c, hc⟩ : ∃ c, c = old.size + fresh.size := ⟨_, rfl⟩
    have hsum : ((old.size : Int) + (fresh.size : Int)) = (c : Int) := by omega
    have hcc : c ≤ 1073741824 := by omega
    have b1 : decide ((1073741824 : Int) < (old.size : Int) + (fresh.size : Int)) = false := by simp; omega
    have u1 : (old.size : Int) + (fresh.size : Int) ≤ 9223372036854775807 := by omega
    obtain ⟨w1, w2, w3, w4⟩ := replace_wf c name old temp fresh hc hcc h3 h1 h2
    have w0 := (set_wf c name old hcc h1 (by omega)).2.2.2
    have w5 : Wf (St.repc c old fresh (kept name temp n)) := by rw [← rep_crash c name old temp fresh n cuts]; exact (crash_fine w4 n cuts).wf
    have HS : Hid (∀ wx, Calls Try.prog 21 #[.string name, .string old, .int .i64 ((old.size : Int) + (fresh.size : Int))] wx fun e w' => ∃ p F, e = .returned (.pointer (some ⟨p, 0, none⟩)) ∧ One PS wx.heap.size F p (St.set4 c name old) w' ∧ Below wx.heap.size wx w') := fun wx => by rw [hsum]; exact set_c C c name old wx hcc h1 (by omega)
    have HC : Hid (∀ F p wx, One PS w.heap.size F p (St.set4 c name old) wx → w.heap.size ≤ wx.heap.size → Calls Try.prog 22 #[.pointer (some ⟨p, 0, none⟩), .string temp, .agg #[.int .i64 2, .int .i64 0, .int .i64 0, .int .i64 0]] wx fun e w' =>
        e = .returned (.tuple #[.int .i64 2, .int .i64 0]) ∧ One PS w.heap.size (ext F wx w') p (St.rep1 c name old temp 2) w' ∧ Below w.heap.size wx w') := fun F p wx t hB => (C.create F p _ temp 2 0 0 0 wx t.d w0).mono (by
      rintro e w' ⟨rfl, hd⟩
      rw [rep_1 c name old temp 2 h3 h2] at hd ⊢
      exact ⟨rfl, t.did hB hd⟩)
    have HA : Hid (∀ F p wx, One PS w.heap.size F p (St.rep1 c name old temp 2) wx → w.heap.size ≤ wx.heap.size → Calls Try.prog 13 #[.pointer (some ⟨p, 0, none⟩), .int .i64 2, .string fresh] wx fun e w' =>
        e = .returned (.int .i64 0) ∧ One PS w.heap.size (ext F wx w') p (St.rep2 c name old temp fresh 2) w' ∧ Below w.heap.size wx w') := fun F p wx t hB => (C.append F p _ 2 fresh wx t.d w1 (by omega)).mono (by
      rintro e w' ⟨rfl, hd⟩
      rw [hc, rep_2 name old temp fresh 2 h3, ← hc] at hd
      rw [hc, rep_2 name old temp fresh 2 h3]
      exact ⟨rfl, by rw [← hc]; exact t.did hB hd⟩)
    have HY : Hid (∀ F p wx, One PS w.heap.size F p (St.rep2 c name old temp fresh 2) wx → w.heap.size ≤ wx.heap.size → Calls Try.prog 23 #[.pointer (some ⟨p, 0, none⟩), .int .i64 2] wx fun e w' =>
        e = .returned (.int .i64 0) ∧ One PS w.heap.size (ext F wx w') p (St.rep3 c name old temp fresh) w' ∧ Below w.heap.size wx w') := fun F p wx t hB => (C.sync F p _ 2 wx t.d w2).mono (by
      rintro e w' ⟨rfl, hd⟩
      rw [rep_3 c name old temp fresh h3] at hd ⊢
      exact ⟨rfl, t.did hB hd⟩)
    have HR : Hid (∀ F p wx, One PS w.heap.size F p (St.rep3 c name old temp fresh) wx → w.heap.size ≤ wx.heap.size → Calls Try.prog 24 #[.pointer (some ⟨p, 0, none⟩), .string temp, .string name] wx fun e w' =>
        e = .returned (.int .i64 0) ∧ One PS w.heap.size (ext F wx w') p (St.rep4 c name old temp fresh 2 fresh.size) w' ∧ Below w.heap.size wx w') := fun F p wx t hB => (C.rename F p _ temp name wx t.d w3).mono (by
      rintro e w' ⟨rfl, hd⟩
      rw [rep_4 c name old temp fresh 2 fresh.size (St.rep3 c name old temp fresh) rfl h3 h1 h2] at hd ⊢
      exact ⟨rfl, t.did hB hd⟩)
    have HK : Hid (∀ F p wx, One PS w.heap.size F p (St.rep4 c name old temp fresh 2 fresh.size) wx → Below w.heap.size w wx → Calls Try.prog 25 #[.pointer (some ⟨p, 0, none⟩), .int .i64 n, .slice ao cl cp] wx fun e w' =>
        e = .returned (.bool true) ∧ One PS w.heap.size (ext F wx w') p (St.repc c old fresh (kept name temp n)) w' ∧ Below w.heap.size wx w') := fun F p wx t hb => by
      rw [← hcv]
      refine (lawCrash_c C F p _ n cv cuts wx t.d w4 (fun k hk => (t.lo k hk).2) (hri.below hb hlo) (fun hne k hk hF => by have := hlo hne k hk; have := (t.lo k hF).1; omega) (by omega)).mono ?_
      rintro e w' ⟨rfl, hd⟩
      rw [rep_crash] at hd
      exact ⟨rfl, t.did hb.size hd⟩
    have HN : Hid (∀ (n : Int) w, Calls Try.prog 14 #[.int .i64 n] w fun e w' => e = .returned (.int .i64 n) ∧ w' = w) := fun n w => num_c n w
    subst hcv
    by_cases hn2 : 2 ≤ n
    · have hk2 : kept name temp n = [(name, 2)] := by unfold kept; rw [if_neg (by omega), if_neg (by omega)]
      rw [hk2] at HK w5
      have HO : Hid (∀ F p wx, One PS w.heap.size F p (St.repc c old fresh [(name, 2)]) wx → w.heap.size ≤ wx.heap.size → Calls Try.prog 26 #[.pointer (some ⟨p, 0, none⟩), .string name, .string fresh] wx fun e w' => e = .returned (.bool true) ∧ Below w.heap.size wx w') := fun F p wx t hB => only_c C w.heap.size F p _ ⟨name, 2, bNew fresh⟩ name fresh wx t w5 (repc_DW c old fresh name 2 (by omega) h1) hB rfl rfl rfl
      have d1 : decide ((2 : Int) ≤ n) = true := by simp [hn2]
      clear hsum hc hcc w0 w1 w2 w3 w4 w5 h1 h2 h3 HP hri hlo hk2 hn2
      go_enter Try.func5, Try.ntmps5
      go_wp2_with (first
        | (go_at_call 20; refine (HPP.out _).mono ?_; rintro e x0 ⟨rfl, hx0⟩; subst x0)
        | (go_at_call 21; refine (HS.out _).mono ?_; rintro e x1 ⟨p, F, rfl, t1, hb1⟩; have hs1 := hb1.size)
        | (go_at_call 22; refine (HC.out _ p _ t1 hs1).mono ?_; rintro e x2 ⟨rfl, t2, hb2⟩; have hb2' := hb1.trans hb2; have hs2 := hb2'.size)
        | (go_at_call 13; refine (HA.out _ p _ t2 hs2).mono ?_; rintro e x3 ⟨rfl, t3, hb3⟩; have hb3' := hb2'.trans hb3; have hs3 := hb3'.size)
        | (go_at_call 23; refine (HY.out _ p _ t3 hs3).mono ?_; rintro e x4 ⟨rfl, t4, hb4⟩; have hb4' := hb3'.trans hb4; have hs4 := hb4'.size)
        | (go_at_call 24; refine (HR.out _ p _ t4 hs4).mono ?_; rintro e x5 ⟨rfl, t5, hb5⟩; have hb5' := hb4'.trans hb5; have hs5 := hb5'.size)
        | (go_at_call 25; refine (HK.out _ p _ t5 hb5').mono ?_; rintro e x6 ⟨rfl, t6, hb6⟩; have hb6' := hb5'.trans hb6; have hs6 := hb6'.size)
        | (go_at_call 26; refine (HO.out _ p _ t6 hs6).mono ?_; rintro e x7 ⟨rfl, hb7⟩)
        | (go_at_call 14; refine (HN.out _ _).mono ?_; rintro e w6 ⟨rfl, hw6⟩; subst w6))
      go_ret
      exact ⟨rfl, hb6'.trans hb7⟩
    · have d1 : decide ((2 : Int) ≤ n) = false := by simp; omega
      by_cases hn0 : n ≤ 0
      · have hk2 : kept name temp n = [(name, 1)] := by unfold kept; rw [if_pos hn0]
        rw [hk2] at HK w5
        have HO : Hid (∀ F p wx, One PS w.heap.size F p (St.repc c old fresh [(name, 1)]) wx → w.heap.size ≤ wx.heap.size → Calls Try.prog 26 #[.pointer (some ⟨p, 0, none⟩), .string name, .string old] wx fun e w' => e = .returned (.bool true) ∧ Below w.heap.size wx w') := fun F p wx t hB => only_c C w.heap.size F p _ ⟨name, 1, bOld old⟩ name old wx t w5 (repc_DW c old fresh name 1 (by omega) h1) hB rfl rfl rfl
        have d2 : decide (n ≤ (0 : Int)) = true := by simp [hn0]
        clear hsum hc hcc w0 w1 w2 w3 w4 w5 h1 h2 h3 HP hri hlo hk2 hn2 hn0
        go_enter Try.func5, Try.ntmps5
        go_wp2_with (first
          | (go_at_call 20; refine (HPP.out _).mono ?_; rintro e x0 ⟨rfl, hx0⟩; subst x0)
          | (go_at_call 21; refine (HS.out _).mono ?_; rintro e x1 ⟨p, F, rfl, t1, hb1⟩; have hs1 := hb1.size)
          | (go_at_call 22; refine (HC.out _ p _ t1 hs1).mono ?_; rintro e x2 ⟨rfl, t2, hb2⟩; have hb2' := hb1.trans hb2; have hs2 := hb2'.size)
          | (go_at_call 13; refine (HA.out _ p _ t2 hs2).mono ?_; rintro e x3 ⟨rfl, t3, hb3⟩; have hb3' := hb2'.trans hb3; have hs3 := hb3'.size)
          | (go_at_call 23; refine (HY.out _ p _ t3 hs3).mono ?_; rintro e x4 ⟨rfl, t4, hb4⟩; have hb4' := hb3'.trans hb4; have hs4 := hb4'.size)
          | (go_at_call 24; refine (HR.out _ p _ t4 hs4).mono ?_; rintro e x5 ⟨rfl, t5, hb5⟩; have hb5' := hb4'.trans hb5; have hs5 := hb5'.size)
          | (go_at_call 25; refine (HK.out _ p _ t5 hb5').mono ?_; rintro e x6 ⟨rfl, t6, hb6⟩; have hb6' := hb5'.trans hb6; have hs6 := hb6'.size)
          | (go_at_call 26; refine (HO.out _ p _ t6 hs6).mono ?_; rintro e x7 ⟨rfl, hb7⟩)
          | (go_at_call 14; refine (HN.out _ _).mono ?_; rintro e w6 ⟨rfl, hw6⟩; subst w6))
        go_ret
        exact ⟨rfl, hb6'.trans hb7⟩
      · have hn1 : n = 1 := by omega
        subst hn1
        have hk2 : kept name temp 1 = dTwo name temp := rfl
        rw [hk2] at HK w5
        obtain ⟨q1, q2, q3, q4, q5⟩ := repc_two c old fresh name temp h3 h1 h2
        have HF1 : Hid (∀ F p wx, One PS w.heap.size F p (St.repc c old fresh (dTwo name temp)) wx → w.heap.size ≤ wx.heap.size → Calls Try.prog 12 #[.pointer (some ⟨p, 0, none⟩), .string name] wx fun e w' => e = .returned (.tuple #[.agg (infoV name (bOld old)), .int .i64 1, .int .i64 0]) ∧ One PS w.heap.size F p (St.repc c old fresh (dTwo name temp)) w' ∧ Below w.heap.size wx w') := fun F p wx t hB => (C.find F p _ name wx t.d w5).mono (by
          rintro e w' ⟨rfl, hd⟩
          rw [q1]
          exact ⟨rfl, t.ask hB hd⟩)
        have HF2 : Hid (∀ F p wx, One PS w.heap.size F p (St.repc c old fresh (dTwo name temp)) wx → w.heap.size ≤ wx.heap.size → Calls Try.prog 12 #[.pointer (some ⟨p, 0, none⟩), .string temp] wx fun e w' => e = .returned (.tuple #[.agg (infoV temp (bNew fresh)), .int .i64 2, .int .i64 0]) ∧ One PS w.heap.size F p (St.repc c old fresh (dTwo name temp)) w' ∧ Below w.heap.size wx w') := fun F p wx t hB => (C.find F p _ temp wx t.d w5).mono (by
          rintro e w' ⟨rfl, hd⟩
          rw [q2]
          exact ⟨rfl, t.ask hB hd⟩)
        have HD1 : Hid (∀ F p wx, One PS w.heap.size F p (St.repc c old fresh (dTwo name temp)) wx → w.heap.size ≤ wx.heap.size → Calls Try.prog 11 #[.pointer (some ⟨p, 0, none⟩), .int .i64 1] wx fun e w' => e = .returned (.tuple #[.string old, .int .i64 0]) ∧ One PS w.heap.size F p (St.repc c old fresh (dTwo name temp)) w' ∧ Below w.heap.size wx w') := fun F p wx t hB => (C.read F p _ 1 wx t.d w5).mono (by
          rintro e w' ⟨rfl, hd⟩
          rw [q3]
          exact ⟨rfl, t.ask hB hd⟩)
        have HD2 : Hid (∀ F p wx, One PS w.heap.size F p (St.repc c old fresh (dTwo name temp)) wx → w.heap.size ≤ wx.heap.size → Calls Try.prog 11 #[.pointer (some ⟨p, 0, none⟩), .int .i64 2] wx fun e w' => e = .returned (.tuple #[.string fresh, .int .i64 0]) ∧ One PS w.heap.size F p (St.repc c old fresh (dTwo name temp)) w' ∧ Below w.heap.size wx w') := fun F p wx t hB => (C.read F p _ 2 wx t.d w5).mono (by
          rintro e w' ⟨rfl, hd⟩
          rw [q4]
          exact ⟨rfl, t.ask hB hd⟩)
        have HNM : Hid (∀ F p wx, One PS w.heap.size F p (St.repc c old fresh (dTwo name temp)) wx → w.heap.size ≤ wx.heap.size → ∀ W : World, W.heap = wx.heap → W.os = wx.os → W.tape = wx.tape → W.output = wx.output → Calls Try.prog 15 #[.pointer (some ⟨p, 0, none⟩)] W fun e w' => ∃ ao cp, e = .returned (.slice ao 2 cp) ∧ Below w.heap.size wx w') := fun F p wx t hB W e1 e2 e3 e4 => by
          have hb : Below wx.heap.size wx W := ⟨e2, e3, e4, by rw [e1]; exact Nat.le_refl _, fun k _ => by rw [e1]⟩
          have tW := t.below C hb
          refine (C.names F p _ W tW.d w5).mono ?_
          rintro e w' ⟨⟨v, rfl, hv⟩, hd⟩
          rw [q5] at hv
          obtain ⟨ao', c', rfl⟩ := own_shape hv
          exact ⟨ao', c', rfl, (hb.mono hB).trans (tW.ask (by rw [e1]; exact hB) hd).2⟩
        have d2 : decide ((1 : Int) ≤ (0 : Int)) = false := by decide
        have o1 : (old.toList == old.toList) = true := by simp
        have o2 : (fresh.toList == fresh.toList) = true := by simp
        clear hsum hc hcc w0 w1 w2 w3 w4 w5 h1 h2 h3 HP hri hlo hk2 hn2 hn0 q1 q2 q3 q4 q5
        unfold infoV at HF1 HF2
        go_enter Try.func5, Try.ntmps5
        go_wp2_with (first
          | (go_at_call 20; refine (HPP.out _).mono ?_; rintro e x0 ⟨rfl, hx0⟩; subst x0)
          | (go_at_call 21; refine (HS.out _).mono ?_; rintro e x1 ⟨p, F, rfl, t1, hb1⟩; have hs1 := hb1.size)
          | (go_at_call 22; refine (HC.out _ p _ t1 hs1).mono ?_; rintro e x2 ⟨rfl, t2, hb2⟩; have hb2' := hb1.trans hb2; have hs2 := hb2'.size)
          | (go_at_call 13; refine (HA.out _ p _ t2 hs2).mono ?_; rintro e x3 ⟨rfl, t3, hb3⟩; have hb3' := hb2'.trans hb3; have hs3 := hb3'.size)
          | (go_at_call 23; refine (HY.out _ p _ t3 hs3).mono ?_; rintro e x4 ⟨rfl, t4, hb4⟩; have hb4' := hb3'.trans hb4; have hs4 := hb4'.size)
          | (go_at_call 24; refine (HR.out _ p _ t4 hs4).mono ?_; rintro e x5 ⟨rfl, t5, hb5⟩; have hb5' := hb4'.trans hb5; have hs5 := hb5'.size)
          | (go_at_call 25; refine (HK.out _ p _ t5 hb5').mono ?_; rintro e x6 ⟨rfl, t6, hb6⟩; have hb6' := hb5'.trans hb6; have hs6 := hb6'.size)
          | (go_at_call 14; refine (HN.out _ _).mono ?_; rintro e w6 ⟨rfl, hw6⟩; subst w6))
        go_at_call 12
        refine (HF1.out _ p _ t6 hs6).mono ?_
        rintro e x7 ⟨rfl, t7, hb7⟩
        have hb7' := hb6'.trans hb7
        have hs7 := hb7'.size
        go_wp2_with fail
        go_at_call 12
        refine (HF2.out _ p _ (t7.below C ((Below.refl _ x7).alloc (Nat.le_refl _) _)) (by simp; omega)).mono ?_
        rintro e x8 ⟨rfl, t8, hb8⟩
        have hb8' := (hb7'.trans (((Below.refl _ x7).alloc (Nat.le_refl _) _).mono hs7)).trans hb8
        have hs8 := hb8'.size
        go_wp2_with fail
        go_at_call 11
        refine (HD1.out _ p _ (t8.below C ((Below.refl _ x8).alloc (Nat.le_refl _) _)) (by simp; omega)).mono ?_
        rintro e x9 ⟨rfl, t9, hb9⟩
        have hb9' := (hb8'.trans (((Below.refl _ x8).alloc (Nat.le_refl _) _).mono hs8)).trans hb9
        have hs9 := hb9'.size
        go_wp2_with fail
        go_at_call 11
        refine (HD2.out _ p _ t9 hs9).mono ?_
        rintro e xa ⟨rfl, ta, hba⟩
        have hba' := hb9'.trans hba
        have hsa := hba'.size
        have HNb : Hid (∀ W : World, W.heap = xa.heap → W.os = xa.os → W.tape = xa.tape → W.output = xa.output → Calls Try.prog 15 #[.pointer (some ⟨p, 0, none⟩)] W fun e w' => ∃ ao cp, e = .returned (.slice ao 2 cp) ∧ Below w.heap.size xa w') := HNM.out _ p xa ta hsa
        have HBa : Hid (Below w.heap.size w xa) := hba'
        clear t1 t2 t3 t4 t5 t6 t7 t8 t9 ta hb1 hb2 hb3 hb4 hb5 hb6 hb7 hb8 hb9 hba hb2' hb3' hb4' hb5' hb6' hb7' hb8' hb9' hba' hs1 hs2 hs3 hs4 hs5 hs6 hs7 hs8 hs9 hsa
        go_wp2_with (first
          | (go_at_call 14; refine (HN.out _ _).mono ?_; rintro e w6 ⟨rfl, hw6⟩; subst w6)
          | (go_at_call 15; refine (HNb.out _ ?_ ?_ ?_ ?_).mono ?_; rfl; rfl; rfl; rfl; rintro e xb ⟨ao2, cp2, rfl, hbb⟩))
        go_ret
        exact ⟨rfl, HBa.out.trans hbb⟩
  · rw [Bool.not_eq_true] at hp
    rw [hp] at HP
    have HPP : Hid (∀ w, Calls Try.prog 20 #[.string name, .string temp] w fun e w' => e = .returned (.bool false) ∧ w' = w) := HP
    subst hcv
    clear hp HP hri hlo
    go_enter Try.func5, Try.ntmps5
    go_wp2_with (go_at_call 20; refine (HPP.out _).mono ?_; rintro e x0 ⟨rfl, hx0⟩; subst x0)
    go_ret
    exact ⟨rfl, Below.refl _ _⟩
end Go.Proofs.Ytodjgbmfmpbkjaa
