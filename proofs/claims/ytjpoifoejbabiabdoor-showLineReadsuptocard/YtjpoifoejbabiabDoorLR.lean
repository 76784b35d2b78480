
-- ShowLineReads' walk, over any Line that tells so.
import Derived.Test.YtjpoifoejbabiabDoorPZ
import Derived.Deep.RegionHeld3
import Derived.BigRegion
namespace Go.Proofs.YtjpoifoejbabiabDoor
open Go.ChangeShapes Go.WideShapes Go.ChangeAt Go.RowKit
set_option linter.unusedVariables false
set_option maxRecDepth 100000
set_option linter.unusedSimpArgs false
theorem row_words (S : ByteArray) (ws : List ByteArray) (h : wordsL (lst S) = .inr ws) (hne : ws ≠ []) (hs : S.size ≤ 33554432) (W : World) : Calls Tryd.prog 8 #[.string S] W fun e w' => Below W.heap.size W w' ∧ ∃ g o cap, e = .returned (.tuple #[.slice (some ⟨g, o, none⟩) ws.length cap, .int .i64 0, .int .i64 0]) ∧ ∀ k x, ws[k]? = some x → w'.cell? ⟨g, o + k, none⟩ = some (.string x) := by
  refine (words_c S W hs).mono ?_
  rintro e w' ⟨hb, hg⟩
  rw [h] at hg
  obtain ⟨v, rfl, ho⟩ := hg
  rw [strV_flat] at ho
  have hr : RowT w' v ws := OwnT.row ho
  cases ws with
  | nil => exact absurd rfl hne
  | cons a r =>
    obtain ⟨b, off, cap, e1, _⟩ := hr.tx (k := 0) (x := a) rfl
    refine ⟨hb, b, off, cap, by rw [e1], fun k x hx => ?_⟩
    obtain ⟨b2, off2, cap2, e2, c2⟩ := hr.tx hx
    rw [e1] at e2
    injection e2 with e2
    injection e2 with e2
    injection e2 with e3 e4
    rw [e3, e4]; exact c2
theorem emp_beqL {q : ByteArray} (h : q.size ≠ 0) : (q.toList == []) = false := by
  rw [ByteArray.toList_eq]
  have h2 : q.data.toList.length ≠ 0 := by simpa using h
  cases hl : q.data.toList with
  | nil => rw [hl] at h2; exact absurd rfl h2
  | cons a r => rfl
theorem len4L {α : Type} {l : List α} (h : l.length = 4) : ∃ a b c d, l = [a, b, c, d] := by
  match l, h with
  | [a, b, c, d], _ => exact ⟨a, b, c, d, rfl⟩
set_option maxHeartbeats 8000000 in
theorem showLineReads_w (HP0 : LineOk 7) (x : Mx) (hx : okM x) (hn : x.n.size ≤ 1048576) (w : World) (hT : LTabs w) :
    Calls Tryd.prog 3 #[.agg (mxL x).toArray] w fun e w' => e = .returned (.bool true) ∧ Below w.heap.size w w' := by
  have hlw := line_words x
  have hls := line_list x
  have hnl := line_nonl x
  have hsz := lineB_size hx
  have HP : Hid (∀ W, Below w.heap.size w W → Calls Tryd.prog 7 #[.agg (mxL x).toArray] W fun e w' => e = .returned (.string (lineB x)) ∧ Below W.heap.size W w') := fun W hb => HP0 x W hx (by omega) (hT.on hb)
  obtain ⟨S, hS⟩ : ∃ S, S = lineB x := ⟨_, rfl⟩
  obtain ⟨LL, hLL⟩ : ∃ LL, LL = lineL x := ⟨_, rfl⟩
  rw [← hS] at HP hlw hls hsz
  rw [← hLL] at hls hnl
  obtain ⟨dd, uu, gg, mm, nn, zz, dt⟩ := x
  obtain ⟨i1, i2, i3, i4, i5⟩ := hx
  simp only [] at i1 i2 i3 i4 i5 hn hlw hsz
  simp only [mxL] at HP ⊢
  obtain ⟨A, hA⟩ : ∃ A, A = modeB mm := ⟨_, rfl⟩
  obtain ⟨U, hU⟩ : ∃ U, U = itB uu := ⟨_, rfl⟩
  obtain ⟨G, hG⟩ : ∃ G, G = itB gg := ⟨_, rfl⟩
  obtain ⟨Y, hY⟩ : ∃ Y, Y = itB zz := ⟨_, rfl⟩
  obtain ⟨D, hD⟩ : ∃ D, D = dateT dd := ⟨_, rfl⟩
  have hdw := dateT_words dd
  have hDs : D.size ≤ 200 := by rw [hD]; exact dateT_size dd
  have hUs : U.size ≤ 21 := by rw [hU]; exact itB_size i2
  have hGs : G.size ≤ 21 := by rw [hG]; exact itB_size i3
  rw [← hA, ← hU, ← hG, ← hY, ← hD] at hlw
  rw [← hD] at hdw
  obtain ⟨d0, d1, d2, d3, h4⟩ := len4L hdw.1
  rw [h4] at hlw
  obtain ⟨P1, h1⟩ : ∃ P, U ++ ⟨#[47]⟩ = P := ⟨_, rfl⟩
  have s1 : P1.size ≤ 22 := by rw [← h1, ByteArray.size_append]; have : (⟨#[47]⟩ : ByteArray).size = 1 := rfl; omega
  have q2 : ¬ (9223372036854775807 < P1.size + G.size) := by omega
  have q1 : ¬ (9223372036854775807 < U.size + 1) := by omega
  obtain ⟨O, h2⟩ : ∃ P, P1 ++ G = P := ⟨_, rfl⟩
  rw [h1, h2] at hlw
  have HWS := hidK (row_words S [A, O, Y, d0, d1, d2, d3, nn] hlw (by simp) (by omega))
  have hdl : wordsL (lst D) = .inr [d0, d1, d2, d3] := by
    have := scan_cw (lsq D) (blankC_clean hdw.2) 0 false [] []
    rw [h4] at this
    exact this
  have HWD := hidK (row_words D [d0, d1, d2, d3] hdl (by simp) (by omega))
  have hSz : S.size = LL.length + 1 := by rw [← lsq_size, hls, List.length_append]; rfl
  have hlast : ∀ w, (Instr.index 9 (.string S) (.int .i64 ((S.size : Int) - 1))).run Tryd.prog w = .ok (.int .u8 10) w := by
    intro w
    have h5 := idx S (S.size - 1) (by omega) w
    have e1 : ((S.size - 1 : Nat) : Int) = (S.size : Int) - 1 := by omega
    rw [e1] at h5
    rw [h5]
    have h6 := getB S (S.size - 1) (by omega)
    have h7 : (lsq S)[S.size - 1]'(by rw [lsq_size]; omega) = 10 := by
      simp only [hls]
      rw [List.getElem_append_right (by omega)]
      simp
    rw [← h6, h7]; rfl
  have HI : Hid (∀ k (h : k + 1 < S.size), ((((S[k]'(Nat.lt_of_succ_lt h)).toNat : Nat) : Int) == 10) = false) := by
    intro k h
    have h5 := getB S k (by omega)
    have h6 : (lsq S)[k]'(by rw [lsq_size]; omega) = LL[k]'(by omega) := by
      simp only [hls]
      rw [List.getElem_append_left (by omega)]
    have h7 := hnl _ (List.getElem_mem (show k < LL.length by omega))
    rw [← h5, h6]
    refine beq_eq_false_iff_ne.2 fun e => h7 ?_
    apply UInt8.toNat_inj.1
    have : (LL[k]'(by omega)).toNat = 10 := by omega
    rw [this]; rfl
  have hemp : (S.toList == []) = false := emp_beqL (by omega)
  have hemp2 : S.toList.isEmpty = false := by rw [ByteArray.toList_eq]; rw [ByteArray.toList_eq] at hemp; cases h : S.data.toList with | nil => rw [h] at hemp; cases hemp | cons a r => rfl
  have hw1 : IntKind.i64.wrap ((S.size : Int) - 1) = (S.size : Int) - 1 := by rw [IntKind.wrap_i64]; omega
  have HSZ := hidK hSz
  have HT := hidK hT
  have HUE := hidK hU
  have HGE := hidK hG
  have HAE := hidK hA
  have HYE := hidK hY
  have HDE := hidK hD
  have hB0 : Below w.heap.size w (w.alloc (.cells #[.int .i64 dd, .int .i64 uu, .int .i64 gg, .int .i64 mm, .string nn, .int .i64 zz, .string dt] 25)) := bupK (Below.refl _ _) _
  have hP0 := heap_alloc_new w (.cells #[.int .i64 dd, .int .i64 uu, .int .i64 gg, .int .i64 mm, .string nn, .int .i64 zz, .string dt] 25)
  clear hS hLL hA hU hG hY hD hT HP0 hlw hls hnl hdw h4 hdl hSz
  go_enter Tryd.func3, Tryd.ntmps3
  go_upto_region 2 with (go_at_call 7; refine (HP.out _ hB0).mono ?_; rintro e w1 ⟨rfl, hb1⟩)
  have hB1 := bel3K hB0 hb1
  have hP1 := hkeepK hb1 hP0
  clear hP0 hb1 HP hB0
  go_upto_region 3 with (go_at_call 8; refine (HWS.out _).mono ?_; rintro e w2 ⟨hb2, g, o, cap, rfl, hc2⟩)
  have HB2 := hidK (bel3K hB1 hb2)
  have HP2 := hidK (hkeepK hb2 hP1)
  have HC2 := hidK hc2
  clear hB1 hb2 hP1 hc2 HWS
  go_upto_region 5 with fail
  go_wp2
  go_loopw [7] (fun i wx => ∃ k : Nat, i = .int .i64 k ∧ k + 1 ≤ S.size ∧ wx = w2) (fun i _ => S.size - (intOf i).toNat)
  case atStart => exact ⟨0, rfl, by have := HSZ.out; omega, rfl⟩
  case round =>
    obtain ⟨k, rfl, hk1, rfl⟩ := hrel
    have kw : IntKind.i64.wrap ((k : Int) + 1) = (k : Int) + 1 := by rw [IntKind.wrap_i64]; omega
    by_cases hk : k + 1 < S.size
    · have kI : (k : Int) + 1 < (S.size : Int) := by omega
      have kI2 : (k : Int) < (S.size : Int) := by omega
      have k0 : (0 : Int) ≤ (k : Int) := by omega
      have hix := idx S k (by omega)
      have hne := HI.out k hk
      go_wp2
      go_roundw
      case rel => exact ⟨k + 1, by go_num, by omega, by first | rfl | trivial⟩
      case measure => simp [intOf]; omega
    · have kI : ¬ ((k : Int) + 1 < (S.size : Int)) := by omega
      have x0 := cell_rowK HP2.out 0 _ rfl
      go_upto_region 10 with fail
      go_upto_region 11 with (first | (go_at_call 9; refine (date_c dd _ (HT.out.on HB2.out)).mono ?_; rintro e w3 ⟨rfl, hb3⟩; rw [← HDE.out]) | (go_at_call 8; refine (HWD.out _).mono ?_; rintro e w4 ⟨hb4, g2, o2, cap2, rfl, hc4⟩))
      have hB4 := bel3K hb3 hb4
      have HB4 := hidK (bel3K HB2.out hB4)
      have HP4 := hidK (hkeepK hB4 HP2.out)
      have HC4 := hidK (fun k x h => cell_onG (HC2.out k x h) hB4)
      have HD4 := hidK hc4
      clear hb3 hb4 hB4 hc4 HC2 HP2 x0 kI hk hk1 kw
      go_upto_region 13 with fail
      go_wp2
      go_loopw [11] (fun i wx => ∃ k : Nat, i = .int .i64 k ∧ k ≤ 4 ∧ Below w4.heap.size w4 wx) (fun i _ => 4 - (intOf i).toNat)
      case atStart => exact ⟨0, rfl, by omega, Below.refl _ _⟩
      case round =>
        obtain ⟨k, rfl, hk4, hB⟩ := hrel
        by_cases hk : k < 4
        · have kI : (k : Int) < 4 := by omega
          have kI2 : (3 : Int) + (k : Int) < 8 := by omega
          have k0 : (0 : Int) ≤ (k : Int) := by omega
          have k1 : (0 : Int) ≤ 3 + (k : Int) := by omega
          have kt : ((3 : Int) + (k : Int)).toNat = 3 + k := by omega
          have kw : IntKind.i64.wrap ((3 : Int) + (k : Int)) = 3 + (k : Int) := by rw [IntKind.wrap_i64]; omega
          obtain ⟨dk, hd1, hd2⟩ : ∃ dk, [d0, d1, d2, d3][k]? = some dk ∧ [A, O, Y, d0, d1, d2, d3, nn][3 + k]? = some dk := by
            match k, hk with
            | 0, _ => exact ⟨d0, rfl, rfl⟩
            | 1, _ => exact ⟨d1, rfl, rfl⟩
            | 2, _ => exact ⟨d2, rfl, rfl⟩
            | 3, _ => exact ⟨d3, rfl, rfl⟩
          have f0 := cell_onG (HC4.out _ _ hd2) hB
          have f1 := cell_onG (HD4.out _ _ hd1) hB
          clear hd1 hd2
          go_wp2
          go_quiet (fail)
          have hB9 := belDrewN hB nq
          go_wp2
          go_roundw
          case rel => exact ⟨k + 1, by go_num, by omega, hB9⟩
          case measure => simp [intOf]; omega
        · obtain rfl : k = 4 := by omega
          go_upto_region 18 with fail
          have HB5 := hidK (bel3K HB4.out hB)
          have HP5 := hidK (hkeepK hB HP4.out)
          have HC5 := hidK (fun k x h => cell_onG (HC4.out k x h) hB)
          have hSw : wr.cell? ⟨w.heap.size, 1, none⟩ = some (.int .i64 uu) ∧ wr.cell? ⟨w.heap.size, 2, none⟩ = some (.int .i64 gg) ∧ Below wr.heap.size wr wr := ⟨cell_rowK HP5.out 1 _ rfl, cell_rowK HP5.out 2 _ rfl, Below.refl _ _⟩
          have HU5 : Hid (∀ wx, (wx.cell? ⟨w.heap.size, 1, none⟩ = some (.int .i64 uu) ∧ wx.cell? ⟨w.heap.size, 2, none⟩ = some (.int .i64 gg) ∧ Below wr.heap.size wr wx) → Calls Tryd.prog 10 #[.int .i64 uu] wx fun e w' => e = .returned (.string U) ∧ (w'.cell? ⟨w.heap.size, 1, none⟩ = some (.int .i64 uu) ∧ w'.cell? ⟨w.heap.size, 2, none⟩ = some (.int .i64 gg) ∧ Below wr.heap.size wr w')) := fun wx hS => (itoa_c i2 wx (HT.out.on (bel3K HB5.out hS.2.2))).mono fun e w' ⟨he, hb⟩ => ⟨by rw [he, HUE.out], cell_onG hS.1 hb, cell_onG hS.2.1 hb, bel3K hS.2.2 hb⟩
          have HG5 : Hid (∀ wx, (wx.cell? ⟨w.heap.size, 1, none⟩ = some (.int .i64 uu) ∧ wx.cell? ⟨w.heap.size, 2, none⟩ = some (.int .i64 gg) ∧ Below wr.heap.size wr wx) → Calls Tryd.prog 10 #[.int .i64 gg] wx fun e w' => e = .returned (.string G) ∧ (w'.cell? ⟨w.heap.size, 1, none⟩ = some (.int .i64 uu) ∧ w'.cell? ⟨w.heap.size, 2, none⟩ = some (.int .i64 gg) ∧ Below wr.heap.size wr w')) := fun wx hS => (itoa_c i3 wx (HT.out.on (bel3K HB5.out hS.2.2))).mono fun e w' ⟨he, hb⟩ => ⟨by rw [he, HGE.out], cell_onG hS.1 hb, cell_onG hS.2.1 hb, bel3K hS.2.2 hb⟩
          clear HB4 HP4 HC4 HD4 hB
          go_region_held3 (fun w' => (w'.cell? ⟨w.heap.size, 1, none⟩ = some (.int .i64 uu) ∧ w'.cell? ⟨w.heap.size, 2, none⟩ = some (.int .i64 gg) ∧ Below wr.heap.size wr w')) (first | assumption | exact ⟨hSw.1, hSw.2.1, hSw.2.2.drew⟩) (first
            | (go_at_call_of 10 (Value.int IntKind.i64 uu); refine (HU5.out _ (by assumption)).mono ?_; rintro e w' ⟨rfl, hS'⟩)
            | (go_at_call_of 10 (Value.int IntKind.i64 gg); refine (HG5.out _ (by assumption)).mono ?_; rintro e w' ⟨rfl, hS'⟩))
          have hb6 := hS'.2.2
          have HQ : Hid (∀ wx, (wx.cell? ⟨g, o, none⟩ = some (.string A) ∧ wx.cell? ⟨g, o + 1, none⟩ = some (.string O) ∧ wx.cell? ⟨g, o + 2, none⟩ = some (.string Y) ∧ wx.cell? ⟨g, o + 7, none⟩ = some (.string nn) ∧ wx.cell? ⟨w.heap.size, 3, none⟩ = some (.int .i64 mm) ∧ wx.cell? ⟨w.heap.size, 4, none⟩ = some (.string nn) ∧ wx.cell? ⟨w.heap.size, 5, none⟩ = some (.int .i64 zz) ∧ Below wr.heap.size wr wx) → ∀ w'' : World, Below wx.heap.size wx w'' → (w''.cell? ⟨g, o, none⟩ = some (.string A) ∧ w''.cell? ⟨g, o + 1, none⟩ = some (.string O) ∧ w''.cell? ⟨g, o + 2, none⟩ = some (.string Y) ∧ w''.cell? ⟨g, o + 7, none⟩ = some (.string nn) ∧ w''.cell? ⟨w.heap.size, 3, none⟩ = some (.int .i64 mm) ∧ w''.cell? ⟨w.heap.size, 4, none⟩ = some (.string nn) ∧ w''.cell? ⟨w.heap.size, 5, none⟩ = some (.int .i64 zz) ∧ Below wr.heap.size wr w'')) := fun wx hS w'' hb => ⟨cell_onG hS.1 hb, cell_onG hS.2.1 hb, cell_onG hS.2.2.1 hb, cell_onG hS.2.2.2.1 hb, cell_onG hS.2.2.2.2.1 hb, cell_onG hS.2.2.2.2.2.1 hb, cell_onG hS.2.2.2.2.2.2.1 hb, bel3K hS.2.2.2.2.2.2.2 hb⟩
          have HM19 : Hid (∀ wx, (wx.cell? ⟨g, o, none⟩ = some (.string A) ∧ wx.cell? ⟨g, o + 1, none⟩ = some (.string O) ∧ wx.cell? ⟨g, o + 2, none⟩ = some (.string Y) ∧ wx.cell? ⟨g, o + 7, none⟩ = some (.string nn) ∧ wx.cell? ⟨w.heap.size, 3, none⟩ = some (.int .i64 mm) ∧ wx.cell? ⟨w.heap.size, 4, none⟩ = some (.string nn) ∧ wx.cell? ⟨w.heap.size, 5, none⟩ = some (.int .i64 zz) ∧ Below wr.heap.size wr wx) → Calls Tryd.prog 11 #[.int .i64 mm] wx fun e w'' => e = .returned (.string A) ∧ (w''.cell? ⟨g, o, none⟩ = some (.string A) ∧ w''.cell? ⟨g, o + 1, none⟩ = some (.string O) ∧ w''.cell? ⟨g, o + 2, none⟩ = some (.string Y) ∧ w''.cell? ⟨g, o + 7, none⟩ = some (.string nn) ∧ w''.cell? ⟨w.heap.size, 3, none⟩ = some (.int .i64 mm) ∧ w''.cell? ⟨w.heap.size, 4, none⟩ = some (.string nn) ∧ w''.cell? ⟨w.heap.size, 5, none⟩ = some (.int .i64 zz) ∧ Below wr.heap.size wr w'')) := fun wx hS => (mode_c mm wx (HT.out.on (bel3K HB5.out hS.2.2.2.2.2.2.2))).mono fun e w'' ⟨he, hb⟩ => ⟨by rw [he, HAE.out], HQ.out wx hS w'' hb⟩
          have HZ19 : Hid (∀ wx, (wx.cell? ⟨g, o, none⟩ = some (.string A) ∧ wx.cell? ⟨g, o + 1, none⟩ = some (.string O) ∧ wx.cell? ⟨g, o + 2, none⟩ = some (.string Y) ∧ wx.cell? ⟨g, o + 7, none⟩ = some (.string nn) ∧ wx.cell? ⟨w.heap.size, 3, none⟩ = some (.int .i64 mm) ∧ wx.cell? ⟨w.heap.size, 4, none⟩ = some (.string nn) ∧ wx.cell? ⟨w.heap.size, 5, none⟩ = some (.int .i64 zz) ∧ Below wr.heap.size wr wx) → Calls Tryd.prog 10 #[.int .i64 zz] wx fun e w'' => e = .returned (.string Y) ∧ (w''.cell? ⟨g, o, none⟩ = some (.string A) ∧ w''.cell? ⟨g, o + 1, none⟩ = some (.string O) ∧ w''.cell? ⟨g, o + 2, none⟩ = some (.string Y) ∧ w''.cell? ⟨g, o + 7, none⟩ = some (.string nn) ∧ w''.cell? ⟨w.heap.size, 3, none⟩ = some (.int .i64 mm) ∧ w''.cell? ⟨w.heap.size, 4, none⟩ = some (.string nn) ∧ w''.cell? ⟨w.heap.size, 5, none⟩ = some (.int .i64 zz) ∧ Below wr.heap.size wr w'')) := fun wx hS => (itoa_c i5 wx (HT.out.on (bel3K HB5.out hS.2.2.2.2.2.2.2))).mono fun e w'' ⟨he, hb⟩ => ⟨by rw [he, HYE.out], HQ.out wx hS w'' hb⟩
          have hSw2 := And.intro (by simpa using cell_onG (HC5.out 0 A rfl) hb6 : _ = some (Value.string A)) (And.intro (cell_onG (HC5.out 1 O rfl) hb6) (And.intro (cell_onG (HC5.out 2 Y rfl) hb6) (And.intro (cell_onG (HC5.out 7 nn rfl) hb6) (And.intro (cell_onG (cell_rowK HP5.out 3 _ rfl) hb6) (And.intro (cell_onG (cell_rowK HP5.out 4 _ rfl) hb6) (And.intro (cell_onG (cell_rowK HP5.out 5 _ rfl) hb6) hb6))))))
          clear HU5 HG5 hSw hS' HQ
          go_upto_region 19 with fail
          go_region_held3 (fun w' => (w'.cell? ⟨g, o, none⟩ = some (.string A) ∧ w'.cell? ⟨g, o + 1, none⟩ = some (.string O) ∧ w'.cell? ⟨g, o + 2, none⟩ = some (.string Y) ∧ w'.cell? ⟨g, o + 7, none⟩ = some (.string nn) ∧ w'.cell? ⟨w.heap.size, 3, none⟩ = some (.int .i64 mm) ∧ w'.cell? ⟨w.heap.size, 4, none⟩ = some (.string nn) ∧ w'.cell? ⟨w.heap.size, 5, none⟩ = some (.int .i64 zz) ∧ Below wr.heap.size wr w')) (first | assumption | exact hSw2 | exact ⟨hSw2.1, hSw2.2.1, hSw2.2.2.1, hSw2.2.2.2.1, hSw2.2.2.2.2.1, hSw2.2.2.2.2.2.1, hSw2.2.2.2.2.2.2.1, hSw2.2.2.2.2.2.2.2.drew⟩) (first
            | (go_at_call 11; refine (HM19.out _ (by assumption)).mono ?_; rintro e w' ⟨rfl, hS'⟩)
            | (go_at_call 10; refine (HZ19.out _ (by assumption)).mono ?_; rintro e w' ⟨rfl, hS'⟩))
          go_wp2
          go_ret
          exact ⟨by simp, bel3K HB5.out hS'.2.2.2.2.2.2.2⟩
end Go.Proofs.YtjpoifoejbabiabDoor
