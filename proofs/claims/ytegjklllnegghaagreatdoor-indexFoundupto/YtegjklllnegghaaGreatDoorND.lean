
-- index.nameAll: its walk.
import Derived.Test.YtegjklllnegghaaGreatDoorNC
import Derived.Test.YtegjklllnegghaaGreatDoorCC
namespace Go.Proofs.YtegjklllnegghaaGreatDoor
open Go.ChangeShapes Go.WideShapes Go.ChangeAt Go.RowKit
set_option linter.unusedVariables false
set_option maxRecDepth 100000
theorem Kq.trans {k : Nat} {a b c : World} (h : Kq k a b) (g : Kq k b c) : Kq k a c := ⟨g.os.trans h.os, g.tape.trans h.tape, g.output.trans h.output, Nat.le_trans h.size g.size, fun j hj hl => (g.block j hj (Nat.lt_of_lt_of_le hl h.size)).trans (h.block j hj hl)⟩
theorem Kq.ofBelow {k : Nat} {a b : World} (h : Below a.heap.size a b) : Kq k a b := ⟨h.os, h.tape, h.output, h.size, fun j _ hl => h.block j hl⟩
theorem Kq.drewN {k : Nat} {a b : World} (h : Kq k a b) (n : Nat) : Kq k a (b.drewN n) := h.trans (Kq.ofBelow (below_drewC (Below.refl _ _) n))
theorem kq_cell {k b o : Nat} {a c : World} {v : Value} (h : Kq k a c) (hb : b ≠ k) (hc : a.cell? ⟨b, o, none⟩ = some v) : c.cell? ⟨b, o, none⟩ = some v := by
  have := h.block b hb (World.block_lt_of_cell? _ _ hc)
  simp only [World.cell?] at hc ⊢
  rw [this]; exact hc
/-- what nameAll says -/
def NSays (ok : Bool) (Lb : Nat) (row : Array Value) (w : World) (e : Ending) (w' : World) : Prop :=
  e = .returned (.bool ok) ∧ Kq Lb w w' ∧ (ok = true → w'.heap[Lb]? = some (.cells row 33 (0, 0)))
theorem namesOk_no {SL : List UInt8} {bg : Nat → Nat} {n i : Nat} (hi : i < n) (h : nmE SL (bg i) = none) : namesOk SL bg n = false := by
  cases q : namesOk SL bg n
  · rfl
  · unfold namesOk at q
    rw [List.all_eq_true] at q
    have := q i (by simpa using hi)
    rw [h] at this; cases this
set_option maxHeartbeats 8000000 in
theorem nameAll_pos (S : ByteArray) (Lb G m : Nat) (bg : Nat → Nat) (pl : Nat → Int) (w : World) (hn : m + 1 ≤ 67108864) (hS : S.size ≤ 67108864) (hbg : ∀ i, bg i < 4294967296) (cg : Array Value)
    (hL : w.heap[Lb]? = some (.cells (rowF (fun i => ⟨⟨#[]⟩, pl i⟩) (m + 1) (m + 1)) 33 (0, 0))) (hG : w.heap[G]? = some (.cells cg 3 (0, 0))) (hGc : ∀ j, j < m + 1 → cg[j]? = some (.int .i64 (bg j : Nat))) :
    Calls Tryz.prog 58 #[.slice (some ⟨Lb, 0, none⟩) (m + 1) (m + 1), .slice (some ⟨G, 0, none⟩) (m + 1) (m + 1), .string S] w fun e w' => NSays (namesOk S.data.toList bg (m + 1)) Lb (rowF (fN S.data.toList bg pl) (m + 1) (m + 1)) w e w' := by
  have hLG : G ≠ Lb := by
    rintro rfl
    rw [hL] at hG; injection hG with hG; injection hG with _ hG _; exact absurd hG (by decide)
  have hLl := (Array.getElem?_eq_some_iff.1 hL).1
  have hGl := (Array.getElem?_eq_some_iff.1 hG).1
  have HMK : ∀ W, (Instr.makeSlice 105 (.int .i64 ((m : Int) + 1)) (.int .i64 ((m : Int) + 1))).run Tryz.prog W = .ok (.slice (some ⟨W.heap.size, 0, none⟩) (m + 1) (m + 1)) (W.alloc (.cells (rowU (fun i => i) (m + 1) 0) 3)) := fun W => mk_ints (fun i => i) (m + 1) hn W
  have hl : S.data.toList.length = S.size := by simp
  have HL := hidK hL
  have HG := hidK hG
  have HGC := hidK hGc
  have HBG := hidK hbg
  have HLN := hidK hl
  clear hL hG hGc hbg hl
  have HSORT : Hid (∀ (wx : World), Below w.heap.size w wx → wx.heap[w.heap.size]? = some (.cells #[.slice (some ⟨G, 0, none⟩) (m + 1) (m + 1)] 105 (0, 0)) → wx.heap[w.heap.size + 1]? = some (.cells (rowU (fun i => i) (m + 1) (m + 1)) 3 (0, 0)) → Calls Tryz.prog 70 #[.slice (some ⟨w.heap.size + 1, 0, none⟩) (m + 1) (m + 1), .func (.func 71) #[] #[.pointer (some ⟨w.heap.size, 0, none⟩)]] wx fun e w' => e = .returned (.tuple #[]) ∧ Kq (w.heap.size + 1) wx w' ∧
      ∃ p : Nat → Nat, (∀ i, i < m + 1 → p i < m + 1) ∧ (∀ i, i < m + 1 → ∃ j, j < m + 1 ∧ p j = i) ∧ (∀ i j, i < j → j < m + 1 → bg (p i) ≤ bg (p j)) ∧ (∀ j, j < m + 1 → w'.cell? ⟨w.heap.size + 1, j, none⟩ = some (.int .i64 (p j : Nat)))) := fun wx hB hb hu => by
    refine sort_c w.heap.size G (w.heap.size + 1) (m + 1) m bg wx hn (cell_rowK hb 0 _ rfl) (fun j hj => ?_) (by omega) (by omega) _ hu (fun j hj => by rw [rowU_get _ _ _ _ hj, if_pos hj])
    exact cell_rowK ((hB.block G hGl).trans HG.out) j _ (HGC.out j hj)
  go_enter Tryz.func58, Tryz.ntmps58
  go_wp2
  go_loopw [19] (fun i wx => ∃ k : Nat, k ≤ m + 1 ∧ i = .int .i64 k ∧ wx.heap[w.heap.size + 1]? = some (.cells (rowU (fun i => i) (m + 1) k) 3 (0, 0)) ∧ wx.heap[w.heap.size]? = some (.cells #[.slice (some ⟨G, 0, none⟩) (m + 1) (m + 1)] 105 (0, 0)) ∧ Below w.heap.size w wx) (fun i _ => m + 1 - (intOf i).toNat)
  case atStart => exact ⟨0, Nat.zero_le _, rfl, heap_new2K w _ _, hupK (heap_alloc_new w _) _, bupK (bupK (Below.refl _ _) _) _⟩
  case round =>
    obtain ⟨k, hk, rfl, hU, hBx, hB⟩ := hrel
    by_cases hlt : k < m + 1
    · have kI : (k : Int) < (m : Int) + 1 := by omega
      have hfit := hidK (Nat.ble_eq_true_of_le (show k + 1 ≤ (rowU (fun i => i) (m + 1) k).size by rw [rowU_size]; omega))
      have HPUT := hidK (rowU_put (fun i => i) (m + 1) k hlt (k : Int) rfl)
      go_wp2_with (first
        | (refine wpList_store_kz rfl rfl _ _ _ rfl (w.heap.size + 1) k (.int .i64 k) (by first | rfl | (simp [Act.eval]; done)) rfl _ _ (rowU (fun i => i) (m + 1) (k + 1)) hU (by kernel_rfl) hfit.out rfl HPUT.out ?_; intro w4 U4 q4; have B4 := q4.belowN hB (by omega) (Nat.le_refl _); have X4 := q4.keeps (by omega) hBx))
      go_roundw
      case rel => exact ⟨k + 1, by omega, by go_num, U4, X4, B4⟩
      case measure => simp [intOf]; omega
    · obtain rfl : k = m + 1 := by omega
      go_wp2_with (first
        | (go_at_call 70; refine (HSORT.out _ hB hBx hU).mono ?_; rintro e w5 ⟨rfl, q5, p, hp1, hp2, hp3, hp4⟩))
      have B5 := q5.belowN hB (by omega) (Nat.le_refl _)
      have X5 := q5.keeps (by omega) hBx
      have HP := hidK (And.intro hp1 (And.intro hp2 (And.intro hp3 hp4)))
      have L5 := (B5.block Lb hLl).trans HL.out
      have G5 : ∀ j, j < m + 1 → w5.cell? ⟨G, j, none⟩ = some (.int .i64 (bg j : Nat)) := fun j hj => cell_rowK ((B5.block G hGl).trans HG.out) j _ (HGC.out j hj)
      have HG5 := hidK G5
      clear hp1 hp2 hp3 hp4 G5 q5
      have K0 : Kq Lb w w5 := Kq.ofBelow B5
      have Rz : rowF (fun i => (⟨⟨#[]⟩, pl i⟩ : En)) (m + 1) (m + 1) = rowF (fM S.data.toList bg pl p 0) (m + 1) (m + 1) := rowF_congr fun i _ => rfl
      rw [Rz] at L5
      go_loopw [9, 32] (fun sv i wx => ∃ (k : Nat) (st : Int), k ≤ m + 1 ∧ i = .int .i64 k ∧ sv = .int .i64 st ∧ stopOk S.data.toList bg p k st ∧ (∀ j, j < k → (nmE S.data.toList (bg (p j))).isSome = true) ∧ wx.heap[Lb]? = some (.cells (rowF (fM S.data.toList bg pl p k) (m + 1) (m + 1)) 33 (0, 0)) ∧ Kq Lb w5 wx) (fun _ i _ => m + 1 - (intOf i).toNat)
      case atStart => exact ⟨0, -1, Nat.zero_le _, rfl, rfl, .inl ⟨rfl, rfl⟩, fun j hj => absurd hj (Nat.not_lt_zero _), L5, Kq.ofBelow (Below.refl _ _)⟩
      case round =>
        obtain ⟨k, st, hk, rfl, rfl, hst, hok, hLx, hKx⟩ := hrel
        have HST := hidK hst
        have HOK := hidK hok
        clear hst hok
        by_cases hlt : k < m + 1
        · have kI : (k : Int) < (m : Int) + 1 := by omega
          have hpk := HP.out.1 k hlt
          have pI : (p k : Int) < (m : Int) + 1 := by omega
          have cU := kq_cell hKx (show w.heap.size + 1 ≠ Lb by omega) (HP.out.2.2.2 k hlt)
          have cB := kq_cell hKx (show w.heap.size ≠ Lb by omega) (cell_rowK X5 0 _ rfl)
          have cG := kq_cell hKx hLG (HG5.out (p k) hpk)
          have hbk := HBG.out (p k)
          have hIB : Hid (∀ wx : World, Calls Tryz.prog 50 #[.string (strL (S.data.toList.drop (bg (p k)))), .int .u8 0] wx fun e w' => e = .returned (.int .i64 (Lib.indexByte (S.data.toList.drop (bg (p k))) 0)) ∧ w' = wx) := fun wx => by
            have h := Tryz.strings_IndexByte (strL (S.data.toList.drop (bg (p k)))) 0 wx
            rw [strL_data] at h; exact h
          have HKW := hidK (K0.trans hKx)
          cases hz : zAt S.data.toList (bg (p k)) with
          | none =>
            have hnm : nmE S.data.toList (bg (p k)) = none := by unfold nmE; rw [hz]; rfl
            have HNO : Hid (namesOk S.data.toList bg (m + 1) = false) := namesOk_no hpk hnm
            have hgt : st < (bg (p k) : Int) := by
              rcases HST.out with ⟨_, h⟩ | ⟨h0, e, he, hze⟩
              · omega
              · refine Int.not_le.1 fun q => ?_
                have := zAt_mono hze (HP.out.2.2.1 (k - 1) k (by omega) hlt) (show bg (p k) ≤ e by omega)
                rw [hz] at this; cases this
            rw [ibd_no hz] at hIB
            clear hz hnm
            by_cases hle : S.size ≤ bg (p k)
            · generalize bg (p k) = P at *
              generalize p k = pk at *
              clear hIB hgt
              have c1 : (S.size : Int) ≤ (P : Int) := by omega
              go_wp2
              go_ret
              exact ⟨by rw [HNO.out]; rfl, HKW.out, by rw [HNO.out]; intro h; cases h⟩
            · have hsl := slice_at S (bg (p k)) (bg (p k) : Int) rfl (by omega)
              generalize strL (S.data.toList.drop (bg (p k))) = SD at *
              generalize bg (p k) = P at *
              generalize p k = pk at *
              go_wp2_with (first
                | (go_at_call 50; refine (hIB.out _).mono ?_; rintro e w6 ⟨rfl, hw6⟩; subst w6))
              go_ret
              exact ⟨by rw [HNO.out]; rfl, HKW.out, by rw [HNO.out]; intro h; cases h⟩
          | some e =>
            obtain ⟨z1, z2, _, _⟩ := zAt_some hz
            rw [HLN.out] at z2
            have hstop : st < (bg (p k) : Int) ∨ st = (e : Int) := by
              rcases HST.out with ⟨_, h⟩ | ⟨h0, e', he, hze⟩
              · left; omega
              · by_cases q : bg (p k) ≤ e'
                · right
                  have := zAt_mono hze (HP.out.2.2.1 (k - 1) k (by omega) hlt) q
                  rw [hz] at this; injection this with this; rw [he, this]
                · left; omega
            rw [ibd_at hz] at hIB
            have hsl := slice_at S (bg (p k)) (bg (p k) : Int) rfl (by omega)
            have c1 : ¬ (S.size : Int) ≤ (bg (p k) : Int) := by omega
            by_cases heq : bg (p k) = e
            · have hnm : nmE S.data.toList (bg (p k)) = none := by unfold nmE; rw [hz]; simp only [Option.bind_some]; rw [if_neg (by omega)]
              have HNO : Hid (namesOk S.data.toList bg (m + 1) = false) := namesOk_no hpk hnm
              clear hz hnm
              rcases hstop with hs | hs
              · generalize strL (S.data.toList.drop (bg (p k))) = SD at *
                have h0 : ((e - bg (p k) : Nat) : Int) = 0 := by omega
                rw [h0] at hIB
                clear heq
                have heI : (e : Int) = (bg (p k) : Int) := by omega
                clear h0
                generalize bg (p k) = P at *
                generalize p k = pk at *
                go_wp2_with (first
                  | (go_at_call 50; refine (hIB.out _).mono ?_; rintro e' w6 ⟨rfl, hw6⟩; subst w6))
                go_ret
                exact ⟨by rw [HNO.out]; rfl, HKW.out, by rw [HNO.out]; intro h; cases h⟩
              · subst hs
                rw [← heq]
                clear hIB hsl
                generalize bg (p k) = P at *
                generalize p k = pk at *
                go_wp2
                go_ret
                exact ⟨by rw [HNO.out]; rfl, HKW.out, by rw [HNO.out]; intro h; cases h⟩
            · have hpe : bg (p k) < e := by omega
              have hnm : nmE S.data.toList (bg (p k)) = some e := by unfold nmE; rw [hz]; simp only [Option.bind_some]; rw [if_pos hpe]
              have HOK2 : Hid (∀ j, j < k + 1 → (nmE S.data.toList (bg (p j))).isSome = true) := fun j hj => by
                by_cases q : j = k
                · subst q; rw [hnm]; rfl
                · exact HOK.out j (by omega)
              have HST2 : Hid (stopOk S.data.toList bg p (k + 1) (e : Int)) := .inr ⟨by omega, e, rfl, by rw [Nat.add_sub_cancel]; exact hz⟩
              have hs2 := slice_ab S (bg (p k)) e (bg (p k) : Int) (e : Int) rfl rfl (by omega) (by omega)
              have HNS : strL ((S.data.toList.drop (bg (p k))).take (e - bg (p k))) = nmS S.data.toList (bg (p k)) := by unfold nmS; rw [hnm]; rfl
              rw [HNS] at hs2
              have HPUT := hidK (rowF_name (fM S.data.toList bg pl p k) (fM S.data.toList bg pl p (k + 1)) (m + 1) (p k) hpk (nmS S.data.toList (bg (p k))) (fM_next _ _ _ _ _) (fun j hj => fM_other _ _ _ _ _ _ hj))
              have hfit := hidK (Nat.ble_eq_true_of_le (show 2 * p k + 1 ≤ (rowF (fM S.data.toList bg pl p k) (m + 1) (m + 1)).size by rw [rowF_size]; omega))
              have HK2 := hidK hKx
              clear hz hnm HNS heq
              have e3 : ¬ (bg (p k) : Int) = (e : Int) := by omega
              have e4 : ((bg (p k) : Int) == (e : Int)) = false := by simp; omega
              generalize nmS S.data.toList (bg (p k)) = nm at *
              rcases hstop with hs | hs
              · generalize strL (S.data.toList.drop (bg (p k))) = SD at *
                have hadd : (bg (p k) : Int) + ((e - bg (p k) : Nat) : Int) = (e : Int) := by omega
                have hge : ¬ ((e - bg (p k) : Nat) : Int) < 0 := by omega
                have heb : e ≤ 67108864 := by omega
                have hdb : e - bg (p k) ≤ 67108864 := by omega
                generalize e - bg (p k) = D at *
                generalize bg (p k) = P at *
                generalize hpkk : p k = pk at *
                have HPK := hidK hpkk
                clear hpkk
                go_wp2_with (first
                  | (go_at_call 50; refine (hIB.out _).mono ?_; rintro e' w6 ⟨rfl, hw6⟩; subst w6)
                  | (refine wpList_store_kz rfl rfl _ _ _ rfl Lb (2 * pk) (.string nm) (by first | rfl | (simp [Act.eval]; done) | (simp [Act.eval]; omega)) rfl _ _ (rowF (fM S.data.toList bg pl p (k + 1)) (m + 1) (m + 1)) hLx (by kernel_rfl) hfit.out rfl HPUT.out ?_; intro w7 L7 q7; have K7 := HK2.out.trans q7))
                go_roundw
                case rel => exact ⟨k + 1, (e : Int), by omega, by go_num, by first | rfl | exact int_eqG hadd, HST2.out, HOK2.out, L7, K7⟩
                case measure => simp [intOf]; omega
              · subst hs
                clear hIB hsl
                have hgt : ¬ (e : Int) < (bg (p k) : Int) := by omega
                generalize bg (p k) = P at *
                generalize hpkk : p k = pk at *
                have HPK := hidK hpkk
                clear hpkk
                go_wp2_with (first
                  | (refine wpList_store_kz rfl rfl _ _ _ rfl Lb (2 * pk) (.string nm) (by first | rfl | (simp [Act.eval]; done) | (simp [Act.eval]; omega)) rfl _ _ (rowF (fM S.data.toList bg pl p (k + 1)) (m + 1) (m + 1)) hLx (by kernel_rfl) hfit.out rfl HPUT.out ?_; intro w7 L7 q7; have K7 := HK2.out.trans q7))
                go_roundw
                case rel => exact ⟨k + 1, (e : Int), by omega, by go_num, rfl, HST2.out, HOK2.out, L7, K7⟩
                case measure => simp [intOf]; omega
        · obtain rfl : k = m + 1 := by omega
          have HYES : Hid (namesOk S.data.toList bg (m + 1) = true) := by
            show _ = _
            unfold namesOk
            rw [List.all_eq_true]
            intro i hi
            obtain ⟨j, hj, e⟩ := HP.out.2.1 i (by simpa using hi)
            have := HOK.out j hj
            rw [e] at this; exact this
          have HROW : Hid (rowF (fM S.data.toList bg pl p (m + 1)) (m + 1) (m + 1) = rowF (fN S.data.toList bg pl) (m + 1) (m + 1)) := rowF_congr fun i hi => by
            obtain ⟨j, hj, e⟩ := HP.out.2.1 i hi
            unfold fM fN
            rw [if_pos (by rw [List.any_eq_true]; exact ⟨j, by simpa using hj, by simp [e]⟩)]
          have HKW := hidK (K0.trans hKx)
          have HLX := hidK hLx
          clear hLx hKx
          go_wp2
          go_ret
          exact ⟨by rw [HYES.out]; rfl, HKW.out, fun _ => by rw [← HROW.out]; exact HLX.out⟩
set_option maxHeartbeats 2000000 in
theorem nameAll_zero (S : ByteArray) (Lb G : Nat) (bg : Nat → Nat) (pl : Nat → Int) (w : World)
    (hL : w.heap[Lb]? = some (.cells (rowF (fun i => ⟨⟨#[]⟩, pl i⟩) 0 0) 33 (0, 0))) :
    Calls Tryz.prog 58 #[.slice (some ⟨Lb, 0, none⟩) 0 0, .slice (some ⟨G, 0, none⟩) 0 0, .string S] w fun e w' => NSays (namesOk S.data.toList bg 0) Lb (rowF (fN S.data.toList bg pl) 0 0) w e w' := by
  have HMK : ∀ W, (Instr.makeSlice 105 (.int .i64 0) (.int .i64 0)).run Tryz.prog W = .ok (.slice (some ⟨W.heap.size, 0, none⟩) 0 0) (W.alloc (.cells (rowU (fun i => i) 0 0) 3)) := fun W => mk_ints (fun i => i) 0 (by omega) W
  have HS : Hid (∀ (p : Option Addr) (fv : Value) (w : World), Calls Tryz.prog 70 #[.slice p 0 0, fv] w fun e w' => e = .returned (.tuple #[]) ∧ w' = w) := fun p fv w => Tryz.slices_SortFunc_none (α := Nat) p 0 fv w
  have hLl := (Array.getElem?_eq_some_iff.1 hL).1
  have HL := hidK hL
  clear hL
  go_enter Tryz.func58, Tryz.ntmps58
  go_wp2
  go_loopw [19] (fun i wx => i = .int .i64 0 ∧ wx.heap[Lb]? = some (.cells (rowF (fun i => ⟨⟨#[]⟩, pl i⟩) 0 0) 33 (0, 0)) ∧ Below w.heap.size w wx) (fun _ _ => 0)
  case atStart => exact ⟨rfl, hupK (hupK HL.out _) _, bupK (bupK (Below.refl _ _) _) _⟩
  case round =>
    obtain ⟨rfl, hLx, hB⟩ := hrel
    have HLX := hidK hLx
    clear hLx
    go_wp2_with (first
      | (go_at_call 70; refine (HS.out _ _ _).mono ?_; rintro e w5 ⟨rfl, hw5⟩; subst w5))
    go_loopw [9, 32] (fun st i wx => i = .int .i64 0 ∧ wx.heap[Lb]? = some (.cells (rowF (fun i => ⟨⟨#[]⟩, pl i⟩) 0 0) 33 (0, 0)) ∧ Below w.heap.size w wx) (fun _ _ _ => 0)
    case atStart => exact ⟨rfl, HLX.out, hB⟩
    case round =>
      obtain ⟨rfl, hLy, hB2⟩ := hrel
      have HLY := hidK hLy
      clear hLy
      go_wp2
      go_ret
      exact ⟨rfl, Kq.ofBelow hB2, fun _ => HLY.out⟩
theorem nameAll_c (S : ByteArray) (Lb G n : Nat) (bg : Nat → Nat) (pl : Nat → Int) (w : World) (hn : n ≤ 67108864) (hS : S.size ≤ 67108864) (hbg : ∀ i, bg i < 4294967296) (cg : Array Value)
    (hL : w.heap[Lb]? = some (.cells (rowF (fun i => ⟨⟨#[]⟩, pl i⟩) n n) 33 (0, 0))) (hG : w.heap[G]? = some (.cells cg 3 (0, 0))) (hGc : ∀ j, j < n → cg[j]? = some (.int .i64 (bg j : Nat))) :
    Calls Tryz.prog 58 #[.slice (some ⟨Lb, 0, none⟩) n n, .slice (some ⟨G, 0, none⟩) n n, .string S] w fun e w' => NSays (namesOk S.data.toList bg n) Lb (rowF (fN S.data.toList bg pl) n n) w e w' := by
  cases n with
  | zero => exact nameAll_zero S Lb G bg pl w hL
  | succ m => exact nameAll_pos S Lb G m bg pl w hn hS hbg cg hL hG hGc
end Go.Proofs.YtegjklllnegghaaGreatDoor
