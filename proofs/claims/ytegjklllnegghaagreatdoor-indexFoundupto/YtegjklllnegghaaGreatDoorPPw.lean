
-- (index.codec).readPairs: its loop, over letters.
import Derived.Test.YtegjklllnegghaaGreatDoorCC
import Derived.Test.YtegjklllnegghaaGreatDoorRS
import Derived.Deep.CutRange
namespace Go.Proofs.YtegjklllnegghaaGreatDoor
open Go.ChangeShapes Go.WideShapes Go.ChangeAt Go.RowKit
set_option linter.unusedVariables false
set_option maxRecDepth 100000
/-- what readPairs leaves -/
def PpPost (ok : Bool) (M : Nat) (RR : Array Value) (w : World) (e : Ending) (w' : World) : Prop :=
  (ok = false ∧ e = .returned (.tuple #[.slice none 0 0, .bool false]) ∧ Below w.heap.size w w') ∨
  (ok = true ∧ ∃ g, w.heap.size ≤ g ∧ e = .returned (.tuple #[.slice (some ⟨g, 0, none⟩) M M, .bool true]) ∧ w'.heap[g]? = some (.cells RR 33 (0, 0)) ∧ Below w.heap.size w w')
set_option maxHeartbeats 8000000 in
theorem pp_walk (s A1 A2 A3 SS : ByteArray) (V M : Nat) (gv : Int → Int) (P G : Nat → Nat) (rF rU : Nat → Array Value) (RR : Array Value) (ok : Bool) (w : World)
    (hMb : M ≤ 67108864) (hz1 : A1.size = V) (hVb : V ≤ 67108864) (hmod : (V : Int).tmod 8 = 0) (hdiv : (V : Int).tdiv 8 = (M : Int))
    (HVM : Hid (V = 8 * M))
    (HC1 : Hid (∀ w, Calls Tryz.prog 57 #[.agg ca3, .string s] w fun e w' => e = .returned (.tuple #[.string A1, .string A2, .bool true]) ∧ Below w.heap.size w w'))
    (HC2 : Hid (∀ w, Calls Tryz.prog 57 #[.agg ca3, .string A2] w fun e w' => e = .returned (.tuple #[.string SS, .string A3, .bool true]) ∧ Below w.heap.size w w'))
    (HLD : Hid (∀ (z : Int) (w : World), 0 ≤ z → z + 4 ≤ (V : Int) → Calls Tryz.prog 54 #[.agg ca3, .string A1, .int .i64 z] w fun e w' => e = .returned (.tuple #[.int .u64 (gv z), .bool true]) ∧ Below w.heap.size w w'))
    (HGP : Hid (∀ k : Nat, k < M → gv (2 * (k : Int) * 4) = (P k : Int))) (HGA : Hid (∀ k : Nat, k < M → gv ((2 * (k : Int) + 1) * 4) = (G k : Int)))
    (HP : Hid (∀ k, P k < 4294967296)) (HG : Hid (∀ k, G k < 4294967296))
    (HPF : Hid (∀ k, k < M → putAt (rF k) (2 * k + 1) #[.int .i64 (G k : Int)] = rF (k + 1))) (HPU : Hid (∀ k, k < M → putAt (rU k) k #[.int .i64 (P k : Int)] = rU (k + 1)))
    (HBF : Hid (∀ k, k < M → Nat.ble (2 * k + 1 + 1) (rF k).size = true)) (HBU : Hid (∀ k, k < M → Nat.ble (k + 1) (rU k).size = true))
    (HMK1 : ∀ W, (Instr.makeSlice 22 (.int .i64 M) (.int .i64 M)).run Tryz.prog W = .ok (.slice (some ⟨W.heap.size, 0, none⟩) M M) (W.alloc (.cells (rF 0) 33)))
    (HMK2 : ∀ W, (Instr.makeSlice 105 (.int .i64 M) (.int .i64 M)).run Tryz.prog W = .ok (.slice (some ⟨W.heap.size, 0, none⟩) M M) (W.alloc (.cells (rU 0) 3)))
    (HNA : Hid (∀ (Lb Gb : Nat) (wx : World), wx.heap[Lb]? = some (.cells (rF M) 33 (0, 0)) → wx.heap[Gb]? = some (.cells (rU M) 3 (0, 0)) → Calls Tryz.prog 58 #[.slice (some ⟨Lb, 0, none⟩) M M, .slice (some ⟨Gb, 0, none⟩) M M, .string SS] wx fun e w' => e = .returned (.bool ok) ∧ Kq Lb wx w' ∧ (ok = true → w'.heap[Lb]? = some (.cells RR 33 (0, 0))))) :
    Calls Tryz.prog 49 #[.agg ca3, .string s] w fun e w' => PpPost ok M RR w e w' := by
  have R0 : (w.alloc (.cells ca3 52)).heap[w.heap.size]? = some (.cells ca3 52 (0, 0)) := heap_alloc_new w _
  go_enter Tryz.func49, Tryz.ntmps49
  have HMK1' := hidK HMK1
  have HMK2' := hidK HMK2
  clear HMK1 HMK2
  go_upto_region 2 with (first
    | (refine wpList_load_row rfl _ _ rfl w.heap.size rfl _ _ _ _ R0 Tryz.underlying52 rfl (by kernel_rfl) ?_)
    | (go_at_call 57; refine (HC1.out _).mono ?_; rintro e w1 ⟨rfl, hb1⟩))
  have R1 := hkeepK hb1 R0
  have B1 := bel3K (bupK (Below.refl w.heap.size w) (.cells ca3 52)) hb1
  have cw := cell_rowK R1 1 (.int .i64 4) rfl
  clear R0 hb1
  go_upto_region 4 with fail
  clear cw hmod
  go_upto_region 5 with (first
    | (refine wpList_load_row rfl _ _ rfl w.heap.size rfl _ _ _ _ R1 Tryz.underlying52 rfl (by kernel_rfl) ?_)
    | (go_at_call 57; refine (HC2.out _).mono ?_; rintro e w2 ⟨rfl, hb2⟩))
  have R2 := hkeepK hb2 R1
  have cw2 := cell_rowK R2 1 (.int .i64 4) rfl
  have B2 := bel3K B1 hb2
  clear R1 hb2 B1
  have HMK1 := HMK1'.out
  have HMK2 := HMK2'.out
  go_wp2
  clear cw2 hdiv hz1 HMK1 HMK2 HMK1' HMK2'
  have l2 := (Array.getElem?_eq_some_iff.1 R2).1
  go_loopw [57] (fun i wx => ∃ k : Nat, k ≤ M ∧ i = .int .i64 k ∧ wx.heap[w2.heap.size]? = some (.cells (rF k) 33 (0, 0)) ∧ wx.heap[w2.heap.size + 1]? = some (.cells (rU k) 3 (0, 0)) ∧ wx.heap[w.heap.size]? = some (.cells ca3 52 (0, 0)) ∧ Below w.heap.size w wx) (fun i _ => M - (intOf i).toNat)
  case atStart => exact ⟨0, Nat.zero_le _, rfl, hupK (heap_alloc_new _ _) _, heap_new2K w2 _ _, hupK (hupK R2 _) _, bupK (bupK B2 _) _⟩
  case round =>
    obtain ⟨k, hk, rfl, hLx, hGx, hR, hB⟩ := hrel
    have cw := cell_rowK hR 1 (.int .i64 4) rfl
    by_cases hlt : k < M
    · have hvm := HVM.out
      have gP := HGP.out k hlt
      have gA := HGA.out k hlt
      have hp1 := HP.out k
      have hp2 := HG.out k
      have hr1 : 2 * (k : Int) * 4 + 4 ≤ (V : Int) := by omega
      have hr2 : (2 * (k : Int) + 1) * 4 + 4 ≤ (V : Int) := by omega
      have hr0 : (0 : Int) ≤ 2 * (k : Int) * 4 := by omega
      have hr3 : (0 : Int) ≤ (2 * (k : Int) + 1) * 4 := by omega
      have kI : (k : Int) < (M : Int) := by omega
      have HPL := hidK (HPF.out k hlt)
      have HPV := hidK (HPU.out k hlt)
      have hf1 := hidK (HBF.out k hlt)
      have hf2 := hidK (HBU.out k hlt)
      have HL1 := hidK (fun w => HLD.out (2 * (k : Int) * 4) w hr0 hr1)
      have HL2 := hidK (fun w => HLD.out ((2 * (k : Int) + 1) * 4) w hr3 hr2)
      rw [gP] at HL1
      rw [gA] at HL2
      generalize rF k = RF at *
      generalize rU k = RU at *
      generalize P k = Pk at *
      generalize G k = Gk at *
      clear hvm gP gA hr1 hr2 hr0 hr3 HPF HPU HBF HBU HLD HGP HGA HP HG HVM
      go_upto_region 13 with (first
        | (refine wpList_load_row rfl _ _ rfl w.heap.size rfl _ _ _ _ hR Tryz.underlying52 rfl (by kernel_rfl) ?_)
        | (go_at_call 54; refine (HL1.out _).mono ?_; rintro e w3 ⟨rfl, hb3⟩))
      have B3 := bel3K hB hb3
      have R3 := hkeepK hb3 hR
      have L3 := hkeepK hb3 hLx
      have G3 := hkeepK hb3 hGx
      clear cw hB hR hLx hGx hb3
      have cw := cell_rowK R3 1 (.int .i64 4) rfl
      go_upto_region 14 with (first
        | (refine wpList_load_row rfl _ _ rfl w.heap.size rfl _ _ _ _ R3 Tryz.underlying52 rfl (by kernel_rfl) ?_)
        | (go_at_call 54; refine (HL2.out _).mono ?_; rintro e w4 ⟨rfl, hb4⟩))
      have B4 := bel3K B3 hb4
      have R4 := hkeepK hb4 R3
      have L4 := hkeepK hb4 L3
      have G4 := hkeepK hb4 G3
      clear cw B3 R3 L3 G3 hb4
      go_wp2_with (first
        | (refine wpList_store_kz rfl rfl _ _ _ rfl (w2.heap.size + 1) k (.int .i64 (Pk : Nat)) (by first | rfl | (simp [Act.eval]; done)) rfl _ _ (rU (k + 1)) G4 (by kernel_rfl) hf2.out rfl HPV.out ?_; intro w5 G5 q5; have B5 := q5.belowN B4 (by omega) (Nat.le_refl _); have R5 := q5.keeps (by omega) R4; have L5 := q5.keeps (by omega) L4)
        | (refine wpList_store_kz rfl rfl _ _ _ rfl w2.heap.size (2 * k + 1) (.int .i64 (Gk : Nat)) (by first | rfl | (simp [Act.eval]; done) | (simp [Act.eval]; omega)) rfl _ _ (rF (k + 1)) L5 (by kernel_rfl) hf1.out rfl HPL.out ?_; intro w6 L6 q6; have B6 := q6.belowN B5 (by omega) (Nat.le_refl _); have R6 := q6.keeps (by omega) R5; have G6 := q6.keeps (by omega) G5))
      go_roundw
      case rel => exact ⟨k + 1, by omega, by go_num, L6, G6, R6, B6⟩
      case measure => simp [intOf]; omega
    · obtain rfl : k = M := by omega
      have HNB := hidK (HNA.out w2.heap.size (w2.heap.size + 1) wr hLx hGx)
      clear hLx hGx cw HNA HPF HPU HBF HBU HLD HGP HGA HP HG HVM
      cases ok with
      | false =>
        go_wp2_with (first
          | (go_at_call 58; refine HNB.out.mono ?_; rintro e w5 ⟨rfl, q5, _⟩; have B5 := q5.belowN hB (by omega) (Nat.le_refl _)))
        go_ret2
        exact .inl ⟨rfl, rfl, B5⟩
      | true =>
        go_wp2_with (first
          | (go_at_call 58; refine HNB.out.mono ?_; rintro e w5 ⟨rfl, q5, L5⟩; have B5 := q5.belowN hB (by omega) (Nat.le_refl _); have HL5 := hidK (L5 rfl); clear L5))
        go_ret2
        exact .inr ⟨rfl, _, by omega, rfl, HL5.out, B5⟩
end Go.Proofs.YtegjklllnegghaaGreatDoor
