
-- (index.codec).readRow: contracts.
import Derived.Test.YtegjklllnegghaaGreatDoorPC
import Derived.Test.YtegjklllnegghaaGreatDoorLD
import Derived.Test.YtegjklllnegghaaGreatDoorShelfD
import Derived.Laws.MakeOwn
import Derived.Lib.IndexBytes
namespace Go.Proofs.YtegjklllnegghaaGreatDoor
open Go.ChangeShapes Go.WideShapes Go.ChangeAt Go.RowKit
set_option linter.unusedVariables false
set_option maxRecDepth 100000
abbrev MaxLenAt (w : World) : Prop := ∃ m, w.cell? ⟨0, 0, none⟩ = some (.int .i64 m)
theorem MaxLenAt.on {w w' : World} (h : MaxLenAt w) (b : Below w.heap.size w w') : MaxLenAt w' := by
  obtain ⟨m, hm⟩ := h
  exact ⟨m, (b.cell (p := ⟨0, 0, none⟩) (World.block_lt_of_cell? _ _ hm)).trans hm⟩
theorem below_drewR {n : Nat} {a b : World} (h : Below n a b) (k : Nat) : Below n a (b.drewN k) := by
  induction k with
  | zero => exact h
  | succ k ih => exact ih.drew
theorem slice_at (s : ByteArray) (k : Nat) (z : Int) (hz : z = (k : Int)) (h : k ≤ s.size) : ∀ w, (Instr.slice 9 (.string s) (some (.int .i64 z)) none none).run Tryz.prog w = .ok (.string (strL (s.data.toList.drop k))) w := by
  subst hz
  intro w
  rw [run_slice_string_from_if w 9 s .i64 _ Tryz.underlying9, if_pos (by omega), Int.toNat_natCast, Lib.extract_from]; rfl
theorem made_ents (f : Nat → En) (n : Nat) : madeCells #[.string ⟨#[]⟩, .int .i64 0] (n * 2) = rowF f n 0 := by
  refine rowF_ext (by rw [size_madeCells]) fun i hi => ?_
  have h1 : 2 * i < n * 2 := by omega
  have h2 : 2 * i + 1 < n * 2 := by omega
  constructor
  · simp [madeCells, h1]
  · simp [madeCells, h2, show (2 * i + 1) % 2 = 1 by omega]
theorem mk_ents (f : Nat → En) (k : IntKind) (n : Nat) (hn : n ≤ 67108864) (W : World) : (Instr.makeSlice 22 (.int k n) (.int k n)).run Tryz.prog W = .ok (.slice (some ⟨W.heap.size, 0, none⟩) n n) (W.alloc (.cells (rowF f n 0) 33)) := by
  obtain ⟨i0, hi, hz0, hz1, hz2⟩ := info_parts infoE
  rw [run_make W 22 33 i0 _ Tryz.underlying22 hi hz0 k k n n (by omega) (by omega) (by rw [hz2]; omega) (by omega), hz1, Int.toNat_natCast]
  rw [show (Value.agg #[.string ⟨#[]⟩, .int .i64 0]).cells = #[.string ⟨#[]⟩, .int .i64 0] from rfl, made_ents f]
/-- what a codec's read says -/
def RSays (A : Option (List En)) (w : World) (e : Ending) (w' : World) : Prop :=
  ∃ a n c, e = .returned (.tuple #[.slice a n c, .bool A.isSome]) ∧ w'.ownsRow w.heap.size 33 2 (.slice a n c) (A.getD []).length (cellsE (A.getD [])) ∧ Below w.heap.size w w'
theorem own_full_row {w : World} {B g n : Nat} {f : Nat → En} (hg : B ≤ g) (h : w.heap[g]? = some (.cells (rowF f n n) 33 (0, 0))) (hn : n ≤ maxLen) : w.ownsRow B 33 2 (.slice (some ⟨g, 0, none⟩) n n) n (cellsE ((List.range n).map f)) := by
  refine ⟨by rw [cellsE_len]; simp, .inr ⟨g, n, _, rfl, hg, h, Nat.le_refl _, hn, rowF_size f n n, ?_⟩⟩
  rw [rowF_full, List.take_of_length_le (by rw [cellsE_len]; simp)]
set_option maxHeartbeats 8000000 in
theorem prow4_c (s : ByteArray) (w : World) (hm : s.size ≤ 67108864) (hX : MaxLenAt w) :
    Calls Tryz.prog 45 #[.agg ca1, .string s] w fun e w' => RSays (rowA s.data.toList 4) w e w' := by
  have hl : s.data.toList.length = s.size := by simp
  have no : ∀ W : World, rowA s.data.toList 4 = none → Below w.heap.size w W → RSays (rowA s.data.toList 4) w (.returned (.tuple #[.slice none 0 0, .bool false])) W := by
    intro W h hB; rw [h]; exact ⟨none, 0, 0, rfl, own_nilE _ _ _ _, hB⟩
  have HNO := hidK no
  have HL : Hid (s.data.toList.length = s.size) := hl
  have HX : Hid (MaxLenAt w) := hX
  clear no hl hX
  have R0 : (w.alloc (.cells ca1 52)).heap[w.heap.size]? = some (.cells ca1 52 (0, 0)) := heap_alloc_new w _
  by_cases hsh : s.size < 4
  · have HA : Hid (rowA s.data.toList 4 = none) := rowA_short (by rw [HL.out]; exact hsh)
    have HC : Hid (∀ w, Calls Tryz.prog 54 #[.agg ca1, .string s, .int .i64 0] w fun e w' => e = .returned (.tuple #[.int .u64 0, .bool false]) ∧ Below w.heap.size w w') := fun w => cload1_no s w hsh
    clear hsh
    go_enter Tryz.func45, Tryz.ntmps45
    go_wp2_with (first
      | (refine wpList_load_row rfl _ _ rfl w.heap.size rfl _ _ _ _ R0 Tryz.underlying52 rfl (by kernel_rfl) ?_)
      | (go_at_call 54; refine (HC.out _).mono ?_; rintro e w1 ⟨rfl, hb1⟩))
    go_ret2
    exact HNO.out _ HA.out (bel3K (bupK (Below.refl _ _) _) hb1)
  · obtain ⟨V, hV⟩ : ∃ V, V = beW s.data.toList 0 4 := ⟨_, rfl⟩
    have HV : Hid (beW s.data.toList 0 4 = V) := hV.symm
    have hV64 : V < 18446744073709551616 := by rw [hV]; exact Nat.lt_of_lt_of_le (be_w_lt _ _ _) (by decide)
    have HC : Hid (∀ w, Calls Tryz.prog 54 #[.agg ca1, .string s, .int .i64 0] w fun e w' => e = .returned (.tuple #[.int .u64 V, .bool true]) ∧ Below w.heap.size w w') := fun w => by have h := cload1_c s 0 w (by omega) (by unfold maxLen; omega); rw [HV.out] at h; exact h
    clear hV
    have hs1 := slice_at s 4 4 rfl (by omega)
    obtain ⟨rw0, hrw⟩ : ∃ rw0, rw0 = strL (s.data.toList.drop 4) := ⟨_, rfl⟩
    rw [← hrw] at hs1
    have hrz : rw0.size = s.size - 4 := by rw [hrw, strL_size, List.length_drop, HL.out]
    have HRW : Hid (rw0.data.toList = s.data.toList.drop 4) := by show _ = _; rw [hrw, strL_data]
    clear hrw
    have hq : (rw0.size : Int).tdiv 4 = ((s.size - 4) / 4 : Nat) := by
      rw [Int.tdiv_eq_ediv_of_nonneg (by omega), hrz]; omega
    have hQb : (s.size - 4) / 4 ≤ 67108864 := by omega
    by_cases hmany : (s.size - 4) / 4 < V
    · have HA : Hid (rowA s.data.toList 4 = none) := rowA_many (by rw [HL.out, HV.out]; exact hmany)
      have c2 : (((s.size - 4) / 4 : Nat) : Int) < (V : Int) := by omega
      have hrz2 : rw0.size ≤ 67108864 := by omega
      generalize (s.size - 4) / 4 = Q at *
      clear HRW hrz
      go_enter Tryz.func45, Tryz.ntmps45
      go_wp2_with (first
        | (refine wpList_load_row rfl _ _ rfl w.heap.size rfl _ _ _ _ R0 Tryz.underlying52 rfl (by kernel_rfl) ?_)
        | (go_at_call 54; refine (HC.out _).mono ?_; rintro e w1 ⟨rfl, hb1⟩; have R1 := hkeepK hb1 R0; have cw := cell_rowK R1 1 (.int .i64 4) rfl))
      go_ret2
      exact HNO.out _ HA.out (bel3K (bupK (Below.refl _ _) _) hb1)
    · have hVs : 4 * V + 4 ≤ s.size := by omega
      have HMY : Hid (¬ (s.size - 4) / 4 < V) := hmany
      have c2 : ¬ (((s.size - 4) / 4 : Nat) : Int) < (V : Int) := by omega
      clear hmany
      generalize (s.size - 4) / 4 = Q at hq c2 hQb
      have d3 : decide ((Q : Int) < (V : Int)) = false := decide_eq_false c2
      have d4 : decide (Q < V) = false := decide_eq_false (by omega)
      have hs2 := slice_at rw0 (4 * V) ((V : Int) * 4) (by omega) (by omega)
      rw [HRW.out, List.drop_drop] at hs2
      have HMK : ∀ W, (Instr.makeSlice 22 (.int .u64 V) (.int .u64 V)).run Tryz.prog W = .ok (.slice (some ⟨W.heap.size, 0, none⟩) V V) (W.alloc (.cells (rowF (enR s.data.toList 4 V) V 0) 33)) := fun W => mk_ents _ .u64 V (by omega) W
      have HLD : Hid (∀ (k : Nat) (w : World), k < V → Calls Tryz.prog 54 #[.agg ca1, .string rw0, .int .i64 ((k : Int) * 4)] w fun e w' => e = .returned (.tuple #[.int .u64 (beW s.data.toList (4 + 4 * k) 4), .bool true]) ∧ Below w.heap.size w w') := fun k w hk => by
        have h := cload1_c rw0 (4 * k) w (by omega) (by unfold maxLen; omega)
        rw [HRW.out, beW_drop, show ((4 * k : Nat) : Int) = (k : Int) * 4 by omega] at h; exact h
      have HVs := hidK hVs
      go_enter Tryz.func45, Tryz.ntmps45
      go_wp2_with (first
        | (refine wpList_load_row rfl _ _ rfl w.heap.size rfl _ _ _ _ R0 Tryz.underlying52 rfl (by kernel_rfl) ?_)
        | (go_at_call 54; refine (HC.out _).mono ?_; rintro e w1 ⟨rfl, hb1⟩; have R1 := hkeepK hb1 R0; have cw := cell_rowK R1 1 (.int .i64 4) rfl))
      have B1 := bel3K (bupK (Below.refl w.heap.size w) (.cells ca1 52)) hb1
      have l1 := (Array.getElem?_eq_some_iff.1 R1).1
      go_loopw [9, 48] (fun nv i wx => ∃ (k p : Nat), k ≤ V ∧ i = .int .i64 k ∧ nv = .string (strL (s.data.toList.drop p)) ∧ p ≤ s.size ∧ rowP s.data.toList 4 V k = some p ∧ wx.heap[w1.heap.size]? = some (.cells (rowF (enR s.data.toList 4 V) V k) 33 (0, 0)) ∧ wx.heap[w.heap.size]? = some (.cells ca1 52 (0, 0)) ∧ Below w.heap.size w wx) (fun _ i _ => V - (intOf i).toNat)
      case atStart => exact ⟨0, 4 + 4 * V, Nat.zero_le _, rfl, rfl, by omega, rfl, heap_alloc_new _ _, hupK R1 _, bupK B1 _⟩
      case round =>
        obtain ⟨k, p, hk, rfl, rfl, hps, hP, hG, hR, hB⟩ := hrel
        have HP := hidK hP
        clear hP
        have hwl := (Array.getElem?_eq_some_iff.1 hG).1
        have cw := cell_rowK hR 1 (.int .i64 4) rfl
        by_cases hlt : k < V
        · have HLK := hidK (fun w => HLD.out k w hlt)
          have bv : beW s.data.toList (4 + 4 * k) 4 < 18446744073709551616 := Nat.lt_of_lt_of_le (be_w_lt _ _ _) (by decide)
          have HCT : Hid (∀ wx : World, MaxLenAt wx → Calls Tryz.prog 55 #[.string (strL (s.data.toList.drop p)), .string ⟨#[0]⟩] wx fun e w' => e = .returned (.tuple #[.string (strL (Lib.cut (s.data.toList.drop p) [0]).1), .string (strL (Lib.cut (s.data.toList.drop p) [0]).2.1), .bool (Lib.cut (s.data.toList.drop p) [0]).2.2]) ∧ ∃ n, w' = wx.drewN n) := fun wx ⟨m, hx⟩ => by
            have h := Tryz.strings_Cut (strL (s.data.toList.drop p)) ⟨#[0]⟩ m wx (by rw [strL_size, List.length_drop, HL.out]; omega) hx
            rw [strL_data] at h; exact h
          cases hz : zAt s.data.toList p with
          | none =>
            have hnm : nmE s.data.toList p = none := by unfold nmE; rw [hz]; rfl
            have HA : Hid (rowA s.data.toList 4 = none) := rowA_stop (k := k + 1) (by rw [HV.out]; exact rowP_stop HP.out (.inl hnm)) (by rw [HV.out]; omega)
            rw [cut_no hz] at HCT
            clear hz hnm
            generalize beW s.data.toList (4 + 4 * k) 4 = G at *
            generalize strL (s.data.toList.drop p) = NV at *
            go_wp2_with (first
              | (refine wpList_load_row rfl _ _ rfl w.heap.size rfl _ _ _ _ hR Tryz.underlying52 rfl (by kernel_rfl) ?_)
              | (go_at_call 54; refine (HLK.out _).mono ?_; rintro e w2 ⟨rfl, hb2⟩; have B2 := bel3K hB hb2)
              | (go_at_call 55; refine (HCT.out _ (HX.out.on B2)).mono ?_; rintro e w3 ⟨rfl, m3, hw3⟩; subst w3; have B3 := below_drewR B2 m3))
            all_goals go_ret2
            all_goals exact HNO.out _ HA.out B3
          | some e =>
            rw [cut_yes hz] at HCT
            by_cases hgood : p < e ∧ beW s.data.toList (4 + 4 * k) 4 ≤ mostI
            · have hnm : nmE s.data.toList p = some e := by unfold nmE; rw [hz]; simp only [Option.bind_some]; rw [if_pos hgood.1]
              have HPN : Hid (rowP s.data.toList 4 V (k + 1) = some (e + 1)) := rowP_next HP.out hnm hgood.2
              obtain ⟨he1, he2, _⟩ := nmE_some hnm
              have he2 : e < s.size := by rw [HL.out] at he2; exact he2
              have HNS : Hid (strL ((s.data.toList.drop p).take (e - p)) = nmS s.data.toList p) := by show _ = _; unfold nmS; rw [hnm]; rfl
              have hzz : (nmS s.data.toList p).size = e - p := nmS_size hnm
              have HEN : Hid (enR s.data.toList 4 V k = ⟨nmS s.data.toList p, (beW s.data.toList (4 + 4 * k) 4 : Nat)⟩) := enR_at HP.out
              have HPUT : Hid (putAt (rowF (enR s.data.toList 4 V) V k) (2 * k) #[.string (nmS s.data.toList p), .int .i64 (beW s.data.toList (4 + 4 * k) 4 : Nat)] = rowF (enR s.data.toList 4 V) V (k + 1)) := rowF_put _ _ _ hlt _ _ HEN.out
              have hfit : Hid (Nat.ble (2 * k + 2) (rowF (enR s.data.toList 4 V) V k).size = true) := Nat.ble_eq_true_of_le (by rw [rowF_size]; omega)
              simp only [] at HCT
              rw [HNS.out] at HCT
              generalize nmS s.data.toList p = nm at *
              have hpI : beW s.data.toList (4 + 4 * k) 4 ≤ 9223372036854775807 := by have := hgood.2; unfold mostI at this; exact this
              have hnz : nm.size ≠ 0 := by omega
              have e0 : (nm.toList == []) = false := by rw [Lib.toList_data]; refine beq_eq_false_iff_ne.2 fun q => hnz ?_; have := congrArg List.length q; simpa using this
              clear hgood hnm hz hnz hzz HEN HNS
              generalize beW s.data.toList (4 + 4 * k) 4 = G at *
              generalize strL (s.data.toList.drop p) = NV at *
              generalize hT2 : strL (s.data.toList.drop (e + 1)) = NT at *
              have HT2 := hidK hT2
              clear hT2
              have hne : w1.heap.size ≠ w.heap.size := by omega
              go_wp2_with (first
                | (refine wpList_load_row rfl _ _ rfl w.heap.size rfl _ _ _ _ hR Tryz.underlying52 rfl (by kernel_rfl) ?_)
                | (go_at_call 54; refine (HLK.out _).mono ?_; rintro e' w2 ⟨rfl, hb2⟩; have B2 := bel3K hB hb2; have G2 := hkeepK hb2 hG; have R2 := hkeepK hb2 hR)
                | (go_at_call 55; refine (HCT.out _ (HX.out.on B2)).mono ?_; rintro e' w3 ⟨rfl, m3, hw3⟩; have B3 := below_drewR B2 m3; rw [← hw3] at B3; have G3 : w3.heap[w1.heap.size]? = some (.cells (rowF (enR s.data.toList 4 V) V k) 33 (0, 0)) := by rw [hw3]; exact G2
                   have R3 : w3.heap[w.heap.size]? = some (.cells ca1 52 (0, 0)) := by rw [hw3]; exact R2
                   clear hw3)
                | (refine wpList_store_kz rfl rfl _ _ _ rfl w1.heap.size (2 * k) (.agg #[.string nm, .int .i64 (G : Nat)]) (by first | rfl | (simp [Act.eval]; done) | (simp [Act.eval]; omega)) rfl _ _ (rowF (enR s.data.toList 4 V) V (k + 1)) G3 (by kernel_rfl) hfit.out rfl HPUT.out ?_; intro w4 G4 q4; have B4 := q4.belowN B3 (Nat.le_of_lt l1) (Nat.le_refl _); have R4 := q4.keeps (Ne.symm hne) R3))
              go_roundw
              case rel => exact ⟨k + 1, e + 1, by omega, by go_num, by rw [HT2.out], by omega, HPN.out, G4, R4, B4⟩
              case measure => simp [intOf]; omega
            · have HA : Hid (rowA s.data.toList 4 = none) := by
                refine rowA_stop (k := k + 1) ?_ (by rw [HV.out]; omega)
                rw [HV.out]
                refine rowP_stop HP.out ?_
                by_cases hpe : p < e
                · exact .inr (fun q => hgood ⟨hpe, q⟩)
                · left; unfold nmE; rw [hz]; simp only [Option.bind_some]; rw [if_neg hpe]
              have hbad : (¬ p < e) ∨ (9223372036854775807 : Int) < (beW s.data.toList (4 + 4 * k) 4 : Nat) := by
                by_cases hpe : p < e
                · right
                  have : ¬ beW s.data.toList (4 + 4 * k) 4 ≤ mostI := fun q => hgood ⟨hpe, q⟩
                  unfold mostI at this; omega
                · exact .inl hpe
              simp only [] at HCT
              clear hgood
              rcases hbad with hpe | hbig
              · have hE : strL ((s.data.toList.drop p).take (e - p)) = ⟨#[]⟩ := by rw [show e - p = 0 by omega]; rfl
                rw [hE] at HCT
                clear hz hE hpe
                generalize beW s.data.toList (4 + 4 * k) 4 = G at *
                generalize strL (s.data.toList.drop p) = NV at *
                generalize strL (s.data.toList.drop (e + 1)) = NT at *
                go_wp2_with (first
                  | (refine wpList_load_row rfl _ _ rfl w.heap.size rfl _ _ _ _ hR Tryz.underlying52 rfl (by kernel_rfl) ?_)
                  | (go_at_call 54; refine (HLK.out _).mono ?_; rintro e' w2 ⟨rfl, hb2⟩; have B2 := bel3K hB hb2)
                  | (go_at_call 55; refine (HCT.out _ (HX.out.on B2)).mono ?_; rintro e' w3 ⟨rfl, m3, hw3⟩; subst w3; have B3 := below_drewR B2 m3))
                all_goals go_ret2
                all_goals exact HNO.out _ HA.out B3
              · clear hz
                generalize beW s.data.toList (4 + 4 * k) 4 = G at *
                generalize strL ((s.data.toList.drop p).take (e - p)) = NM at *
                generalize strL (s.data.toList.drop p) = NV at *
                generalize strL (s.data.toList.drop (e + 1)) = NT at *
                go_wp2_with (first
                  | (refine wpList_load_row rfl _ _ rfl w.heap.size rfl _ _ _ _ hR Tryz.underlying52 rfl (by kernel_rfl) ?_)
                  | (go_at_call 54; refine (HLK.out _).mono ?_; rintro e' w2 ⟨rfl, hb2⟩; have B2 := bel3K hB hb2)
                  | (go_at_call 55; refine (HCT.out _ (HX.out.on B2)).mono ?_; rintro e' w3 ⟨rfl, m3, hw3⟩; subst w3; have B3 := below_drewR B2 m3))
                all_goals go_ret2
                all_goals exact HNO.out _ HA.out B3
        · obtain rfl : k = V := by omega
          have HE : Hid (rowA s.data.toList 4 = if zerosB s.data.toList p = true then some (rowL s.data.toList 4 k) else none) := by
            have h := rowA_end (b := s.data.toList) (w := 4) (p := p) (by rw [HL.out]; exact hsh) (by rw [HL.out, HV.out]; exact HMY.out) (by rw [HV.out]; exact HP.out)
            rw [HV.out] at h; exact h
          have HTR : Hid (∀ wx : World, Calls Tryz.prog 56 #[.string (strL (s.data.toList.drop p)), .string ⟨#[0]⟩] wx fun e w' => e = .returned (.string (strL (Lib.trimB (s.data.toList.drop p) 0))) ∧ Below wx.heap.size wx w') := fun wx => by
            have h := Tryz.strings_Trim_one (strL (s.data.toList.drop p)) 0 (by decide) wx (by rw [strL_size, List.length_drop, HL.out]; omega)
            rw [strL_data] at h
            exact h.mono fun e w' ⟨he, hw⟩ => ⟨he, by rcases hw with rfl | rfl <;> first | exact Below.refl _ _ | exact (Below.refl _ _).drew⟩
          generalize strL (s.data.toList.drop p) = NV at *
          cases hz : zerosB s.data.toList p with
          | false =>
            have HA : Hid (rowA s.data.toList 4 = none) := by show _ = _; rw [HE.out, hz]; rfl
            have hne : Lib.trimB (s.data.toList.drop p) 0 ≠ [] := fun q => by rw [(trim_zero _ _).1 q] at hz; cases hz
            have e0 : ((strL (Lib.trimB (s.data.toList.drop p) 0)).toList == []) = false := by rw [Lib.toList_data, strL_data]; exact beq_eq_false_iff_ne.2 hne
            have e1 : ((strL (Lib.trimB (s.data.toList.drop p) 0)).toList != []) = true := by rw [Lib.toList_data, strL_data]; simpa using hne
            clear hne hz
            generalize strL (Lib.trimB (s.data.toList.drop p) 0) = TR at *
            go_wp2_with (first
              | (go_at_call 56; refine (HTR.out _).mono ?_; rintro e w2 ⟨rfl, hb2⟩))
            go_ret2
            exact HNO.out _ HA.out (bel3K hB hb2)
          | true =>
            have HA : Hid (rowA s.data.toList 4 = some (rowL s.data.toList 4 k)) := by show _ = _; rw [HE.out, if_pos hz]
            rw [(trim_zero _ _).2 hz, show strL [] = (⟨#[]⟩ : ByteArray) from rfl] at HTR
            clear hz
            go_wp2_with (first
              | (go_at_call 56; refine (HTR.out _).mono ?_; rintro e w2 ⟨rfl, hb2⟩; have G2 := hkeepK hb2 hG))
            go_ret2
            rw [HA.out]
            refine ⟨some ⟨w1.heap.size, 0, none⟩, k, k, rfl, ?_, bel3K hB hb2⟩
            simp only [Option.getD_some]
            rw [rowL_len]
            exact own_full_row (Nat.le_of_lt l1) G2 (by unfold maxLen; omega)
set_option maxHeartbeats 8000000 in
theorem prow8_c (s : ByteArray) (w : World) (hm : s.size ≤ 67108864) (hX : MaxLenAt w) :
    Calls Tryz.prog 45 #[.agg ca2, .string s] w fun e w' => RSays (rowA s.data.toList 8) w e w' := by
  have hl : s.data.toList.length = s.size := by simp
  have no : ∀ W : World, rowA s.data.toList 8 = none → Below w.heap.size w W → RSays (rowA s.data.toList 8) w (.returned (.tuple #[.slice none 0 0, .bool false])) W := by
    intro W h hB; rw [h]; exact ⟨none, 0, 0, rfl, own_nilE _ _ _ _, hB⟩
  have HNO := hidK no
  have HL : Hid (s.data.toList.length = s.size) := hl
  have HX : Hid (MaxLenAt w) := hX
  clear no hl hX
  have R0 : (w.alloc (.cells ca2 52)).heap[w.heap.size]? = some (.cells ca2 52 (0, 0)) := heap_alloc_new w _
  by_cases hsh : s.size < 8
  · have HA : Hid (rowA s.data.toList 8 = none) := rowA_short (by rw [HL.out]; exact hsh)
    have HC : Hid (∀ w, Calls Tryz.prog 54 #[.agg ca2, .string s, .int .i64 0] w fun e w' => e = .returned (.tuple #[.int .u64 0, .bool false]) ∧ Below w.heap.size w w') := fun w => cload2_no s w hsh
    clear hsh
    go_enter Tryz.func45, Tryz.ntmps45
    go_wp2_with (first
      | (refine wpList_load_row rfl _ _ rfl w.heap.size rfl _ _ _ _ R0 Tryz.underlying52 rfl (by kernel_rfl) ?_)
      | (go_at_call 54; refine (HC.out _).mono ?_; rintro e w1 ⟨rfl, hb1⟩))
    go_ret2
    exact HNO.out _ HA.out (bel3K (bupK (Below.refl _ _) _) hb1)
  · obtain ⟨V, hV⟩ : ∃ V, V = beW s.data.toList 0 8 := ⟨_, rfl⟩
    have HV : Hid (beW s.data.toList 0 8 = V) := hV.symm
    have hV64 : V < 18446744073709551616 := by rw [hV]; exact Nat.lt_of_lt_of_le (be_w_lt _ _ _) (by decide)
    have HC : Hid (∀ w, Calls Tryz.prog 54 #[.agg ca2, .string s, .int .i64 0] w fun e w' => e = .returned (.tuple #[.int .u64 V, .bool true]) ∧ Below w.heap.size w w') := fun w => by have h := cload2_c s 0 w (by omega) (by unfold maxLen; omega); rw [HV.out] at h; exact h
    clear hV
    have hs1 := slice_at s 8 8 rfl (by omega)
    obtain ⟨rw0, hrw⟩ : ∃ rw0, rw0 = strL (s.data.toList.drop 8) := ⟨_, rfl⟩
    rw [← hrw] at hs1
    have hrz : rw0.size = s.size - 8 := by rw [hrw, strL_size, List.length_drop, HL.out]
    have HRW : Hid (rw0.data.toList = s.data.toList.drop 8) := by show _ = _; rw [hrw, strL_data]
    clear hrw
    have hq : (rw0.size : Int).tdiv 8 = ((s.size - 8) / 8 : Nat) := by
      rw [Int.tdiv_eq_ediv_of_nonneg (by omega), hrz]; omega
    have hQb : (s.size - 8) / 8 ≤ 67108864 := by omega
    by_cases hmany : (s.size - 8) / 8 < V
    · have HA : Hid (rowA s.data.toList 8 = none) := rowA_many (by rw [HL.out, HV.out]; exact hmany)
      have c2 : (((s.size - 8) / 8 : Nat) : Int) < (V : Int) := by omega
      have hrz2 : rw0.size ≤ 67108864 := by omega
      generalize (s.size - 8) / 8 = Q at *
      clear HRW hrz
      go_enter Tryz.func45, Tryz.ntmps45
      go_wp2_with (first
        | (refine wpList_load_row rfl _ _ rfl w.heap.size rfl _ _ _ _ R0 Tryz.underlying52 rfl (by kernel_rfl) ?_)
        | (go_at_call 54; refine (HC.out _).mono ?_; rintro e w1 ⟨rfl, hb1⟩; have R1 := hkeepK hb1 R0; have cw := cell_rowK R1 1 (.int .i64 8) rfl))
      go_ret2
      exact HNO.out _ HA.out (bel3K (bupK (Below.refl _ _) _) hb1)
    · have hVs : 8 * V + 8 ≤ s.size := by omega
      have HMY : Hid (¬ (s.size - 8) / 8 < V) := hmany
      have c2 : ¬ (((s.size - 8) / 8 : Nat) : Int) < (V : Int) := by omega
      clear hmany
      generalize (s.size - 8) / 8 = Q at hq c2 hQb
      have d3 : decide ((Q : Int) < (V : Int)) = false := decide_eq_false c2
      have d4 : decide (Q < V) = false := decide_eq_false (by omega)
      have hs2 := slice_at rw0 (8 * V) ((V : Int) * 8) (by omega) (by omega)
      rw [HRW.out, List.drop_drop] at hs2
      have HMK : ∀ W, (Instr.makeSlice 22 (.int .u64 V) (.int .u64 V)).run Tryz.prog W = .ok (.slice (some ⟨W.heap.size, 0, none⟩) V V) (W.alloc (.cells (rowF (enR s.data.toList 8 V) V 0) 33)) := fun W => mk_ents _ .u64 V (by omega) W
      have HLD : Hid (∀ (k : Nat) (w : World), k < V → Calls Tryz.prog 54 #[.agg ca2, .string rw0, .int .i64 ((k : Int) * 8)] w fun e w' => e = .returned (.tuple #[.int .u64 (beW s.data.toList (8 + 8 * k) 8), .bool true]) ∧ Below w.heap.size w w') := fun k w hk => by
        have h := cload2_c rw0 (8 * k) w (by omega) (by unfold maxLen; omega)
        rw [HRW.out, beW_drop, show ((8 * k : Nat) : Int) = (k : Int) * 8 by omega] at h; exact h
      have HVs := hidK hVs
      go_enter Tryz.func45, Tryz.ntmps45
      go_wp2_with (first
        | (refine wpList_load_row rfl _ _ rfl w.heap.size rfl _ _ _ _ R0 Tryz.underlying52 rfl (by kernel_rfl) ?_)
        | (go_at_call 54; refine (HC.out _).mono ?_; rintro e w1 ⟨rfl, hb1⟩; have R1 := hkeepK hb1 R0; have cw := cell_rowK R1 1 (.int .i64 8) rfl))
      have B1 := bel3K (bupK (Below.refl w.heap.size w) (.cells ca2 52)) hb1
      have l1 := (Array.getElem?_eq_some_iff.1 R1).1
      go_loopw [9, 48] (fun nv i wx => ∃ (k p : Nat), k ≤ V ∧ i = .int .i64 k ∧ nv = .string (strL (s.data.toList.drop p)) ∧ p ≤ s.size ∧ rowP s.data.toList 8 V k = some p ∧ wx.heap[w1.heap.size]? = some (.cells (rowF (enR s.data.toList 8 V) V k) 33 (0, 0)) ∧ wx.heap[w.heap.size]? = some (.cells ca2 52 (0, 0)) ∧ Below w.heap.size w wx) (fun _ i _ => V - (intOf i).toNat)
      case atStart => exact ⟨0, 8 + 8 * V, Nat.zero_le _, rfl, rfl, by omega, rfl, heap_alloc_new _ _, hupK R1 _, bupK B1 _⟩
      case round =>
        obtain ⟨k, p, hk, rfl, rfl, hps, hP, hG, hR, hB⟩ := hrel
        have HP := hidK hP
        clear hP
        have hwl := (Array.getElem?_eq_some_iff.1 hG).1
        have cw := cell_rowK hR 1 (.int .i64 8) rfl
        by_cases hlt : k < V
        · have HLK := hidK (fun w => HLD.out k w hlt)
          have bv : beW s.data.toList (8 + 8 * k) 8 < 18446744073709551616 := Nat.lt_of_lt_of_le (be_w_lt _ _ _) (by decide)
          have HCT : Hid (∀ wx : World, MaxLenAt wx → Calls Tryz.prog 55 #[.string (strL (s.data.toList.drop p)), .string ⟨#[0]⟩] wx fun e w' => e = .returned (.tuple #[.string (strL (Lib.cut (s.data.toList.drop p) [0]).1), .string (strL (Lib.cut (s.data.toList.drop p) [0]).2.1), .bool (Lib.cut (s.data.toList.drop p) [0]).2.2]) ∧ ∃ n, w' = wx.drewN n) := fun wx ⟨m, hx⟩ => by
            have h := Tryz.strings_Cut (strL (s.data.toList.drop p)) ⟨#[0]⟩ m wx (by rw [strL_size, List.length_drop, HL.out]; omega) hx
            rw [strL_data] at h; exact h
          cases hz : zAt s.data.toList p with
          | none =>
            have hnm : nmE s.data.toList p = none := by unfold nmE; rw [hz]; rfl
            have HA : Hid (rowA s.data.toList 8 = none) := rowA_stop (k := k + 1) (by rw [HV.out]; exact rowP_stop HP.out (.inl hnm)) (by rw [HV.out]; omega)
            rw [cut_no hz] at HCT
            clear hz hnm
            generalize beW s.data.toList (8 + 8 * k) 8 = G at *
            generalize strL (s.data.toList.drop p) = NV at *
            go_wp2_with (first
              | (refine wpList_load_row rfl _ _ rfl w.heap.size rfl _ _ _ _ hR Tryz.underlying52 rfl (by kernel_rfl) ?_)
              | (go_at_call 54; refine (HLK.out _).mono ?_; rintro e w2 ⟨rfl, hb2⟩; have B2 := bel3K hB hb2)
              | (go_at_call 55; refine (HCT.out _ (HX.out.on B2)).mono ?_; rintro e w3 ⟨rfl, m3, hw3⟩; subst w3; have B3 := below_drewR B2 m3))
            all_goals go_ret2
            all_goals exact HNO.out _ HA.out B3
          | some e =>
            rw [cut_yes hz] at HCT
            by_cases hgood : p < e ∧ beW s.data.toList (8 + 8 * k) 8 ≤ mostI
            · have hnm : nmE s.data.toList p = some e := by unfold nmE; rw [hz]; simp only [Option.bind_some]; rw [if_pos hgood.1]
              have HPN : Hid (rowP s.data.toList 8 V (k + 1) = some (e + 1)) := rowP_next HP.out hnm hgood.2
              obtain ⟨he1, he2, _⟩ := nmE_some hnm
              have he2 : e < s.size := by rw [HL.out] at he2; exact he2
              have HNS : Hid (strL ((s.data.toList.drop p).take (e - p)) = nmS s.data.toList p) := by show _ = _; unfold nmS; rw [hnm]; rfl
              have hzz : (nmS s.data.toList p).size = e - p := nmS_size hnm
              have HEN : Hid (enR s.data.toList 8 V k = ⟨nmS s.data.toList p, (beW s.data.toList (8 + 8 * k) 8 : Nat)⟩) := enR_at HP.out
              have HPUT : Hid (putAt (rowF (enR s.data.toList 8 V) V k) (2 * k) #[.string (nmS s.data.toList p), .int .i64 (beW s.data.toList (8 + 8 * k) 8 : Nat)] = rowF (enR s.data.toList 8 V) V (k + 1)) := rowF_put _ _ _ hlt _ _ HEN.out
              have hfit : Hid (Nat.ble (2 * k + 2) (rowF (enR s.data.toList 8 V) V k).size = true) := Nat.ble_eq_true_of_le (by rw [rowF_size]; omega)
              simp only [] at HCT
              rw [HNS.out] at HCT
              generalize nmS s.data.toList p = nm at *
              have hpI : beW s.data.toList (8 + 8 * k) 8 ≤ 9223372036854775807 := by have := hgood.2; unfold mostI at this; exact this
              have hnz : nm.size ≠ 0 := by omega
              have e0 : (nm.toList == []) = false := by rw [Lib.toList_data]; refine beq_eq_false_iff_ne.2 fun q => hnz ?_; have := congrArg List.length q; simpa using this
              clear hgood hnm hz hnz hzz HEN HNS
              generalize beW s.data.toList (8 + 8 * k) 8 = G at *
              generalize strL (s.data.toList.drop p) = NV at *
              generalize hT2 : strL (s.data.toList.drop (e + 1)) = NT at *
              have HT2 := hidK hT2
              clear hT2
              have hne : w1.heap.size ≠ w.heap.size := by omega
              go_wp2_with (first
                | (refine wpList_load_row rfl _ _ rfl w.heap.size rfl _ _ _ _ hR Tryz.underlying52 rfl (by kernel_rfl) ?_)
                | (go_at_call 54; refine (HLK.out _).mono ?_; rintro e' w2 ⟨rfl, hb2⟩; have B2 := bel3K hB hb2; have G2 := hkeepK hb2 hG; have R2 := hkeepK hb2 hR)
                | (go_at_call 55; refine (HCT.out _ (HX.out.on B2)).mono ?_; rintro e' w3 ⟨rfl, m3, hw3⟩; have B3 := below_drewR B2 m3; rw [← hw3] at B3; have G3 : w3.heap[w1.heap.size]? = some (.cells (rowF (enR s.data.toList 8 V) V k) 33 (0, 0)) := by rw [hw3]; exact G2
                   have R3 : w3.heap[w.heap.size]? = some (.cells ca2 52 (0, 0)) := by rw [hw3]; exact R2
                   clear hw3)
                | (refine wpList_store_kz rfl rfl _ _ _ rfl w1.heap.size (2 * k) (.agg #[.string nm, .int .i64 (G : Nat)]) (by first | rfl | (simp [Act.eval]; done) | (simp [Act.eval]; omega)) rfl _ _ (rowF (enR s.data.toList 8 V) V (k + 1)) G3 (by kernel_rfl) hfit.out rfl HPUT.out ?_; intro w4 G4 q4; have B4 := q4.belowN B3 (Nat.le_of_lt l1) (Nat.le_refl _); have R4 := q4.keeps (Ne.symm hne) R3))
              go_roundw
              case rel => exact ⟨k + 1, e + 1, by omega, by go_num, by rw [HT2.out], by omega, HPN.out, G4, R4, B4⟩
              case measure => simp [intOf]; omega
            · have HA : Hid (rowA s.data.toList 8 = none) := by
                refine rowA_stop (k := k + 1) ?_ (by rw [HV.out]; omega)
                rw [HV.out]
                refine rowP_stop HP.out ?_
                by_cases hpe : p < e
                · exact .inr (fun q => hgood ⟨hpe, q⟩)
                · left; unfold nmE; rw [hz]; simp only [Option.bind_some]; rw [if_neg hpe]
              have hbad : (¬ p < e) ∨ (9223372036854775807 : Int) < (beW s.data.toList (8 + 8 * k) 8 : Nat) := by
                by_cases hpe : p < e
                · right
                  have : ¬ beW s.data.toList (8 + 8 * k) 8 ≤ mostI := fun q => hgood ⟨hpe, q⟩
                  unfold mostI at this; omega
                · exact .inl hpe
              simp only [] at HCT
              clear hgood
              rcases hbad with hpe | hbig
              · have hE : strL ((s.data.toList.drop p).take (e - p)) = ⟨#[]⟩ := by rw [show e - p = 0 by omega]; rfl
                rw [hE] at HCT
                clear hz hE hpe
                generalize beW s.data.toList (8 + 8 * k) 8 = G at *
                generalize strL (s.data.toList.drop p) = NV at *
                generalize strL (s.data.toList.drop (e + 1)) = NT at *
                go_wp2_with (first
                  | (refine wpList_load_row rfl _ _ rfl w.heap.size rfl _ _ _ _ hR Tryz.underlying52 rfl (by kernel_rfl) ?_)
                  | (go_at_call 54; refine (HLK.out _).mono ?_; rintro e' w2 ⟨rfl, hb2⟩; have B2 := bel3K hB hb2)
                  | (go_at_call 55; refine (HCT.out _ (HX.out.on B2)).mono ?_; rintro e' w3 ⟨rfl, m3, hw3⟩; subst w3; have B3 := below_drewR B2 m3))
                all_goals go_ret2
                all_goals exact HNO.out _ HA.out B3
              · clear hz
                generalize beW s.data.toList (8 + 8 * k) 8 = G at *
                generalize strL ((s.data.toList.drop p).take (e - p)) = NM at *
                generalize strL (s.data.toList.drop p) = NV at *
                generalize strL (s.data.toList.drop (e + 1)) = NT at *
                go_wp2_with (first
                  | (refine wpList_load_row rfl _ _ rfl w.heap.size rfl _ _ _ _ hR Tryz.underlying52 rfl (by kernel_rfl) ?_)
                  | (go_at_call 54; refine (HLK.out _).mono ?_; rintro e' w2 ⟨rfl, hb2⟩; have B2 := bel3K hB hb2)
                  | (go_at_call 55; refine (HCT.out _ (HX.out.on B2)).mono ?_; rintro e' w3 ⟨rfl, m3, hw3⟩; subst w3; have B3 := below_drewR B2 m3))
                all_goals go_ret2
                all_goals exact HNO.out _ HA.out B3
        · obtain rfl : k = V := by omega
          have HE : Hid (rowA s.data.toList 8 = if zerosB s.data.toList p = true then some (rowL s.data.toList 8 k) else none) := by
            have h := rowA_end (b := s.data.toList) (w := 8) (p := p) (by rw [HL.out]; exact hsh) (by rw [HL.out, HV.out]; exact HMY.out) (by rw [HV.out]; exact HP.out)
            rw [HV.out] at h; exact h
          have HTR : Hid (∀ wx : World, Calls Tryz.prog 56 #[.string (strL (s.data.toList.drop p)), .string ⟨#[0]⟩] wx fun e w' => e = .returned (.string (strL (Lib.trimB (s.data.toList.drop p) 0))) ∧ Below wx.heap.size wx w') := fun wx => by
            have h := Tryz.strings_Trim_one (strL (s.data.toList.drop p)) 0 (by decide) wx (by rw [strL_size, List.length_drop, HL.out]; omega)
            rw [strL_data] at h
            exact h.mono fun e w' ⟨he, hw⟩ => ⟨he, by rcases hw with rfl | rfl <;> first | exact Below.refl _ _ | exact (Below.refl _ _).drew⟩
          generalize strL (s.data.toList.drop p) = NV at *
          cases hz : zerosB s.data.toList p with
          | false =>
            have HA : Hid (rowA s.data.toList 8 = none) := by show _ = _; rw [HE.out, hz]; rfl
            have hne : Lib.trimB (s.data.toList.drop p) 0 ≠ [] := fun q => by rw [(trim_zero _ _).1 q] at hz; cases hz
            have e0 : ((strL (Lib.trimB (s.data.toList.drop p) 0)).toList == []) = false := by rw [Lib.toList_data, strL_data]; exact beq_eq_false_iff_ne.2 hne
            have e1 : ((strL (Lib.trimB (s.data.toList.drop p) 0)).toList != []) = true := by rw [Lib.toList_data, strL_data]; simpa using hne
            clear hne hz
            generalize strL (Lib.trimB (s.data.toList.drop p) 0) = TR at *
            go_wp2_with (first
              | (go_at_call 56; refine (HTR.out _).mono ?_; rintro e w2 ⟨rfl, hb2⟩))
            go_ret2
            exact HNO.out _ HA.out (bel3K hB hb2)
          | true =>
            have HA : Hid (rowA s.data.toList 8 = some (rowL s.data.toList 8 k)) := by show _ = _; rw [HE.out, if_pos hz]
            rw [(trim_zero _ _).2 hz, show strL [] = (⟨#[]⟩ : ByteArray) from rfl] at HTR
            clear hz
            go_wp2_with (first
              | (go_at_call 56; refine (HTR.out _).mono ?_; rintro e w2 ⟨rfl, hb2⟩; have G2 := hkeepK hb2 hG))
            go_ret2
            rw [HA.out]
            refine ⟨some ⟨w1.heap.size, 0, none⟩, k, k, rfl, ?_, bel3K hB hb2⟩
            simp only [Option.getD_some]
            rw [rowL_len]
            exact own_full_row (Nat.le_of_lt l1) G2 (by unfold maxLen; omega)
end Go.Proofs.YtegjklllnegghaaGreatDoor
