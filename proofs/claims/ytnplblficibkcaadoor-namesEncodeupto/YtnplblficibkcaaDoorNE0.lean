
-- NamesEncode's walk: no names.
import Derived.Test.YtnplblficibkcaaDoorNE
import Derived.Laws.AppendOwnNone
import Derived.WalkSmall
namespace Go.Proofs.YtnplblficibkcaaDoor
open Go.ChangeShapes Go.WideShapes Go.ChangeAt Go.RowKit
set_option linter.unusedVariables false
set_option maxRecDepth 100000

theorem first_cell {c : Nat} {cur : Array Value} {x : Value} (hs : cur.size = c * 1) (hc : 0 + 1 ≤ c) (ht : cur.toList.take ((0 + 1) * 1) = [] ++ [x]) : cur[0]? = some x := by
  have h : (cur.toList.take 1)[0]? = some x := by rw [show (1 : Nat) = (0 + 1) * 1 from rfl, ht]; rfl
  rw [List.getElem?_take_of_lt (by decide)] at h
  simpa using h
set_option maxHeartbeats 4000000 in
theorem ne_none (k : Int) (w : World) (hT : Tabs w) :
    Calls Tryd.prog 3 #[.int .i64 k, .slice none 0 0] w fun e w' => e = .returned (.bool true) ∧ Below w.heap.size w w' := by
  obtain ⟨i9, hi9, hz9, hs9, hb9⟩ := info_parts info9R
  have HP : Hid (∀ (v : Value) (L : List ByteArray) (wx : World), RowS wx v L → tot L ≤ 1099999 → Below w.heap.size w wx → Calls Tryd.prog 5 #[.int .i64 k, v] wx fun e w' => EncSays (encA k L) wx e w') := fun v L wx h1 h2 h3 => pencA_c k v L wx h1 h2 (hT.on h3)
  have HR : Hid (∀ (v : Value) (L : List ByteArray) (wx : World), RowS wx v L → tot L ≤ 1099999 → Below w.heap.size w wx → Calls Tryd.prog 6 #[.int .i64 k, v] wx fun e w' => EncSays (encA k L) wx e w') := fun v L wx h1 h2 h3 => rencA_c k v L wx h1 h2 (hT.on h3)
  have HNm : Hid (∀ (n : Int) (w : World), Calls Tryd.prog 8 #[.int .i64 n] w fun e w' => e = .returned (.int .i64 n) ∧ w' = w) := fun n w => num_cN n w
  have HLN0 : Hid ((encA k []).f.length ≤ 4194304 ∧ (encA k []).i.length ≤ 4194304) := by have := encA_len k []; simp only [List.length_nil] at this; exact ⟨by omega, by omega⟩
  clear hT
  go_enter Tryd.func3, Tryd.ntmps3
  go_wp2_with first
    | (refine wpList_append_own_none rfl (.const (.slice none 0 0)) (.tmp 16) 22 rfl w.heap.size 9 i9 1 Tryd.underlying22 hi9 (.slice none 0 0) 0 [] rfl ⟨rfl, .inl ⟨rfl, rfl⟩⟩ rfl ?_; have hB1 : Below w.heap.size w w := Below.refl _ _)
    | (refine wpList_append_own _ rfl (.tmp 18) (.tmp 19) 22 rfl w.heap.size 9 i9 (.string ⟨#[]⟩) 1 16 Tryd.underlying22 hi9 hz9 hs9 hb9 rfl (by decide) (.slice none 0 0) 0 [] rfl ⟨rfl, .inl ⟨rfl, rfl⟩⟩ ⟨w.heap.size, 0, none⟩ 1 1 [.string ⟨#[98, 101, 104, 105, 110, 100]⟩] rfl rfl (new_rowK w #[.string ⟨#[98, 101, 104, 105, 110, 100]⟩] 9 _ rfl) (by intro u hu; simp at hu; subst hu; rfl) (by unfold maxLen; omega) (by omega) (bupK hB1 (.cells #[.string ⟨#[98, 101, 104, 105, 110, 100]⟩] 9)).size ?_; intro v2 w2 o2 g2 _; have hB2 : Below w.heap.size w w2 := (bupK hB1 (.cells #[.string ⟨#[98, 101, 104, 105, 110, 100]⟩] 9)).trans ((Below.refl _ _).grown g2 (bupK hB1 (.cells #[.string ⟨#[98, 101, 104, 105, 110, 100]⟩] 9)).size (fun q hq => by cases hq)); obtain ⟨g, c2, cur, rfl, hgb, hgr, hgc, hgm, hgs, hgt⟩ := own_full o2; have HFULL := hidK (first_cell hgs hgc hgt); have hgl : g < w2.heap.size := (Array.getElem?_eq_some_iff.1 hgr).1; clear hgt o2)
  have G_0 := hgr
  have B_0 := hB2
  go_wp2_with first
    | (go_at_call 9; refine (same_c _ _ [] [] _ (.inl ⟨rfl, _, _, rfl⟩) (.inl ⟨rfl, _, _, rfl⟩) (by decide) (by decide)).mono ?_; rintro e wa ⟨he, m6, hwa⟩; rw [decide_eq_true (rfl : ([] : List ByteArray) = [])] at he; subst he; subst wa; have B_4 := below_drewK B_3 m6; have fullc := cell_rowK G_3 0 _ HFULL.out)
    | (go_at_call 7; refine (alike_c (.slice fa1 fl1 fc1) (.slice fa2 fl2 fc2) (.slice ia1 il1 ic1) (.slice ia2 il2 ic2) (encA k []).t _ ⟨_, rF1_2, rF2_2, HLN0.out.1⟩ ⟨_, rI1_2, rI2_2, HLN0.out.2⟩).mono ?_; rintro e w13 ⟨rfl, hb3⟩; have SZ3 := hb3.size; have G_3 := hkeepK hb3 G_2; have K1_3 := hkeepK hb3 K1_2; have K2_3 := hkeepK hb3 K2_2; have rF1_3 := (rF1_2).on hb3; have rI1_3 := (rI1_2).on hb3; have rF2_3 := (rF2_2).on hb3; have rI2_3 := (rI2_2).on hb3; have B_3 := bel3K B_2 hb3; have c10_3 := cell_rowK K1_3 0 _ rfl; have c11_3 := cell_rowK K1_3 1 _ rfl; have c12_3 := cell_rowK K1_3 2 _ rfl; have c20_3 := cell_rowK K2_3 0 _ rfl; have c21_3 := cell_rowK K2_3 1 _ rfl; have c22_3 := cell_rowK K2_3 2 _ rfl)
    | (go_at_call 6; refine (HR.out _ [] _ (.inl ⟨rfl, _, _, rfl⟩) (by decide) B_1).mono ?_; rintro e w12 ⟨fa2, fl2, fc2, ia2, il2, ic2, rfl, rF2, rI2, hb2, nF2, nI2⟩; have SZ2 := hb2.size; have G_2 := hupK (hkeepK hb2 G_1) (.cells #[.slice fa2 fl2 fc2, .slice ia2 il2 ic2, .string (encA k []).t] 24); have K1_2 := hupK (hkeepK hb2 K1_1) (.cells #[.slice fa2 fl2 fc2, .slice ia2 il2 ic2, .string (encA k []).t] 24); have rF1_2 := ((rF1_1).on hb2).on (bupK (Below.refl _ _) (.cells #[.slice fa2 fl2 fc2, .slice ia2 il2 ic2, .string (encA k []).t] 24)); have rI1_2 := ((rI1_1).on hb2).on (bupK (Below.refl _ _) (.cells #[.slice fa2 fl2 fc2, .slice ia2 il2 ic2, .string (encA k []).t] 24)); have B_2 := bupK (bel3K B_1 hb2) (.cells #[.slice fa2 fl2 fc2, .slice ia2 il2 ic2, .string (encA k []).t] 24); have K2_2 := heap_alloc_new w12 (.cells #[.slice fa2 fl2 fc2, .slice ia2 il2 ic2, .string (encA k []).t] 24); have rF2_2 := (rF2).on (bupK (Below.refl _ _) (.cells #[.slice fa2 fl2 fc2, .slice ia2 il2 ic2, .string (encA k []).t] 24)); have rI2_2 := (rI2).on (bupK (Below.refl _ _) (.cells #[.slice fa2 fl2 fc2, .slice ia2 il2 ic2, .string (encA k []).t] 24)); have ZL2 : w12.heap.size < (w12.alloc (.cells #[.slice fa2 fl2 fc2, .slice ia2 il2 ic2, .string (encA k []).t] 24)).heap.size := (Array.getElem?_eq_some_iff.1 K2_2).1; have c10_2 := cell_rowK K1_2 0 _ rfl; have c11_2 := cell_rowK K1_2 1 _ rfl; have c12_2 := cell_rowK K1_2 2 _ rfl; have c20_2 := cell_rowK K2_2 0 _ rfl; have c21_2 := cell_rowK K2_2 1 _ rfl; have c22_2 := cell_rowK K2_2 2 _ rfl)
    | (go_at_call 5; refine (HP.out _ [] _ (.inl ⟨rfl, _, _, rfl⟩) (by decide) B_0).mono ?_; rintro e w11 ⟨fa1, fl1, fc1, ia1, il1, ic1, rfl, rF1, rI1, hb1, nF1, nI1⟩; have SZ1 := hb1.size; have G_1 := hupK (hkeepK hb1 G_0) (.cells #[.slice fa1 fl1 fc1, .slice ia1 il1 ic1, .string (encA k []).t] 24); have B_1 := bupK (bel3K B_0 hb1) (.cells #[.slice fa1 fl1 fc1, .slice ia1 il1 ic1, .string (encA k []).t] 24); have K1_1 := heap_alloc_new w11 (.cells #[.slice fa1 fl1 fc1, .slice ia1 il1 ic1, .string (encA k []).t] 24); have rF1_1 := (rF1).on (bupK (Below.refl _ _) (.cells #[.slice fa1 fl1 fc1, .slice ia1 il1 ic1, .string (encA k []).t] 24)); have rI1_1 := (rI1).on (bupK (Below.refl _ _) (.cells #[.slice fa1 fl1 fc1, .slice ia1 il1 ic1, .string (encA k []).t] 24)); have ZL1 : w11.heap.size < (w11.alloc (.cells #[.slice fa1 fl1 fc1, .slice ia1 il1 ic1, .string (encA k []).t] 24)).heap.size := (Array.getElem?_eq_some_iff.1 K1_1).1; have c10_1 := cell_rowK K1_1 0 _ rfl; have c11_1 := cell_rowK K1_1 1 _ rfl; have c12_1 := cell_rowK K1_1 2 _ rfl)
    | (go_at_call 8; refine (HNm.out _ _).mono ?_; rintro e wa ⟨rfl, hwa⟩; subst wa)
  go_ret
  exact ⟨rfl, B_4⟩
set_option maxHeartbeats 4000000 in
theorem ne_zero (k : Int) (ad : Addr) (cap : Nat) (w : World) (hT : Tabs w) :
    Calls Tryd.prog 3 #[.int .i64 k, .slice (some ad) 0 cap] w fun e w' => e = .returned (.bool true) ∧ Below w.heap.size w w' := by
  obtain ⟨i9, hi9, hz9, hs9, hb9⟩ := info_parts info9R
  have HP : Hid (∀ (v : Value) (L : List ByteArray) (wx : World), RowS wx v L → tot L ≤ 1099999 → Below w.heap.size w wx → Calls Tryd.prog 5 #[.int .i64 k, v] wx fun e w' => EncSays (encA k L) wx e w') := fun v L wx h1 h2 h3 => pencA_c k v L wx h1 h2 (hT.on h3)
  have HR : Hid (∀ (v : Value) (L : List ByteArray) (wx : World), RowS wx v L → tot L ≤ 1099999 → Below w.heap.size w wx → Calls Tryd.prog 6 #[.int .i64 k, v] wx fun e w' => EncSays (encA k L) wx e w') := fun v L wx h1 h2 h3 => rencA_c k v L wx h1 h2 (hT.on h3)
  have HNm : Hid (∀ (n : Int) (w : World), Calls Tryd.prog 8 #[.int .i64 n] w fun e w' => e = .returned (.int .i64 n) ∧ w' = w) := fun n w => num_cN n w
  have HLN0 : Hid ((encA k []).f.length ≤ 4194304 ∧ (encA k []).i.length ≤ 4194304) := by have := encA_len k []; simp only [List.length_nil] at this; exact ⟨by omega, by omega⟩
  clear hT
  go_enter Tryd.func3, Tryd.ntmps3
  go_wp2_with first
    | (refine wpList_append_own _ rfl (.const (.slice none 0 0)) (.tmp 16) 22 rfl w.heap.size 9 i9 (.string ⟨#[]⟩) 1 16 Tryd.underlying22 hi9 hz9 hs9 hb9 rfl (by decide) (.slice none 0 0) 0 [] rfl ⟨rfl, .inl ⟨rfl, rfl⟩⟩ ad 0 cap [] rfl rfl (fun j u h => by simp at h) (fun u h => by simp at h) (by unfold maxLen; omega) (by omega) (Nat.le_refl _) ?_; intro v1 w1 o1 g1 hn1; have hB1 : Below w.heap.size w w1 := (Below.refl _ _).grown g1 (Nat.le_refl _) (fun q hq => by cases hq); obtain rfl := hn1.2 ⟨rfl, rfl⟩; clear o1 hn1)
    | (refine wpList_append_own _ rfl (.tmp 18) (.tmp 19) 22 rfl w.heap.size 9 i9 (.string ⟨#[]⟩) 1 16 Tryd.underlying22 hi9 hz9 hs9 hb9 rfl (by decide) (.slice none 0 0) 0 [] rfl ⟨rfl, .inl ⟨rfl, rfl⟩⟩ ⟨w1.heap.size, 0, none⟩ 1 1 [.string ⟨#[98, 101, 104, 105, 110, 100]⟩] rfl rfl (new_rowK w1 #[.string ⟨#[98, 101, 104, 105, 110, 100]⟩] 9 _ rfl) (by intro u hu; simp at hu; subst hu; rfl) (by unfold maxLen; omega) (by omega) (bupK hB1 (.cells #[.string ⟨#[98, 101, 104, 105, 110, 100]⟩] 9)).size ?_; intro v2 w2 o2 g2 _; have hB2 : Below w.heap.size w w2 := (bupK hB1 (.cells #[.string ⟨#[98, 101, 104, 105, 110, 100]⟩] 9)).trans ((Below.refl _ _).grown g2 (bupK hB1 (.cells #[.string ⟨#[98, 101, 104, 105, 110, 100]⟩] 9)).size (fun q hq => by cases hq)); obtain ⟨g, c2, cur, rfl, hgb, hgr, hgc, hgm, hgs, hgt⟩ := own_full o2; have HFULL := hidK (first_cell hgs hgc hgt); have hgl : g < w2.heap.size := (Array.getElem?_eq_some_iff.1 hgr).1; clear hgt o2)
  have G_0 := hgr
  have B_0 := hB2
  go_wp2_with first
    | (go_at_call 9; refine (same_c _ _ [] [] _ (.inl ⟨rfl, _, _, rfl⟩) (.inl ⟨rfl, _, _, rfl⟩) (by decide) (by decide)).mono ?_; rintro e wa ⟨he, m6, hwa⟩; rw [decide_eq_true (rfl : ([] : List ByteArray) = [])] at he; subst he; subst wa; have B_4 := below_drewK B_3 m6; have fullc := cell_rowK G_3 0 _ HFULL.out)
    | (go_at_call 7; refine (alike_c (.slice fa1 fl1 fc1) (.slice fa2 fl2 fc2) (.slice ia1 il1 ic1) (.slice ia2 il2 ic2) (encA k []).t _ ⟨_, rF1_2, rF2_2, HLN0.out.1⟩ ⟨_, rI1_2, rI2_2, HLN0.out.2⟩).mono ?_; rintro e w13 ⟨rfl, hb3⟩; have SZ3 := hb3.size; have G_3 := hkeepK hb3 G_2; have K1_3 := hkeepK hb3 K1_2; have K2_3 := hkeepK hb3 K2_2; have rF1_3 := (rF1_2).on hb3; have rI1_3 := (rI1_2).on hb3; have rF2_3 := (rF2_2).on hb3; have rI2_3 := (rI2_2).on hb3; have B_3 := bel3K B_2 hb3; have c10_3 := cell_rowK K1_3 0 _ rfl; have c11_3 := cell_rowK K1_3 1 _ rfl; have c12_3 := cell_rowK K1_3 2 _ rfl; have c20_3 := cell_rowK K2_3 0 _ rfl; have c21_3 := cell_rowK K2_3 1 _ rfl; have c22_3 := cell_rowK K2_3 2 _ rfl)
    | (go_at_call 6; refine (HR.out _ [] _ (.inl ⟨rfl, _, _, rfl⟩) (by decide) B_1).mono ?_; rintro e w12 ⟨fa2, fl2, fc2, ia2, il2, ic2, rfl, rF2, rI2, hb2, nF2, nI2⟩; have SZ2 := hb2.size; have G_2 := hupK (hkeepK hb2 G_1) (.cells #[.slice fa2 fl2 fc2, .slice ia2 il2 ic2, .string (encA k []).t] 24); have K1_2 := hupK (hkeepK hb2 K1_1) (.cells #[.slice fa2 fl2 fc2, .slice ia2 il2 ic2, .string (encA k []).t] 24); have rF1_2 := ((rF1_1).on hb2).on (bupK (Below.refl _ _) (.cells #[.slice fa2 fl2 fc2, .slice ia2 il2 ic2, .string (encA k []).t] 24)); have rI1_2 := ((rI1_1).on hb2).on (bupK (Below.refl _ _) (.cells #[.slice fa2 fl2 fc2, .slice ia2 il2 ic2, .string (encA k []).t] 24)); have B_2 := bupK (bel3K B_1 hb2) (.cells #[.slice fa2 fl2 fc2, .slice ia2 il2 ic2, .string (encA k []).t] 24); have K2_2 := heap_alloc_new w12 (.cells #[.slice fa2 fl2 fc2, .slice ia2 il2 ic2, .string (encA k []).t] 24); have rF2_2 := (rF2).on (bupK (Below.refl _ _) (.cells #[.slice fa2 fl2 fc2, .slice ia2 il2 ic2, .string (encA k []).t] 24)); have rI2_2 := (rI2).on (bupK (Below.refl _ _) (.cells #[.slice fa2 fl2 fc2, .slice ia2 il2 ic2, .string (encA k []).t] 24)); have ZL2 : w12.heap.size < (w12.alloc (.cells #[.slice fa2 fl2 fc2, .slice ia2 il2 ic2, .string (encA k []).t] 24)).heap.size := (Array.getElem?_eq_some_iff.1 K2_2).1; have c10_2 := cell_rowK K1_2 0 _ rfl; have c11_2 := cell_rowK K1_2 1 _ rfl; have c12_2 := cell_rowK K1_2 2 _ rfl; have c20_2 := cell_rowK K2_2 0 _ rfl; have c21_2 := cell_rowK K2_2 1 _ rfl; have c22_2 := cell_rowK K2_2 2 _ rfl)
    | (go_at_call 5; refine (HP.out _ [] _ (.inl ⟨rfl, _, _, rfl⟩) (by decide) B_0).mono ?_; rintro e w11 ⟨fa1, fl1, fc1, ia1, il1, ic1, rfl, rF1, rI1, hb1, nF1, nI1⟩; have SZ1 := hb1.size; have G_1 := hupK (hkeepK hb1 G_0) (.cells #[.slice fa1 fl1 fc1, .slice ia1 il1 ic1, .string (encA k []).t] 24); have B_1 := bupK (bel3K B_0 hb1) (.cells #[.slice fa1 fl1 fc1, .slice ia1 il1 ic1, .string (encA k []).t] 24); have K1_1 := heap_alloc_new w11 (.cells #[.slice fa1 fl1 fc1, .slice ia1 il1 ic1, .string (encA k []).t] 24); have rF1_1 := (rF1).on (bupK (Below.refl _ _) (.cells #[.slice fa1 fl1 fc1, .slice ia1 il1 ic1, .string (encA k []).t] 24)); have rI1_1 := (rI1).on (bupK (Below.refl _ _) (.cells #[.slice fa1 fl1 fc1, .slice ia1 il1 ic1, .string (encA k []).t] 24)); have ZL1 : w11.heap.size < (w11.alloc (.cells #[.slice fa1 fl1 fc1, .slice ia1 il1 ic1, .string (encA k []).t] 24)).heap.size := (Array.getElem?_eq_some_iff.1 K1_1).1; have c10_1 := cell_rowK K1_1 0 _ rfl; have c11_1 := cell_rowK K1_1 1 _ rfl; have c12_1 := cell_rowK K1_1 2 _ rfl)
    | (go_at_call 8; refine (HNm.out _ _).mono ?_; rintro e wa ⟨rfl, hwa⟩; subst wa)
  go_ret
  exact ⟨rfl, B_4⟩
theorem namesEncode_w (k : Int) (a1 : Value) (l1 : List ByteArray) (w : World) (w1 : RowS w a1 l1) (t1 : tot l1 ≤ 1048575) (f1 : a1 = .slice none 0 0 ∨ ∃ ad l c, a1 = .slice (some ad) l c) (hT : Tabs w) :
    Calls Tryd.prog 3 #[.int .i64 k, a1] w fun e w' => e = .returned (.bool true) ∧ Below w.heap.size w w' := by
  rcases f1 with rfl | ⟨ad, l, c, rfl⟩
  · exact ne_none k w hT
  · rcases w1 with ⟨rfl, ao, c', e⟩ | ⟨b, off, cap, e, hc⟩
    · injection e with e1 e2 e3
      subst e2
      exact ne_zero k ad c w hT
    · injection e with e1 e2 e3
      injection e1 with e1
      subst e1
      cases hl : l1.length with
      | zero => rw [hl] at e2; subst e2; exact ne_zero k _ c w hT
      | succ p => rw [hl] at e2; subst e2; exact ne_pos k b off c p l1 w hl hc t1 hT
end Go.Proofs.YtnplblficibkcaaDoor
