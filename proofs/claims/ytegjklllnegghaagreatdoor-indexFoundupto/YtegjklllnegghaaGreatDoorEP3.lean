
-- index.Encode where it is not refused: form 3.
import Derived.Test.YtegjklllnegghaaGreatDoorEP0
import Derived.Deep.CutRange
namespace Go.Proofs.YtegjklllnegghaaGreatDoor
open Go.ChangeShapes Go.WideShapes Go.ChangeAt Go.RowKit
set_option linter.unusedVariables false
set_option maxRecDepth 100000
set_option maxHeartbeats 8000000 in
theorem pairsFit_ca3 (n t : Nat) (w : World) (h1 : 8 * n < 4294967296) (h2 : t < 4294967296) : Calls Tryz.prog 47 #[.agg ca3, .agg #[.int .i64 n, .int .i64 t]] w fun e w' => e = .returned (.bool true) ∧ Below w.heap.size w w' := by
  have hq1 : holdB false (8 * (n : Int)) = true := by unfold holdB; simp; omega
  have hq2 : holdB false (t : Int) = true := by unfold holdB; simp; omega
  obtain ⟨q, hq⟩ : ∃ q : Int, 8 * (n : Int) = q := ⟨_, rfl⟩
  obtain ⟨hbf, hhb⟩ : ∃ f : Int → Bool, ∀ z, f z = holdB false z := ⟨holdB false, fun _ => rfl⟩
  have e1 : hbf q = true := by rw [hhb, ← hq]; exact hq1
  have e2 : hbf (t : Int) = true := by rw [hhb]; exact hq2
  have HH : Hid (∀ z w, Calls Tryz.prog 34 #[.agg ca3, .int .i64 z] w fun e w' => e = .returned (.bool (hbf z)) ∧ Below w.heap.size w w') := fun z w => by have := holds_ca3 z w; rw [← hhb] at this; exact this
  clear hhb
  obtain ⟨W1, hW1⟩ : ∃ W1, W1 = (w.alloc (.cells ca3 52)).alloc (.cells #[.int .i64 n, .int .i64 t] 58) := ⟨_, rfl⟩
  have R1 : W1.heap[w.heap.size]? = some (.cells ca3 52 (0, 0)) := (by rw [hW1]; exact hupK (heap_alloc_new w _) _)
  have S1 : W1.heap[w.heap.size + 1]? = some (.cells #[.int .i64 n, .int .i64 t] 58 (0, 0)) := (by rw [hW1]; exact heap_new2K w _ _)
  have B1 : Below w.heap.size w W1 := (by rw [hW1]; exact bupK (bupK (Below.refl _ _) _) _)
  clear hq1 hq2
  have hq0 : 0 ≤ q := by omega
  have hq9 : q < 4294967296 := by omega
  go_enter Tryz.func47, Tryz.ntmps47
  go_upto_region 1 with fail
  have cn := cell_rowK S1 0 (.int .i64 n) rfl
  have cw := cell_rowK R1 1 (.int .i64 4) rfl
  rw [← hW1]
  clear hW1
  go_wp2_with (first
    | (refine wpList_load_row rfl _ _ rfl w.heap.size rfl _ _ _ _ R1 Tryz.underlying52 rfl (by kernel_rfl) ?_)
    | (go_at_call 34; have zz := R2; refine (HH.out _ _).mono ?_; rintro e w3 ⟨rfl, b3⟩)
    | (go_at_call 34; refine (HH.out _ _).mono ?_; rintro e w2 ⟨rfl, b2⟩; have R2 := hkeepK b2 R1; have ct := cell_rowK (hkeepK b2 S1) 1 (.int .i64 t) rfl; have ct0 := cell_rowK R2 0 _ rfl; have ct1 := cell_rowK R2 1 _ rfl; have ct2 := cell_rowK R2 2 _ rfl; have ct3 := cell_rowK R2 3 _ rfl; have ct4 := cell_rowK R2 4 _ rfl; have ct5 := cell_rowK R2 5 _ rfl; have ct6 := cell_rowK R2 6 _ rfl))
  go_ret
  exact ⟨rfl, bel3K (bel3K B1 b2) b3⟩
/-- the bytes of an index of form 3 -/
def encB3 (L : List En) : List UInt8 := nb3 (8 * L.length) ++ prB L L.length ++ nb3 (evenN (totN (L.map En.name))) ++ nmB L ++ List.replicate (evenN (totN (L.map En.name)) - totN (L.map En.name)) 0
set_option maxHeartbeats 16000000 in
theorem enc3_ok (v : Value) (L : List En) (w : World) (hv : RowE w v L) (hL : L.length ≤ 2000) (hT : totN (L.map En.name) ≤ 2147483648) (hg : goodAll (L.map En.name) = true) (hp : ∀ x ∈ L, 0 ≤ x.pl ∧ x.pl < 4294967296) :
    Calls Tryz.prog 9 #[.int .i64 3, v] w fun e w' => e = .returned (.tuple #[.string ⟨(encB3 L).toArray⟩, .int .i64 0]) ∧ Below w.heap.size w w' := by
  have HV := hidK hv
  have HP := hidK hp
  have hev : evenN (totN (L.map En.name)) ≤ totN (L.map En.name) + 1 ∧ totN (L.map En.name) ≤ evenN (totN (L.map En.name)) := by unfold evenN; omega
  obtain ⟨E, hE⟩ : ∃ E, E = evenN (totN (L.map En.name)) := ⟨_, rfl⟩
  have HE : Hid (E = evenN (totN (L.map En.name)) ∧ E ≤ totN (L.map En.name) + 1 ∧ totN (L.map En.name) ≤ E ∧ totN (L.map En.name) ≤ 2147483648) := ⟨hE, by omega, by omega, hT⟩
  have HEQ : Hid (encB3 L = nb3 (8 * L.length) ++ (prB L L.length ++ (nb3 E ++ (nmB L ++ List.replicate (E - totN (L.map En.name)) 0)))) := (by show _ = _; unfold encB3; rw [← hE]; simp only [List.append_assoc])
  have hE2 : E ≤ 2147483649 := by omega
  have hnv : L.map En.name = L.map En.name := rfl
  have HC : Hid (∀ w, Calls Tryz.prog 19 #[.int .i64 3] w fun e w' => e = .returned (.tuple #[.agg ca3, .int .i64 0]) ∧ Below w.heap.size w w') := fun w => codecOf_c 3 w
  have HNO : Hid (∀ wx, Below w.heap.size w wx → Calls Tryz.prog 20 #[v] wx fun e w' => e = .returned (.slice (some ⟨wx.heap.size, 0, none⟩) L.length L.length) ∧ NmRow L wx.heap.size w' ∧ Below wx.heap.size wx w') := fun wx hb => namesOfR_c v L wx (HV.out.on hb) (by omega)
  have HM : Hid (∀ g wx, NmRow L g wx → Calls Tryz.prog 21 #[.slice (some ⟨g, 0, none⟩) L.length L.length] wx fun e w' => e = .returned (.tuple #[.agg #[.int .i64 L.length, .int .i64 E], .int .i64 0]) ∧ Below wx.heap.size wx w') := fun g wx hr => by
    have h := measure_c _ (L.map En.name) wx (hr.rowS L.length) (by omega)
    have e : measA (L.map En.name) = ((L.map En.name).length, evenN (totN (L.map En.name)), 0) := by unfold measA; rw [hg]; rfl
    rw [e, List.length_map, ← hE] at h; exact h
  have HF : Hid (∀ w, Calls Tryz.prog 47 #[.agg ca3, .agg #[.int .i64 L.length, .int .i64 E]] w fun e w' => e = .returned (.bool true) ∧ Below w.heap.size w w') := fun w => pairsFit_ca3 _ _ w (by omega) (by have := HE.out; omega)
  have HRE : Hid (∀ wx, Below w.heap.size w wx → Calls Tryz.prog 22 #[.agg ca3, v] wx fun e w' => e = .returned (.bool true) ∧ Below wx.heap.size wx w') := fun wx hb => by
    have h := reaches_ca3 v L wx (HV.out.on hb) (by omega)
    have e : reachB false L = true := by
      unfold reachB
      rw [List.all_eq_true]
      intro x hx
      have := hp x hx
      unfold holdB; simp; omega
    rw [e] at h; exact h
  have HLN : Hid (∀ w, Calls Tryz.prog 46 #[.agg ca3, .agg #[.int .i64 L.length, .int .i64 E]] w fun e w' => e = .returned (.int .i64 (headN 3 L.length + E : Nat)) ∧ Below w.heap.size w w') := fun w => pairsLen_c _ _ w (by omega) (by omega)
  have hh : headN 3 L.length + E ≤ 281474976710656 := by unfold headN; simp; omega
  clear hv hp hev hg hnv hT hE
  go_enter Tryz.func9, Tryz.ntmps9
  go_upto_region 2 with (first
    | (go_at_call 19; refine (HC.out _).mono ?_; rintro e w1 ⟨rfl, b1⟩)
    | (refine wpList_store_kz rfl rfl _ _ _ rfl w1.heap.size 0 (.agg ca3) rfl rfl _ _ ca3 (heap_alloc_new _ _) (by kernel_rfl) rfl rfl rfl ?_; intro W2 R2 q2))
  have B2 := q2.belowN (bupK b1 _) b1.size (Nat.le_refl _)
  have l2 : w1.heap.size < W2.heap.size := (Array.getElem?_eq_some_iff.1 R2).1
  have hs1 := b1.size
  clear q2 b1 HC
  go_upto_region 5 with (go_at_call 20; refine (HNO.out _ B2).mono ?_; rintro e w3 ⟨rfl, n3, b3⟩)
  have R3 := hkeepK b3 R2
  have B3 := bel3K B2 b3
  have hs3 := b3.size
  clear R2 B2 b3 HNO
  obtain ⟨g, hgg⟩ : ∃ g, g = W2.heap.size := ⟨_, rfl⟩
  rw [← hgg] at n3 ⊢
  have HN3 := hidK n3
  have HGG := hidK hgg
  clear n3 hgg
  go_upto_region 6 with (first
    | (go_at_call 21; refine (HM.out _ _ HN3.out).mono ?_; rintro e w4 ⟨rfl, b4⟩)
    | (refine wpList_store_kz rfl rfl _ _ _ rfl w4.heap.size 0 (.agg #[.int .i64 L.length, .int .i64 E]) rfl rfl _ _ #[.int .i64 L.length, .int .i64 E] (heap_alloc_new _ _) (by kernel_rfl) rfl rfl rfl ?_; intro W5 S5 q5))
  have Bx : Below w3.heap.size w3 W5 := q5.belowN (bupK b4 _) b4.size (Nat.le_refl _)
  have R5 := hkeepK Bx R3
  have HN5 := hidK (HN3.out.on Bx)
  have B5 := bel3K B3 Bx
  have hs4 := b4.size
  have l5 : w4.heap.size < W5.heap.size := (Array.getElem?_eq_some_iff.1 S5).1
  have cf := cell_rowK R5 4 (.func (.func 47) #[] #[]) rfl
  clear R3 B3 b4 q5 Bx HN3 HM
  go_upto_region 10 with (first
    | (refine wpList_load_row rfl _ _ rfl w1.heap.size rfl _ _ _ _ R5 Tryz.underlying52 rfl (by kernel_rfl) ?_)
    | (refine wpList_load_row rfl _ _ rfl w4.heap.size rfl _ _ _ _ S5 Tryz.underlying58 rfl (by kernel_rfl) ?_)
    | (go_at_call 47; refine (HF.out _).mono ?_; rintro e w6 ⟨rfl, b6⟩; have R6 := hkeepK b6 R5; have B6 := bel3K B5 b6; have ct0 := cell_rowK R6 0 _ rfl; have ct1 := cell_rowK R6 1 _ rfl; have ct2 := cell_rowK R6 2 _ rfl; have ct3 := cell_rowK R6 3 _ rfl; have ct4 := cell_rowK R6 4 _ rfl; have ct5 := cell_rowK R6 5 _ rfl; have ct6 := cell_rowK R6 6 _ rfl)
    | (go_at_call 22; refine (HRE.out _ B6).mono ?_; rintro e w7 ⟨rfl, b7⟩))
  have S6 := hkeepK b6 S5
  have R7 := hkeepK b7 R6
  have S7 := hkeepK b7 S6
  have HN7 := hidK ((HN5.out.on b6).on b7)
  have HB7 := hidK (bel3K B6 b7)
  have hs6 := b6.size
  have hs7 := b7.size
  have hgl : g < w7.heap.size := by obtain ⟨row, r1, _⟩ := HN7.out; exact (Array.getElem?_eq_some_iff.1 r1).1
  clear R5 S5 R6 S6 b6 b7 B5 B6 cf HF HRE ct0 ct1 ct2 ct3 ct4 ct5 ct6 HN5 HGG
  obtain ⟨w8, hw8⟩ : ∃ w8, w8 = w7.alloc (.cells #[.pointer none, .slice none 0 0] 65) := ⟨_, rfl⟩
  have K8 : w8.heap[w7.heap.size]? = some (.cells #[.pointer none, .slice none 0 0] 65 (0, 0)) := (by rw [hw8]; exact heap_alloc_new w7 _)
  have B8 : Below w7.heap.size w7 w8 := (by rw [hw8]; exact bupK (Below.refl _ _) _)
  have R8 := hkeepK B8 R7
  have S8 := hkeepK B8 S7
  have cl := cell_rowK R8 3 (.func (.func 46) #[] #[]) rfl
  have HB8 := hidK B8
  have HK8 := hidK K8
  have HGR : Hid (∀ wx, Below w8.heap.size w8 wx → Calls Tryz.prog 23 #[.pointer (some ⟨w7.heap.size, 0, none⟩), .int .i64 (headN 3 L.length + E : Nat)] wx fun e w' => e = .returned (.tuple #[]) ∧ (Lib.BuilderAt 65 5 w7.heap.size w7.heap.size (.pointer (some ⟨w7.heap.size, 0, none⟩)) [] w' ∧ Below w7.heap.size wx w')) := fun wx hb => Tryz.Builder_Grow_fresh w7.heap.size w7.heap.size _ wx (Nat.le_refl _) (hkeepK hb HK8.out) (Nat.le_trans HB8.out.size hb.size) hh
  have HWR : Hid (∀ wx, IsB w7.heap.size w7.heap.size [] wx → Below w7.heap.size w7 wx → Calls Tryz.prog 48 #[.agg ca3, .pointer (some ⟨w7.heap.size, 0, none⟩), v, .agg #[.int .i64 L.length, .int .i64 E]] wx fun e w' => e = .returned (.tuple #[]) ∧ IsB w7.heap.size w7.heap.size (nb3 (8 * L.length) ++ prB L L.length ++ nb3 E) w' ∧ Below w7.heap.size wx w') := fun wx i hb => by
    have h := writePairs_c w7 w7.heap.size L.length E [] v L wx (HV.out.on HB7.out) i hb (by omega) (by omega) (by omega) (by decide) HP.out (by have := HE.out; omega)
    simpa using h
  have hep : ((totN (L.map En.name) + (E - totN (L.map En.name)) : Nat) : Int) = (E : Int) := by have := HE.out; omega
  have HWN : Hid (∀ wx, NmRow L g wx → IsB w7.heap.size w7.heap.size (nb3 (8 * L.length) ++ prB L L.length ++ nb3 E) wx → w7.heap.size ≤ wx.heap.size → Calls Tryz.prog 24 #[.pointer (some ⟨w7.heap.size, 0, none⟩), .slice (some ⟨g, 0, none⟩) L.length L.length, .int .i64 E] wx fun e w' => e = .returned (.tuple #[]) ∧ IsB w7.heap.size w7.heap.size (nb3 (8 * L.length) ++ prB L L.length ++ nb3 E ++ nmB L ++ List.replicate (E - totN (L.map En.name)) 0) w' ∧ Below w7.heap.size wx w') := fun wx hr i hb => by
    have h := writeNames_c w7.heap.size w7.heap.size g L.length (nb3 (8 * L.length) ++ prB L L.length ++ nb3 E) L (E - totN (L.map En.name)) wx hr i hb (by omega) (by omega) (by rw [List.length_append, List.length_append, nb3_len, nb3_len, prB_len]; omega) (by have := HE.out; omega) (by have := HE.out; omega)
    rw [hep] at h; exact h
  have HST : Hid (∀ l wx, IsB w7.heap.size w7.heap.size l wx → w7.heap.size ≤ wx.heap.size → Calls Tryz.prog 25 #[.pointer (some ⟨w7.heap.size, 0, none⟩)] wx fun e w' => e = .returned (.string ⟨l.toArray⟩) ∧ Below w7.heap.size wx w') := fun l wx i hb => (Tryz.Builder_String_any_k w7.heap.size w7.heap.size l wx i hb).mono fun e w' h => ⟨h.1, h.2.2.1⟩
  clear K8 B8 R7 S7 hep hh
  go_upto_region 11 with fail
  rw [← hw8]
  clear hw8
  go_upto_region 12 with (first
    | (refine wpList_load_row rfl _ _ rfl w1.heap.size rfl _ _ _ _ R8 Tryz.underlying52 rfl (by kernel_rfl) ?_)
    | (refine wpList_load_row rfl _ _ rfl w4.heap.size rfl _ _ _ _ S8 Tryz.underlying58 rfl (by kernel_rfl) ?_)
    | (go_at_call 46; refine (HLN.out _).mono ?_; rintro e w9 ⟨rfl, b9⟩)
    | (go_at_call 23; refine (HGR.out _ b9).mono ?_; rintro e w10 ⟨rfl, i10, b10⟩))
  have B9 : Below w7.heap.size w7 w9 := bel3K HB8.out b9
  have B10 : Below w7.heap.size w7 w10 := B9.trans b10
  have R10 := keepN b10 (by omega) (hkeepK b9 R8)
  have S10 := keepN b10 (by omega) (hkeepK b9 S8)
  have HI10 : Hid (IsB w7.heap.size w7.heap.size [] w10) := .inr (Lib.BuilderAtF.of i10)
  have HB10 := hidK B10
  have cwr := cell_rowK R10 5 (.func (.func 48) #[] #[]) rfl
  clear R8 S8 cl b9 b10 i10 B9 B10 HGR HLN HK8 HB8
  go_upto_region 13 with (first
    | (refine wpList_load_row rfl _ _ rfl w1.heap.size rfl _ _ _ _ R10 Tryz.underlying52 rfl (by kernel_rfl) ?_)
    | (refine wpList_load_row rfl _ _ rfl w4.heap.size rfl _ _ _ _ S10 Tryz.underlying58 rfl (by kernel_rfl) ?_)
    | (go_at_call 48; refine (HWR.out _ HI10.out HB10.out).mono ?_; rintro e w11 ⟨rfl, i11, b11⟩))
  have S11 := keepN b11 (by omega) S10
  have ct := cell_rowK S11 1 (.int .i64 E) rfl
  have HI11 := hidK i11
  have HB11 := hidK (HB10.out.trans b11)
  have HN11 : Hid (NmRow L g w11) := HN7.out.low hgl HB11.out
  clear R10 S10 cwr S11 i11 b11 HI10 HB10 HWR HN7
  go_upto_region 14 with (go_at_call 24; refine (HWN.out _ HN11.out HI11.out HB11.out.size).mono ?_; rintro e w12 ⟨rfl, i12, b12⟩)
  have HI12 := hidK i12
  have HB12 := hidK (HB11.out.trans b12)
  clear ct i12 b12 HI11 HB11 HN11 HWN
  go_wp2_with (go_at_call 25; refine (HST.out _ _ HI12.out HB12.out.size).mono ?_; rintro e w13 ⟨rfl, b13⟩)
  go_ret2
  refine ⟨?_, HB7.out.trans ((HB12.out.trans b13).mono HB7.out.size)⟩
  rw [HEQ.out]
  rfl
end Go.Proofs.YtegjklllnegghaaGreatDoor
