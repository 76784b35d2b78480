
-- NmSorted, walked.
import Derived.Test.YtbmdclgndlddbaaWB
import Derived.Test.YtbmdclgndlddbaaWC
import Derived.Test.YtbmdclgndlddbaaRT
import Derived.Deep.RegionHeld3
namespace Go.Proofs.Ytbmdclgndlddbaa
open Go.ChangeShapes Go.WideShapes Go.ChangeAt Go.RowKit Go.Sort
set_option linter.unusedVariables false
set_option maxRecDepth 100000
theorem belS {B g : Nat} {a b c : World} (h : Below B a b) (k : b.grownBy c (some g)) (hB : B ≤ g) (ha : B ≤ a.heap.size) : Below B a c :=
  h.trans ⟨k.os, k.tape, k.output, k.size, fun j hj => k.block j (Nat.lt_of_lt_of_le hj (Nat.le_trans ha h.size)) (fun e => by injection e with e; omega)⟩
theorem sizeRwT : (Try.prog.info? 31).map (·.size) = some 8 := by kernel_rfl
set_option maxHeartbeats 32000000 in
theorem nmSorted_w (v : Value) (L0 : List Rw) (o : Op7) (w : World) (h : RowG rwL w v L0) (hn0 : L0.length ≤ 1048576) :
    Calls Try.prog 3 #[v, opV o] w fun e w' => e = .returned (.bool true) ∧ Below w.heap.size w w' := by
  obtain ⟨a1, c1, q1, k1, k2⟩ := h.form
  obtain ⟨n0, hnn⟩ : ∃ n, n = L0.length := ⟨_, rfl⟩
  subst q1
  rw [← hnn] at hn0 h k1 ⊢
  obtain ⟨Y, hY⟩ : ∃ Y, Y = opO o := ⟨_, rfl⟩
  obtain ⟨w1, hw1⟩ : ∃ w1, w1 = w.alloc Y := ⟨_, rfl⟩
  have hb1 : Below w.heap.size w w1 := by rw [hw1]; exact (Below.refl _ _).alloc (Nat.le_refl _) _
  have hs1 : w1.heap.size = w.heap.size + 1 := by rw [hw1]; simp
  have y0 : w1.heap[w.heap.size]? = some (opO o) := by rw [hw1, heap_alloc_new, hY]
  have HB1 := hidK hb1
  have HY := hidK y0
  have HV0 := hidK h
  obtain ⟨L, hL⟩ : ∃ L, L = L0.take 60 := ⟨_, rfl⟩
  have HL60 : Hid (L.length ≤ 60) := by show _ ≤ _; rw [hL, List.length_take]; omega
  have HTW : Hid (∀ (W : World) (u : Value) (M : List Rw), RowG rwL W u M → M.length ≤ 1048576 → Calls Try.prog 6 #[u] W fun e w' => ∃ a l c, e = .returned (.slice a l c) ∧ OwR (fun b => W.heap.size ≤ b) w' (.slice a l c) M ∧ Below W.heap.size W w') := fun W u M h1 h2 => twin_c u M W h1 h2
  have HSO : Hid (∀ (W : World) (u : Value) (M : List Rw) (r : Bool), RowG rwL W u M → M.length ≤ 1048576 → Calls Try.prog 5 #[u, opV (opR o r)] W fun e w' => ∃ a l c, e = .returned (.slice a l c) ∧ OwR (fun b => W.heap.size ≤ b) w' (.slice a l c) (sortL (opR o r) M) ∧ Below W.heap.size W w') := fun W u M r h1 h2 => nmSort_c u M (opR o r) W h1 h2
  have HTK : Hid (60 < n0 → RowG rwL w (.slice a1 60 c1) L ∧ L.length = 60) := fun h60 => by
    have e1 : (L0.take 60).length = 60 := by rw [List.length_take]; omega
    have h1 : RowG rwL w (.slice a1 n0 c1) (L0.take 60 ++ L0.drop 60) := by rw [List.take_append_drop]; exact h
    have h2 := rowG_front h1
    rw [e1] at h2
    rw [hL]; exact ⟨h2, e1⟩
  have HTN : Hid (¬ 60 < n0 → L = L0) := fun h60 => by rw [hL, List.take_of_length_le (by omega)]
  have HNN := hidK hnn
  unfold opO at hY
  unfold opV opR at HSO
  unfold opV
  clear h hb1 y0 hs1 hnn hL
  subst hY
  go_enter Try.func3, Try.ntmps3
  go_upto_region 1 with fail
  rw [← hw1]
  clear hw1
  go_upto_if 15 with fail
  go_cut [0] from 15 to 17 (fun s wx => ∃ n, s = .slice a1 n c1 ∧ L.length = n ∧ RowG rwL w (.slice a1 n c1) L ∧ n ≤ c1 ∧ wx = w1)
  case first =>
    by_cases h60 : 60 < n0
    · have i60 : (60 : Int) < (n0 : Int) := by omega
      have c60 : (60 : Int) ≤ (c1 : Int) := by omega
      obtain ⟨q1, q2⟩ := HTK.out h60
      have Q1 := hidK q1
      clear q1
      go_wp2
      go_meet
      case rel => exact ⟨60, rfl, q2, Q1.out, by omega, rfl⟩
    · have i60 : ¬ (60 : Int) < (n0 : Int) := by omega
      have e := HTN.out h60
      go_wp2
      go_meet
      case rel => exact ⟨n0, rfl, by rw [e]; exact HNN.out.symm, by rw [e]; exact HV0.out, k1, rfl⟩
  case rest =>
    obtain ⟨n, rfl, hn, hr, hnc, rfl⟩ := hcut
    have HN := hidK hn
    have HV := hidK hr
    have hn60 : n ≤ 60 := by have := HL60.out; omega
    clear hn hr HTK HTN HNN HV0 k1 hn0 HL60
    have hbw1 := HB1.out
    go_upto_region 4 with (refine wpList_store_row_G rfl rfl 4 (.tmp 18) (.const (.bool false)) rfl w.heap.size 4 (.bool false) rfl rfl 24 #[.bool o.g, .bool o.u, .bool o.n, .bool o.p, .bool o.r, .bool o.a, .bool o.s] #[.bool o.g, .bool o.u, .bool o.n, .bool o.p, .bool false, .bool o.a, .bool o.s] HY.out (by kernel_rfl) rfl rfl rfl ?_; intro w3 hW3 hG3; have HY3 := hidK hW3; have HB3 : Hid (Below w.heap.size w w3) := belS HB1.out hG3 (Nat.le_refl _) (Nat.le_refl _); clear hW3 hG3)
    have HV3 : Hid (RowG rwL w3 (.slice a1 n c1) L) := HV.out.on HB3.out
    have HY3' : Hid (w3.heap[w.heap.size]? = some (opO (opR o false))) := HY3.out
    have HLn : Hid (L.length ≤ 1048576) := by show _ ≤ _; have := HN.out; omega
    have HSA : ∀ (W : World) (u : Value), Below w3.heap.size w3 W → RowG rwL W u L → Calls Try.prog 5 #[u, .agg #[.bool o.g, .bool o.u, .bool o.n, .bool o.p, .bool false, .bool o.a, .bool o.s]] W fun e w' => ∃ a l c, e = .returned (.slice a l c) ∧ OwR (fun b => w3.heap.size ≤ b) w' (.slice a l c) (ordL o L) ∧ Below w3.heap.size w3 w' := fun W u hb h1 => (HSO.out W u L false h1 HLn.out).mono (by
      rintro e w' ⟨a, l, c, rfl, q1, q2⟩
      exact ⟨a, l, c, rfl, q1.weak (fun q hq => Nat.le_trans hb.size hq), bel3K hb q2⟩)
    have HTB : Hid (∀ W, Below w3.heap.size w3 W → Calls Try.prog 6 #[.slice a1 n c1] W fun e w' => ∃ a l c, e = .returned (.slice a l c) ∧ RowG rwL w' (.slice a l c) L ∧ Below w3.heap.size w3 w') := fun W hb => (HTW.out W _ L (HV3.out.on hb) HLn.out).mono (by
      rintro e w' ⟨a, l, c, rfl, q1, q2⟩
      exact ⟨a, l, c, rfl, q1.row elR, bel3K hb q2⟩)
    obtain ⟨hv0, hv1, hv2, hv3, hv4, hv5, hv6⟩ : (∀ W, Below w3.heap.size w3 W → W.cell? ⟨w.heap.size, 0, none⟩ = some (.bool o.g)) ∧ (∀ W, Below w3.heap.size w3 W → W.cell? ⟨w.heap.size, 1, none⟩ = some (.bool o.u)) ∧ (∀ W, Below w3.heap.size w3 W → W.cell? ⟨w.heap.size, 2, none⟩ = some (.bool o.n)) ∧ (∀ W, Below w3.heap.size w3 W → W.cell? ⟨w.heap.size, 3, none⟩ = some (.bool o.p)) ∧ (∀ W, Below w3.heap.size w3 W → W.cell? ⟨w.heap.size, 4, none⟩ = some (.bool false)) ∧ (∀ W, Below w3.heap.size w3 W → W.cell? ⟨w.heap.size, 5, none⟩ = some (.bool o.a)) ∧ (∀ W, Below w3.heap.size w3 W → W.cell? ⟨w.heap.size, 6, none⟩ = some (.bool o.s)) :=
      ⟨fun W hb => (op_cells (hkeepK hb HY3'.out)).1, fun W hb => (op_cells (hkeepK hb HY3'.out)).2.1, fun W hb => (op_cells (hkeepK hb HY3'.out)).2.2.1, fun W hb => (op_cells (hkeepK hb HY3'.out)).2.2.2.1, fun W hb => (op_cells (hkeepK hb HY3'.out)).2.2.2.2.1, fun W hb => (op_cells (hkeepK hb HY3'.out)).2.2.2.2.2.1, fun W hb => (op_cells (hkeepK hb HY3'.out)).2.2.2.2.2.2⟩
    have hb0 : Below w3.heap.size w3 w3 := Below.refl _ _
    go_region_held3 (fun w' => Below w3.heap.size w3 w') (first | assumption | exact hb0.drew | exact hSw.drew) (first
      | (go_at_call 6; refine (HTB.out _ (by assumption)).mono ?_; rintro e wt ⟨at4, lt4, ct4, rfl, hqt, hSt⟩)
      | (go_at_call 5; refine (HSA _ _ (by assumption) (by first | exact hqt | exact hqt.on (Below.refl _ _).drew)).mono ?_; rintro e w4 ⟨a4, l4, c4, rfl, hq4, hS4⟩))
    have HS4 := hidK hS4
    have HL4 := hidK hq4
    clear hq4 hS4 hqt hSt hb0 hv0 hv1 hv2 hv3 hv4 hv5 hv6 HSA HTB hbw1 HY3 HY
    have HV4 : Hid (∀ W, Below w4.heap.size w4 W → RowG rwL W (.slice a1 n c1) L) := fun W hb => (HV3.out.on HS4.out).on hb
    have HY4 : Hid (w4.heap[w.heap.size]? = some (opO (opR o false))) := hkeepK HS4.out HY3'.out
    have HLX : Hid (∀ W, Below w4.heap.size w4 W → RowG rwL W (.slice a4 l4 c4) (ordL o L)) := fun W hb => (HL4.out.row elR).on hb
    obtain ⟨q4, hq4⟩ : ∃ q, q = (ordL o L).length := ⟨_, rfl⟩
    have hl4 : l4 = q4 := by
      obtain ⟨_, _, e, _⟩ := HL4.out.form
      injection e with _ e2 _
      rw [e2, hq4]
    subst hl4
    have HQ4 := hidK hq4
    have hl60 : l4 ≤ 60 := by have h1 := ordL_len o L; have := HN.out; omega
    clear hq4
    go_wp2
    go_loopw [6, 7] (fun m i wx => ∃ k : Nat, i = .int .i64 k ∧ k ≤ n ∧ m = .int .i64 ((pickL o.g o.u (L.take k)).length : Nat) ∧ Below w4.heap.size w4 wx) (fun _ i _ => n - (intOf i).toNat)
    case atStart => exact ⟨0, rfl, Nat.zero_le _, rfl, Below.refl _ _⟩
    case round =>
      obtain ⟨k, rfl, hkn, rfl, hB⟩ := hrel
      obtain ⟨q, hq⟩ : ∃ q, q = (pickL o.g o.u (L.take k)).length := ⟨_, rfl⟩
      rw [← hq]
      by_cases hk : k < n
      · have kI : (k : Int) < (n : Int) := by omega
        have k0 : (0 : Int) ≤ (k : Int) := by omega
        have kw : IntKind.i64.wrap ((k : Int) + 1) = (k : Int) + 1 := by rw [IntKind.wrap_i64]; omega
        have hql : q ≤ 60 := by have h1 := pick_len o.g o.u (L.take k); have h2 := List.length_take_le k L; have := HN.out; omega
        have qw : IntKind.i64.wrap ((q : Int) + 1) = (q : Int) + 1 := by rw [IntKind.wrap_i64]; omega
        obtain ⟨x, hx⟩ : ∃ x, L[k]? = some x := ⟨_, List.getElem?_eq_getElem (by have := HN.out; omega)⟩
        have HPT : Hid ((pickL o.g o.u (L.take (k + 1))).length = if leftO o.g o.u x = true then q else q + 1) := by show _ = _; rw [pick_take hx, hq]; split <;> simp
        obtain ⟨b1, o1, p1, e1, d0, d1, d2, d3, d4, d5, d6, d7⟩ := (HV4.out wr hB).rw hx
        injection e1 with e1 e1b e1c
        subst e1
        have HB0 := hidK hB
        have hgA : Below w4.heap.size w4 (wr.alloc (.cells #[.string ⟨#[]⟩, .int .i64 0, .int .i64 0, .int .i64 0, .int .i64 0, .int .u64 0, .int .u64 0, .int .u8 0] 31)) := (hB.trans ((Below.refl wr.heap.size wr).mono hB.size)).alloc hB.size _
        have HGA := hidK hgA
        clear hx e1b e1c hB hq hgA
        go_upto_region 10 with (refine wpList_store_row_G rfl rfl 31 (.tmp 8) (.tmp 32) rfl wr.heap.size 0 (.agg #[.string x.nm, .int .i64 x.bd, .int .i64 x.ty, .int .i64 x.ot, .int .i64 x.sc, .int .u64 x.va, .int .u64 x.sz, .int .u8 x.lt]) rfl rfl 31 #[.string ⟨#[]⟩, .int .i64 0, .int .i64 0, .int .i64 0, .int .i64 0, .int .u64 0, .int .u64 0, .int .u8 0] #[.string x.nm, .int .i64 x.bd, .int .i64 x.ty, .int .i64 x.ot, .int .i64 x.sc, .int .u64 x.va, .int .u64 x.sz, .int .u8 x.lt] (heap_alloc_new _ _) sizeRwT rfl rfl rfl ?_; intro w9 hW9 hG9; have HX9 : Hid (w9.heap[wr.heap.size]? = some (rwO x)) := hW9; have HB9 : Hid (Below w4.heap.size w4 w9) := belS HGA.out hG9 HB0.out.size (Nat.le_refl _); clear hW9 hG9)
        clear d0 d1 d2 d3 d4 d5 d6 d7
        obtain ⟨x1, x2, x3, x4, x5, x6, x7, x8⟩ := rw_cells HX9.out
        obtain ⟨y1, y2, y3, y4, y5, y6, y7⟩ : w9.cell? ⟨w.heap.size, 0, none⟩ = some (.bool o.g) ∧ w9.cell? ⟨w.heap.size, 1, none⟩ = some (.bool o.u) ∧ w9.cell? ⟨w.heap.size, 2, none⟩ = some (.bool o.n) ∧ w9.cell? ⟨w.heap.size, 3, none⟩ = some (.bool o.p) ∧ w9.cell? ⟨w.heap.size, 4, none⟩ = some (.bool false) ∧ w9.cell? ⟨w.heap.size, 5, none⟩ = some (.bool o.a) ∧ w9.cell? ⟨w.heap.size, 6, none⟩ = some (.bool o.s) := op_cells (hkeepK HB9.out HY4.out)
        obtain ⟨wA, hwA⟩ : ∃ wA, wA = w9 := ⟨_, rfl⟩
        go_cut [9] from 33 to 54 (fun s wx => s = .bool (leftO o.g o.u x) ∧ wx = w9)
        case first =>
          obtain ⟨g, hg⟩ : ∃ g, g = o.g := ⟨_, rfl⟩
          obtain ⟨u, hu⟩ : ∃ g, g = o.u := ⟨_, rfl⟩
          obtain ⟨bd, hb⟩ : ∃ g, g = x.bd := ⟨_, rfl⟩
          obtain ⟨lt, hl⟩ : ∃ g, g = x.lt := ⟨_, rfl⟩
          rw [← hg] at y1
          rw [← hu] at y2
          rw [← hb] at x2
          rw [← hl] at x8
          have HV9 : Hid (g = o.g ∧ u = o.u ∧ bd = x.bd ∧ lt = x.lt) := ⟨hg, hu, hb, hl⟩
          clear hg hu hb hl x1 x3 x4 x5 x6 x7 y3 y4 y5 y6 y7 hwA
          by_cases h1 : lt = 85
          · have e1 : (lt != 85) = false := by simp [h1]
            cases g <;> cases u <;> by_cases h3 : bd = 0 <;>
            · go_wp2
              go_meet
              case rel =>
                refine ⟨?_, rfl⟩
                simp [leftO, ← HV9.out.1, ← HV9.out.2.1, ← HV9.out.2.2.1, ← HV9.out.2.2.2, h1, h3]
          · have e1 : (lt != 85) = true := by simp [h1]
            by_cases h2 : lt = 119
            · have e2 : (lt != 119) = false := by simp [h2]
              cases g <;> cases u <;> by_cases h3 : bd = 0 <;>
              · go_wp2
                go_meet
                case rel =>
                  refine ⟨?_, rfl⟩
                  simp [leftO, ← HV9.out.1, ← HV9.out.2.1, ← HV9.out.2.2.1, ← HV9.out.2.2.2, h2, h3]
            · have e2 : (lt != 119) = true := by simp [h2]
              cases g <;> cases u <;> by_cases h3 : bd = 0 <;>
              · go_wp2
                go_meet
                case rel =>
                  refine ⟨?_, rfl⟩
                  simp [leftO, ← HV9.out.1, ← HV9.out.2.1, ← HV9.out.2.2.1, ← HV9.out.2.2.2, h1, h2, h3]
        case rest =>
          obtain ⟨rfl, hwc⟩ := hcut
          rw [← hwA] at hwc
          rw [hwc]
          have hB9 : Below w4.heap.size w4 wA := by rw [hwA]; exact HB9.out
          have hX9 : wA.heap[wr.heap.size]? = some (rwO x) := by rw [hwA]; exact HX9.out
          have HBA := hidK hB9
          have HXA := hidK hX9
          clear hwc hwA hB9 hX9 x1 x2 x3 x4 x5 x6 x7 x8 y1 y2 y3 y4 y5 y6 y7
          obtain ⟨x1, x2, x3, x4, x5, x6, x7, x8⟩ := rw_cells HXA.out
          obtain ⟨r, hr⟩ : ∃ r, r = cntR L x := ⟨_, rfl⟩
          cases hl : leftO o.g o.u x with
          | true =>
            have HPE : Hid ((pickL o.g o.u (L.take (k + 1))).length = q) := by show _ = _; rw [HPT.out, if_pos hl]
            have HC0 : Hid (∀ W, Below w4.heap.size w4 W → Calls Try.prog 7 #[.slice a4 l4 c4, .agg #[.string x.nm, .int .i64 x.bd, .int .i64 x.ty, .int .i64 x.ot, .int .i64 x.sc, .int .u64 x.va, .int .u64 x.sz, .int .u8 x.lt]] W fun e w' => e = .returned (.int .i64 0) ∧ Below w4.heap.size w4 w') := fun W hb => (count_c _ (ordL o L) x W (HLX.out W hb) (by have := HQ4.out; omega)).mono (by
              rintro e w' ⟨q1, q2⟩
              rw [cnt_ord, if_pos hl] at q1
              exact ⟨q1, bel3K hb q2⟩)
            clear hl hr
            go_wp2_with (go_at_call 7; refine (HC0.out _ HBA.out).mono ?_; rintro e w12 ⟨rfl, hb12⟩; have HB12 := hidK hb12; clear hb12)
            go_roundw
            case rel => exact ⟨k + 1, by go_num, by omega, by rw [HPE.out], HB12.out⟩
            case measure => simp [intOf]; omega
          | false =>
            have HPE : Hid ((pickL o.g o.u (L.take (k + 1))).length = q + 1) := by show _ = _; rw [HPT.out, if_neg (by rw [hl]; decide)]
            have HC1 : ∀ (W : World) (u : Value), Below wA.heap.size wA W → (u = .slice a4 l4 c4 ∨ u = .slice (some ⟨b1, o1, none⟩) n c1) → Calls Try.prog 7 #[u, .agg #[.string x.nm, .int .i64 x.bd, .int .i64 x.ty, .int .i64 x.ot, .int .i64 x.sc, .int .u64 x.va, .int .u64 x.sz, .int .u8 x.lt]] W fun e w' => e = .returned (.int .i64 (r : Nat)) ∧ Below wA.heap.size wA w' := fun W u hb hu => by
              have hb4 : Below w4.heap.size w4 W := HBA.out.trans (hb.mono HBA.out.size)
              rcases hu with rfl | rfl
              · refine (count_c _ (ordL o L) x W (HLX.out W hb4) (by have := HQ4.out; omega)).mono ?_
                rintro e w' ⟨q1, q2⟩
                rw [cnt_ord, if_neg (by rw [hl]; decide), ← hr] at q1
                exact ⟨q1, bel3K hb q2⟩
              · refine (count_c _ L x W (HV4.out W hb4) HLn.out).mono ?_
                rintro e w' ⟨q1, q2⟩
                rw [← hr] at q1
                exact ⟨q1, bel3K hb q2⟩
            clear hl hr
            have hne : ((r : Int) != (r : Int)) = false := by simp
            go_upto_region 15 with fail
            clear x1 x2 x3 x4 x5 x6 x7 x8
            have hx0 : ∀ W, Below wA.heap.size wA W → W.cell? ⟨wr.heap.size, 0, none⟩ = some (.string x.nm) := fun W hb => (rw_cells (hkeepK hb HXA.out)).1
            have hx1 : ∀ W, Below wA.heap.size wA W → W.cell? ⟨wr.heap.size, 1, none⟩ = some (.int .i64 x.bd) := fun W hb => (rw_cells (hkeepK hb HXA.out)).2.1
            have hx2 : ∀ W, Below wA.heap.size wA W → W.cell? ⟨wr.heap.size, 2, none⟩ = some (.int .i64 x.ty) := fun W hb => (rw_cells (hkeepK hb HXA.out)).2.2.1
            have hx3 : ∀ W, Below wA.heap.size wA W → W.cell? ⟨wr.heap.size, 3, none⟩ = some (.int .i64 x.ot) := fun W hb => (rw_cells (hkeepK hb HXA.out)).2.2.2.1
            have hx4 : ∀ W, Below wA.heap.size wA W → W.cell? ⟨wr.heap.size, 4, none⟩ = some (.int .i64 x.sc) := fun W hb => (rw_cells (hkeepK hb HXA.out)).2.2.2.2.1
            have hx5 : ∀ W, Below wA.heap.size wA W → W.cell? ⟨wr.heap.size, 5, none⟩ = some (.int .u64 x.va) := fun W hb => (rw_cells (hkeepK hb HXA.out)).2.2.2.2.2.1
            have hx6 : ∀ W, Below wA.heap.size wA W → W.cell? ⟨wr.heap.size, 6, none⟩ = some (.int .u64 x.sz) := fun W hb => (rw_cells (hkeepK hb HXA.out)).2.2.2.2.2.2.1
            have hx7 : ∀ W, Below wA.heap.size wA W → W.cell? ⟨wr.heap.size, 7, none⟩ = some (.int .u8 x.lt) := fun W hb => (rw_cells (hkeepK hb HXA.out)).2.2.2.2.2.2.2
            have hb0 : Below wA.heap.size wA wA := Below.refl _ _
            go_region_held3 (fun w' => Below wA.heap.size wA w') (first | assumption | exact hb0.drew | exact hSw.drew) (first
              | (go_at_call 7; refine (HC1 _ _ (by assumption) (by first | exact .inl rfl | exact .inr rfl)).mono ?_; rintro e w15 ⟨rfl, hS15⟩))
            have HB15 : Hid (Below w4.heap.size w4 w15) := HBA.out.trans (hS15.mono HBA.out.size)
            clear hS15 hb0 hx0 hx1 hx2 hx3 hx4 hx5 hx6 hx7 HC1
            go_wp2
            go_roundw
            case rel => exact ⟨k + 1, by go_num, by omega, by rw [HPE.out]; go_num, HB15.out⟩
            case measure => simp [intOf]; omega
      · obtain rfl : k = n := by omega
        have HE : Hid (q = l4) := by show _ = _; rw [hq, HQ4.out, ord_pick, HN.out.symm, List.take_length]
        have HB17 := hidK hB
        have e := HE.out
        subst e
        have hne : ((q : Int) != (q : Int)) = false := by simp
        clear hq hB HE
        go_wp2
        clear hne
        go_loopw [10] (fun i wx => ∃ k : Nat, i = .int .i64 k ∧ 1 ≤ k ∧ Below w4.heap.size w4 wx) (fun i _ => q - (intOf i).toNat)
        case atStart => exact ⟨1, rfl, Nat.le_refl _, HB17.out⟩
        case round =>
          obtain ⟨i, rfl, hi1, hB⟩ := hrel
          have HB20 := hidK hB
          by_cases hi : i < q
          · obtain ⟨j, hj⟩ : ∃ j, j + 1 = i := ⟨i - 1, by omega⟩
            have iI : (i : Int) < (q : Int) := by omega
            have i0 : (0 : Int) ≤ (i : Int) := by omega
            have jI : (j : Int) < (q : Int) := by omega
            have j0 : (0 : Int) ≤ (j : Int) := by omega
            have jm : (i : Int) - 1 = (j : Int) := by omega
            have jw : IntKind.i64.wrap (j : Int) = (j : Int) := by rw [IntKind.wrap_i64]; omega
            have iw : IntKind.i64.wrap ((i : Int) + 1) = (i : Int) + 1 := by rw [IntKind.wrap_i64]; omega
            obtain ⟨x, hx⟩ : ∃ x, (ordL o L)[j]? = some x := ⟨_, List.getElem?_eq_getElem (by have := HQ4.out; omega)⟩
            obtain ⟨y, hy⟩ : ∃ y, (ordL o L)[i]? = some y := ⟨_, List.getElem?_eq_getElem (by have := HQ4.out; omega)⟩
            have HLT : Hid (o.p = false → ltR o.n y x = false) := fun hp => ord_adj hp hx (by rw [hj]; exact hy)
            have HLR : Hid (∀ W, Below wr.heap.size wr W → RowG rwL W (.slice a4 q c4) (ordL o L)) := fun W hb => HLX.out W (HB20.out.trans (hb.mono HB20.out.size))
            obtain ⟨b4, o4, p4, e4, _⟩ := (HLX.out wr hB).rw hx
            injection e4 with e4 e4b e4c
            subst e4
            clear e4b e4c
            have HDX : ∀ W, Below wr.heap.size wr W → W.cell? ⟨b4, o4 + j * 8, none⟩ = some (.string x.nm) ∧ W.cell? ⟨b4, o4 + j * 8 + 1, none⟩ = some (.int .i64 x.bd) ∧ W.cell? ⟨b4, o4 + j * 8 + 2, none⟩ = some (.int .i64 x.ty) ∧ W.cell? ⟨b4, o4 + j * 8 + 3, none⟩ = some (.int .i64 x.ot) ∧ W.cell? ⟨b4, o4 + j * 8 + 4, none⟩ = some (.int .i64 x.sc) ∧ W.cell? ⟨b4, o4 + j * 8 + 5, none⟩ = some (.int .u64 x.va) ∧ W.cell? ⟨b4, o4 + j * 8 + 6, none⟩ = some (.int .u64 x.sz) ∧ W.cell? ⟨b4, o4 + j * 8 + 7, none⟩ = some (.int .u8 x.lt) := fun W hb => by
              obtain ⟨b5, o5, p5, e5, d⟩ := (HLR.out W hb).rw hx
              injection e5 with e5 _ _
              injection e5 with e5
              injection e5 with e5 e6
              subst e5 e6
              exact d
            have HDY : ∀ W, Below wr.heap.size wr W → W.cell? ⟨b4, o4 + i * 8, none⟩ = some (.string y.nm) ∧ W.cell? ⟨b4, o4 + i * 8 + 1, none⟩ = some (.int .i64 y.bd) ∧ W.cell? ⟨b4, o4 + i * 8 + 2, none⟩ = some (.int .i64 y.ty) ∧ W.cell? ⟨b4, o4 + i * 8 + 3, none⟩ = some (.int .i64 y.ot) ∧ W.cell? ⟨b4, o4 + i * 8 + 4, none⟩ = some (.int .i64 y.sc) ∧ W.cell? ⟨b4, o4 + i * 8 + 5, none⟩ = some (.int .u64 y.va) ∧ W.cell? ⟨b4, o4 + i * 8 + 6, none⟩ = some (.int .u64 y.sz) ∧ W.cell? ⟨b4, o4 + i * 8 + 7, none⟩ = some (.int .u8 y.lt) := fun W hb => by
              obtain ⟨b5, o5, p5, e5, d⟩ := (HLR.out W hb).rw hy
              injection e5 with e5 _ _
              injection e5 with e5
              injection e5 with e5 e6
              subst e5 e6
              exact d
            have HDX := hidK HDX
            have HDY := hidK HDY
            obtain ⟨p, hp⟩ : ∃ p, p = o.p := ⟨_, rfl⟩
            have HP3 : Hid (∀ W, Below wr.heap.size wr W → W.cell? ⟨w.heap.size, 3, none⟩ = some (.bool p) ∧ W.cell? ⟨w.heap.size, 2, none⟩ = some (.bool o.n)) := fun W hb => by
              have h1 := op_cells (hkeepK (HB20.out.trans (hb.mono HB20.out.size)) HY4.out)
              rw [hp]
              exact ⟨h1.2.2.2.1, h1.2.2.1⟩
            have HLT2 : Hid (p = false → ltR o.n y x = false) := by rw [hp]; exact HLT.out
            clear hx hy hB hp HLT HLR hj
            go_upto_region 22 with fail
            have hx0 : ∀ W, Below wr.heap.size wr W → W.cell? ⟨b4, o4 + j * 8, none⟩ = some (.string x.nm) := fun W hb => (HDX.out W hb).1
            have hx1 : ∀ W, Below wr.heap.size wr W → W.cell? ⟨b4, o4 + j * 8 + 1, none⟩ = some (.int .i64 x.bd) := fun W hb => (HDX.out W hb).2.1
            have hx2 : ∀ W, Below wr.heap.size wr W → W.cell? ⟨b4, o4 + j * 8 + 2, none⟩ = some (.int .i64 x.ty) := fun W hb => (HDX.out W hb).2.2.1
            have hx3 : ∀ W, Below wr.heap.size wr W → W.cell? ⟨b4, o4 + j * 8 + 3, none⟩ = some (.int .i64 x.ot) := fun W hb => (HDX.out W hb).2.2.2.1
            have hx4 : ∀ W, Below wr.heap.size wr W → W.cell? ⟨b4, o4 + j * 8 + 4, none⟩ = some (.int .i64 x.sc) := fun W hb => (HDX.out W hb).2.2.2.2.1
            have hx5 : ∀ W, Below wr.heap.size wr W → W.cell? ⟨b4, o4 + j * 8 + 5, none⟩ = some (.int .u64 x.va) := fun W hb => (HDX.out W hb).2.2.2.2.2.1
            have hx6 : ∀ W, Below wr.heap.size wr W → W.cell? ⟨b4, o4 + j * 8 + 6, none⟩ = some (.int .u64 x.sz) := fun W hb => (HDX.out W hb).2.2.2.2.2.2.1
            have hx7 : ∀ W, Below wr.heap.size wr W → W.cell? ⟨b4, o4 + j * 8 + 7, none⟩ = some (.int .u8 x.lt) := fun W hb => (HDX.out W hb).2.2.2.2.2.2.2
            have hy0 : ∀ W, Below wr.heap.size wr W → W.cell? ⟨b4, o4 + i * 8, none⟩ = some (.string y.nm) := fun W hb => (HDY.out W hb).1
            have hy1 : ∀ W, Below wr.heap.size wr W → W.cell? ⟨b4, o4 + i * 8 + 1, none⟩ = some (.int .i64 y.bd) := fun W hb => (HDY.out W hb).2.1
            have hy2 : ∀ W, Below wr.heap.size wr W → W.cell? ⟨b4, o4 + i * 8 + 2, none⟩ = some (.int .i64 y.ty) := fun W hb => (HDY.out W hb).2.2.1
            have hy3 : ∀ W, Below wr.heap.size wr W → W.cell? ⟨b4, o4 + i * 8 + 3, none⟩ = some (.int .i64 y.ot) := fun W hb => (HDY.out W hb).2.2.2.1
            have hy4 : ∀ W, Below wr.heap.size wr W → W.cell? ⟨b4, o4 + i * 8 + 4, none⟩ = some (.int .i64 y.sc) := fun W hb => (HDY.out W hb).2.2.2.2.1
            have hy5 : ∀ W, Below wr.heap.size wr W → W.cell? ⟨b4, o4 + i * 8 + 5, none⟩ = some (.int .u64 y.va) := fun W hb => (HDY.out W hb).2.2.2.2.2.1
            have hy6 : ∀ W, Below wr.heap.size wr W → W.cell? ⟨b4, o4 + i * 8 + 6, none⟩ = some (.int .u64 y.sz) := fun W hb => (HDY.out W hb).2.2.2.2.2.2.1
            have hy7 : ∀ W, Below wr.heap.size wr W → W.cell? ⟨b4, o4 + i * 8 + 7, none⟩ = some (.int .u8 y.lt) := fun W hb => (HDY.out W hb).2.2.2.2.2.2.2
            have hp3 : ∀ W, Below wr.heap.size wr W → W.cell? ⟨w.heap.size, 3, none⟩ = some (.bool p) := fun W hb => (HP3.out W hb).1
            have hp2 : ∀ W, Below wr.heap.size wr W → W.cell? ⟨w.heap.size, 2, none⟩ = some (.bool o.n) := fun W hb => (HP3.out W hb).2
            have hb0 : Below wr.heap.size wr wr := Below.refl _ _
            cases p with
            | true =>
              have hp0 := hp3 wr hb0
              clear hx0 hx1 hx2 hx3 hx4 hx5 hx6 hx7 hy0 hy1 hy2 hy3 hy4 hy5 hy6 hy7 hp3 hp2
              go_quiet (fail)
              have hB3 : Below w4.heap.size w4 (wr.drewN nq) := HB20.out.trans (((Gr.refl wr).drewN nq).below.mono HB20.out.size)
              go_wp2
              go_roundw
              case rel => exact ⟨i + 1, by go_num, by omega, hB3⟩
              case measure => simp [intOf]; omega
            | false =>
              have HLA : ∀ W, Below wr.heap.size wr W → Calls Try.prog 8 #[.agg #[.string x.nm, .int .i64 x.bd, .int .i64 x.ty, .int .i64 x.ot, .int .i64 x.sc, .int .u64 x.va, .int .u64 x.sz, .int .u8 x.lt], .agg #[.string y.nm, .int .i64 y.bd, .int .i64 y.ty, .int .i64 y.ot, .int .i64 y.sc, .int .u64 y.va, .int .u64 y.sz, .int .u8 y.lt], .bool o.n] W fun e w' => e = .returned (.bool false) ∧ Below wr.heap.size wr w' := fun W hb => (late_c o.n x y W (HLT2.out rfl)).mono (by
                rintro e w' ⟨q1, q2⟩
                exact ⟨q1, hb.trans (q2.below.mono hb.size)⟩)
              go_region_held3 (fun w' => Below wr.heap.size wr w') (first | assumption | exact hb0.drew | exact hSw.drew) (first
                | (go_at_call 8; refine (HLA _ (by assumption)).mono ?_; rintro e w22 ⟨rfl, hS22⟩))
              have hB3 : Below w4.heap.size w4 w22 := HB20.out.trans (hS22.mono HB20.out.size)
              clear hx0 hx1 hx2 hx3 hx4 hx5 hx6 hx7 hy0 hy1 hy2 hy3 hy4 hy5 hy6 hy7 hp3 hp2 HLA hS22
              go_wp2
              go_roundw
              case rel => exact ⟨i + 1, by go_num, by omega, hB3⟩
              case measure => simp [intOf]; omega
          · have iI : ¬ (i : Int) < (q : Int) := by omega
            have HW : Hid (Below w.heap.size w wr) := by
              have h1 := HB3.out
              have h2 := h1.trans (HS4.out.mono h1.size)
              exact h2.trans (HB20.out.mono h2.size)
            have HYr : Hid (wr.heap[w.heap.size]? = some (opO (opR o false))) := hkeepK HB20.out HY4.out
            have HLr : Hid (OwR (fun b => w3.heap.size ≤ b) wr (.slice a4 q c4) (ordL o L)) := HL4.out.on HB20.out
            have hlt : w.heap.size < w3.heap.size := by
              rcases Nat.lt_or_ge w.heap.size w3.heap.size with h | h
              · exact h
              · have := HY3'.out; rw [Array.getElem?_eq_none h] at this; cases this
            have HLT := hidK hlt
            clear hB hi hlt
            go_upto_region 25 with (refine wpList_store_row_G rfl rfl 4 (.tmp 96) (.const (.bool true)) rfl w.heap.size 4 (.bool true) rfl rfl 24 #[.bool o.g, .bool o.u, .bool o.n, .bool o.p, .bool false, .bool o.a, .bool o.s] #[.bool o.g, .bool o.u, .bool o.n, .bool o.p, .bool true, .bool o.a, .bool o.s] HYr.out (by kernel_rfl) rfl rfl rfl ?_; intro w24 hW24 hG24; have HY24 : Hid (w24.heap[w.heap.size]? = some (opO (opR o true))) := hW24; have HB24 : Hid (Below w.heap.size w w24) := belS HW.out hG24 (Nat.le_refl _) (Nat.le_refl _); have HL24 : Hid (OwR (fun b => w3.heap.size ≤ b) w24 (.slice a4 q c4) (ordL o L)) := HLr.out.kp (Kp.grown (F := fun z => z = w.heap.size) hG24 (fun k hk => by injection hk with hk; exact hk.symm)) (fun z hz he => by have h1 := HLr.out.2 z hz; have h2 := HLT.out; subst he; exact Nat.lt_irrefl _ (Nat.lt_of_lt_of_le h2 h1)); clear hW24 hG24)
            have HV24 : Hid (RowG rwL w24 (.slice a1 k c1) L) := HV.out.on HB24.out
            have HSA : ∀ (W : World) (u : Value), Below w24.heap.size w24 W → RowG rwL W u L → Calls Try.prog 5 #[u, .agg #[.bool o.g, .bool o.u, .bool o.n, .bool o.p, .bool true, .bool o.a, .bool o.s]] W fun e w' => ∃ a l c, e = .returned (.slice a l c) ∧ RowG rwL w' (.slice a l c) (ordL o L).reverse ∧ Below w24.heap.size w24 w' := fun W u hb h1 => (HSO.out W u L true h1 HLn.out).mono (by
              rintro e w' ⟨a, l, c, rfl, q1, q2⟩
              exact ⟨a, l, c, rfl, q1.row elR, bel3K hb q2⟩)
            have HTB : Hid (∀ W, Below w24.heap.size w24 W → Calls Try.prog 6 #[.slice a1 k c1] W fun e w' => ∃ a l c, e = .returned (.slice a l c) ∧ RowG rwL w' (.slice a l c) L ∧ Below w24.heap.size w24 w') := fun W hb => (HTW.out W _ L (HV24.out.on hb) HLn.out).mono (by
              rintro e w' ⟨a, l, c, rfl, q1, q2⟩
              exact ⟨a, l, c, rfl, q1.row elR, bel3K hb q2⟩)
            obtain ⟨hv0, hv1, hv2, hv3, hv4, hv5, hv6⟩ : (∀ W, Below w24.heap.size w24 W → W.cell? ⟨w.heap.size, 0, none⟩ = some (.bool o.g)) ∧ (∀ W, Below w24.heap.size w24 W → W.cell? ⟨w.heap.size, 1, none⟩ = some (.bool o.u)) ∧ (∀ W, Below w24.heap.size w24 W → W.cell? ⟨w.heap.size, 2, none⟩ = some (.bool o.n)) ∧ (∀ W, Below w24.heap.size w24 W → W.cell? ⟨w.heap.size, 3, none⟩ = some (.bool o.p)) ∧ (∀ W, Below w24.heap.size w24 W → W.cell? ⟨w.heap.size, 4, none⟩ = some (.bool true)) ∧ (∀ W, Below w24.heap.size w24 W → W.cell? ⟨w.heap.size, 5, none⟩ = some (.bool o.a)) ∧ (∀ W, Below w24.heap.size w24 W → W.cell? ⟨w.heap.size, 6, none⟩ = some (.bool o.s)) :=
              ⟨fun W hb => (op_cells (hkeepK hb HY24.out)).1, fun W hb => (op_cells (hkeepK hb HY24.out)).2.1, fun W hb => (op_cells (hkeepK hb HY24.out)).2.2.1, fun W hb => (op_cells (hkeepK hb HY24.out)).2.2.2.1, fun W hb => (op_cells (hkeepK hb HY24.out)).2.2.2.2.1, fun W hb => (op_cells (hkeepK hb HY24.out)).2.2.2.2.2.1, fun W hb => (op_cells (hkeepK hb HY24.out)).2.2.2.2.2.2⟩
            have hb0 : Below w24.heap.size w24 w24 := Below.refl _ _
            go_region_held3 (fun w' => Below w24.heap.size w24 w') (first | assumption | exact hb0.drew | exact hSw.drew) (first
              | (go_at_call 6; refine (HTB.out _ (by assumption)).mono ?_; rintro e wt ⟨at5, lt5, ct5, rfl, hqt, hSt⟩)
              | (go_at_call 5; refine (HSA _ _ (by assumption) (by first | exact hqt | exact hqt.on (Below.refl _ _).drew)).mono ?_; rintro e w25 ⟨a5, l5, c5, rfl, hq5, hS5⟩))
            have HS25 := hidK hS5
            have HL25 := hidK hq5
            clear hq5 hS5 hqt hSt hb0 hv0 hv1 hv2 hv3 hv4 hv5 hv6 HSA HTB
            have hl5 : l5 = q := by
              obtain ⟨_, _, e, _⟩ := HL25.out.form
              injection e with _ e2 _
              rw [e2, List.length_reverse, ← HQ4.out]
            subst hl5
            have HE4 : Hid (∀ W, Below w25.heap.size w25 W → RowG rwL W (.slice a4 l5 c4) (ordL o L) ∧ RowG rwL W (.slice a5 l5 c5) (ordL o L).reverse) := fun W hb => ⟨(HL24.out.row elR).on (HS25.out.trans (hb.mono HS25.out.size)), HL25.out.on hb⟩
            go_wp2
            go_loopw [12] (fun i wx => ∃ k : Nat, i = .int .i64 k ∧ k ≤ l5 ∧ Below w25.heap.size w25 wx) (fun i _ => l5 - (intOf i).toNat)
            case atStart => exact ⟨0, rfl, Nat.zero_le _, Below.refl _ _⟩
            case round =>
              obtain ⟨j, rfl, hj5, hB⟩ := hrel
              have HB29 := hidK hB
              by_cases hj : j < l5
              · obtain ⟨m1, hm1⟩ : ∃ m, m + 1 = l5 := ⟨l5 - 1, by omega⟩
                obtain ⟨t, ht⟩ : ∃ t, t + j = m1 := ⟨m1 - j, by omega⟩
                have jI : (j : Int) < (l5 : Int) := by omega
                have j0 : (0 : Int) ≤ (j : Int) := by omega
                have tI : (t : Int) < (l5 : Int) := by omega
                have t0 : (0 : Int) ≤ (t : Int) := by omega
                have m1s : (l5 : Int) - 1 = (m1 : Int) := by omega
                have m1w : IntKind.i64.wrap (m1 : Int) = (m1 : Int) := by rw [IntKind.wrap_i64]; omega
                have ts : (m1 : Int) - (j : Int) = (t : Int) := by omega
                have tw : IntKind.i64.wrap (t : Int) = (t : Int) := by rw [IntKind.wrap_i64]; omega
                have jw : IntKind.i64.wrap ((j : Int) + 1) = (j : Int) + 1 := by rw [IntKind.wrap_i64]; omega
                obtain ⟨x, hx⟩ : ∃ x, (ordL o L)[j]? = some x := ⟨_, List.getElem?_eq_getElem (by have := HQ4.out; omega)⟩
                have hy : (ordL o L).reverse[t]? = some x := by
                  have h1 := rev_at hx
                  rw [← HQ4.out] at h1
                  rw [show t = l5 - 1 - j by omega]; exact h1
                obtain ⟨b4, o4, p4, e4, d0, d1, d2, d3, d4, d5, d6, d7⟩ := (HE4.out wr hB).1.rw hx
                obtain ⟨b5, o5, p5, e5, f0, f1, f2, f3, f4, f5, f6, f7⟩ := (HE4.out wr hB).2.rw hy
                injection e4 with e4 e4b e4c
                injection e5 with e5 e5b e5c
                subst e4 e5
                have hE := fun W => eqRw x x W
                simp only [decide_true] at hE
                unfold rwV at hE
                clear hx hy e4b e4c e5b e5c hm1 ht hB
                go_upto_region 31 with fail
                go_quiet (fail)
                have hB3 : Below w25.heap.size w25 (wr.drewN nq) := HB29.out.trans (((Gr.refl wr).drewN nq).below.mono HB29.out.size)
                go_wp2
                go_roundw
                case rel => exact ⟨j + 1, by go_num, by omega, hB3⟩
                case measure => simp [intOf]; omega
              · obtain rfl : j = l5 := by omega
                go_wp2
                go_ret
                have h1 := HB24.out.trans (HS25.out.mono HB24.out.size)
                exact ⟨rfl, h1.trans (HB29.out.mono h1.size)⟩
end Go.Proofs.Ytbmdclgndlddbaa
