
-- picked, nm.Sort.
import Derived.Test.YtbmdclgndlddbaaSP
namespace Go.Proofs.Ytbmdclgndlddbaa
open Go.ChangeShapes Go.WideShapes Go.ChangeAt Go.RowKit Go.Sort
set_option linter.unusedVariables false
set_option maxRecDepth 100000
theorem RowG.rw {w : World} {v : Value} {L : List Rw} {k : Nat} {x : Rw} (h : RowG rwL w v L) (hx : L[k]? = some x) : ∃ b off cap, v = .slice (some ⟨b, off, none⟩) L.length cap ∧ w.cell? ⟨b, off + k * 8, none⟩ = some (.string x.nm) ∧ w.cell? ⟨b, off + k * 8 + 1, none⟩ = some (.int .i64 x.bd) ∧ w.cell? ⟨b, off + k * 8 + 2, none⟩ = some (.int .i64 x.ty) ∧ w.cell? ⟨b, off + k * 8 + 3, none⟩ = some (.int .i64 x.ot) ∧ w.cell? ⟨b, off + k * 8 + 4, none⟩ = some (.int .i64 x.sc) ∧ w.cell? ⟨b, off + k * 8 + 5, none⟩ = some (.int .u64 x.va) ∧ w.cell? ⟨b, off + k * 8 + 6, none⟩ = some (.int .u64 x.sz) ∧ w.cell? ⟨b, off + k * 8 + 7, none⟩ = some (.int .u8 x.lt) := by
  obtain ⟨b, off, cap, e, _, _, hc⟩ := RowG.at rwL_len h hx
  exact ⟨b, off, cap, e, hc 0 _ rfl, hc 1 _ rfl, hc 2 _ rfl, hc 3 _ rfl, hc 4 _ rfl, hc 5 _ rfl, hc 6 _ rfl, hc 7 _ rfl⟩
def pickL (g u : Bool) (L : List Rw) : List Rw := L.filter (fun x => !leftO g u x)
theorem pick_take {g u : Bool} {L : List Rw} {k : Nat} {x : Rw} (h : L[k]? = some x) : pickL g u (L.take (k + 1)) = if leftO g u x = true then pickL g u (L.take k) else pickL g u (L.take k) ++ [x] := by
  unfold pickL
  rw [takeSucc h, List.filter_append]
  cases hl : leftO g u x <;> simp [hl]
theorem pick_len (g u : Bool) (L : List Rw) : (pickL g u L).length ≤ L.length := List.length_filter_le _ _
set_option maxHeartbeats 16000000 in
theorem picked_c (v : Value) (L : List Rw) (o : Op7) (w : World) (h : RowG rwL w v L) (hn : L.length ≤ 1048576) :
    Calls Try.prog 11 #[v, opV o] w fun e w' => ∃ a l c, e = .returned (.slice a l c) ∧ OwR (fun b => w.heap.size ≤ b) w' (.slice a l c) (pickL o.g o.u L) ∧ Below w.heap.size w w' := by
  obtain ⟨a1, c1, q1, _, _⟩ := h.form
  obtain ⟨n, hnn⟩ : ∃ n, n = L.length := ⟨_, rfl⟩
  have HN := hidK hnn
  subst q1
  rw [← hnn] at hn ⊢ h
  obtain ⟨Y, hY⟩ : ∃ Y, Y = opO o := ⟨_, rfl⟩
  obtain ⟨w1, hw1⟩ : ∃ w1, w1 = w.alloc Y := ⟨_, rfl⟩
  have hb1 : Below w.heap.size w w1 := by rw [hw1]; exact (Below.refl _ _).alloc (Nat.le_refl _) _
  have y0 : w1.heap[w.heap.size]? = some (opO o) := by rw [hw1, heap_alloc_new, hY]
  have HV := hidK (h.on hb1)
  have HB1 := hidK hb1
  have HY := hidK y0
  have HLO : Hid (∀ (x : Rw) (W : World), Calls Try.prog 21 #[rwV x, opV o] W fun e w' => e = .returned (.bool (leftO o.g o.u x)) ∧ Gr W w') := fun x W => leftOut_c x o W
  unfold opO at hY
  unfold rwV opV at HLO
  unfold opV
  clear h hnn hb1 y0
  subst hY
  go_enter Try.func11, Try.ntmps11
  go_upto_region 1 with fail
  rw [← hw1]
  clear hw1
  go_wp2
  go_loopw [5, 10] (fun v i wx => ∃ (k : Nat) (a : Option Addr) (l c : Nat), i = .int .i64 k ∧ k ≤ n ∧ v = .slice a l c ∧ OwR (fun b => w1.heap.size ≤ b) wx (.slice a l c) (pickL o.g o.u (L.take k)) ∧ Below w1.heap.size w1 wx) (fun _ i _ => n - (intOf i).toNat)
  case atStart => exact ⟨0, none, 0, 0, rfl, Nat.zero_le _, rfl, OwnF.nil, Below.refl _ _⟩
  case round =>
    obtain ⟨k, ao, lo, co, rfl, hkn, rfl, ho, hB⟩ := hrel
    have HO := hidK ho
    have HB0 := hidK hB
    by_cases hk : k < n
    · have kI : (k : Int) < (n : Int) := by omega
      have k0 : (0 : Int) ≤ (k : Int) := by omega
      have kw : IntKind.i64.wrap ((k : Int) + 1) = (k : Int) + 1 := by rw [IntKind.wrap_i64]; omega
      obtain ⟨x, hx⟩ : ∃ x, L[k]? = some x := ⟨_, List.getElem?_eq_getElem (by have := HN.out; omega)⟩
      obtain ⟨b1, o1, p1, e1, d0, d1, d2, d3, d4, d5, d6, d7⟩ := (HV.out.on hB).rw hx
      have HX := hidK hx
      injection e1 with e1 e1b e1c
      subst e1
      obtain ⟨X, hX⟩ : ∃ X, X = rwO x := ⟨_, rfl⟩
      obtain ⟨wA, hwA⟩ : ∃ wA, wA = wr.alloc X := ⟨_, rfl⟩
      have hbA : Below wr.heap.size wr wA := by rw [hwA]; exact (Below.refl _ _).alloc (Nat.le_refl _) _
      have x0 : wA.heap[wr.heap.size]? = some (rwO x) := by rw [hwA, heap_alloc_new, hX]
      obtain ⟨x1, x2, x3, x4, x5, x6, x7, x8⟩ := rw_cells x0
      obtain ⟨y1, y2, y3, y4, y5, y6, y7⟩ := op_cells (hkeepK (hB.trans (hbA.mono hB.size)) HY.out)
      have HA := hidK (HLO.out x wA)
      have HX0 := hidK x0
      have HBA : Hid (Below w1.heap.size w1 wA) := hB.trans (hbA.mono hB.size)
      have HOA : Hid (∀ W, Gr wA W → OwR (fun b => w1.heap.size ≤ b) W (.slice ao lo co) (pickL o.g o.u (L.take k))) := fun W hg => (ho.on hbA).on hg.below
      have HPT : Hid (pickL o.g o.u (L.take (k + 1)) = if leftO o.g o.u x = true then pickL o.g o.u (L.take k) else pickL o.g o.u (L.take k) ++ [x]) := pick_take hx
      have HPL : Hid ((pickL o.g o.u (L.take k)).length ≤ 1048576) := by show _ ≤ _; have h1 := pick_len o.g o.u (L.take k); have h2 := List.length_take_le k L; omega
      unfold rwO at hX
      clear hx e1b e1c x0 ho hB hbA
      subst hX
      go_upto_region 5 with fail
      rw [← hwA]
      clear hwA d0 d1 d2 d3 d4 d5 d6 d7
      cases hl : leftO o.g o.u x with
      | true =>
        rw [hl] at HA
        have HL := hidK hl
        clear hl
        go_wp2_with (go_at_call 21; refine HA.out.mono ?_; rintro e w2 ⟨rfl, hg⟩; have HG := hidK hg; clear hg)
        go_roundw
        case rel => exact ⟨k + 1, _, _, _, by go_num, by omega, rfl, by rw [HPT.out, if_pos HL.out]; exact HOA.out _ HG.out, HBA.out.trans (HG.out.below.mono HBA.out.size)⟩
        case measure => simp [intOf]; omega
      | false =>
        rw [hl] at HA
        have HL := hidK hl
        clear hl
        go_upto_region 6 with (go_at_call 21; refine HA.out.mono ?_; rintro e w2 ⟨rfl, hg⟩; have HG := hidK hg; clear hg)
        obtain ⟨z1, z2, z3, z4, z5, z6, z7, z8⟩ := rw_cells (hkeepK HG.out.below HX0.out)
        have HB2 : Hid (Below w1.heap.size w1 w2) := HBA.out.trans (HG.out.below.mono HBA.out.size)
        have HO2 := hidK (HOA.out _ HG.out)
        clear x1 x2 x3 x4 x5 x6 x7 x8 y1 y2 y3 y4 y5 y6 y7
        go_wp2_with (refine wpG_one (F := fun b => w1.heap.size ≤ b) elR rfl (.tmp 18) (.tmp 20) rfl (.slice ao lo co) _ x #[.string x.nm, .int .i64 x.bd, .int .i64 x.ty, .int .i64 x.ot, .int .i64 x.sc, .int .u64 x.va, .int .u64 x.sz, .int .u8 x.lt] rfl rfl rfl HO2.out (rwL_one _) (by have := HPL.out; omega) (fun b hb => Nat.le_trans HB2.out.size hb) ?_; intro v4 w4 o4 k4 l4; have HO4 := hidK o4; have HK4 := hidK k4; obtain ⟨a4, p4, e4, _⟩ := o4.form; obtain ⟨m4, hm4⟩ : ∃ m, m = (pickL o.g o.u (L.take k) ++ [x]).length := ⟨_, rfl⟩; rw [← hm4] at e4; clear hm4 o4 k4 l4; subst e4)
        go_roundw
        case rel => exact ⟨k + 1, _, _, _, by go_num, by omega, rfl, by rw [HPT.out, if_neg (by rw [HL.out]; decide)]; exact HO4.out, HB2.out.trans (HK4.out.below (fun b hb => HO2.out.2 b hb) HB2.out.size)⟩
        case measure => simp [intOf]; omega
    · obtain rfl : k = n := by omega
      have HE : Hid (OwR (fun b => w1.heap.size ≤ b) wr (.slice ao lo co) (pickL o.g o.u L)) := by
        have := HO.out
        rw [HN.out, List.take_length] at this
        exact this
      clear ho hB HV
      go_wp2
      go_ret
      exact ⟨_, _, _, rfl, HE.out.weak (fun b hb => Nat.le_trans HB1.out.size hb), HB1.out.trans (HB0.out.mono HB1.out.size)⟩
def ordL (o : Op7) (L : List Rw) : List Rw := if o.p = true then pickL o.g o.u L else ordG (ltR o.n) (pickL o.g o.u L).length (pickL o.g o.u L)
def sortL (o : Op7) (L : List Rw) : List Rw := if o.r = true then (ordL o L).reverse else ordL o L
theorem ordL_len (o : Op7) (L : List Rw) : (ordL o L).length ≤ L.length := by
  unfold ordL
  have := pick_len o.g o.u L
  split
  · exact this
  · rw [ordG_len]; exact this
theorem sortL_len (o : Op7) (L : List Rw) : (sortL o L).length ≤ L.length := by
  have := ordL_len o L
  unfold sortL
  split
  · rw [List.length_reverse]; exact this
  · exact this
set_option maxHeartbeats 16000000 in
theorem nmSort_c (v : Value) (L : List Rw) (o : Op7) (w : World) (h : RowG rwL w v L) (hn : L.length ≤ 1048576) :
    Calls Try.prog 5 #[v, opV o] w fun e w' => ∃ a l c, e = .returned (.slice a l c) ∧ OwR (fun b => w.heap.size ≤ b) w' (.slice a l c) (sortL o L) ∧ Below w.heap.size w w' := by
  obtain ⟨Y, hY⟩ : ∃ Y, Y = opO o := ⟨_, rfl⟩
  obtain ⟨w1, hw1⟩ : ∃ w1, w1 = w.alloc Y := ⟨_, rfl⟩
  have hb1 : Below w.heap.size w w1 := by rw [hw1]; exact (Below.refl _ _).alloc (Nat.le_refl _) _
  have hs1 : w1.heap.size = w.heap.size + 1 := by rw [hw1]; simp
  have y0 : w1.heap[w.heap.size]? = some (opO o) := by rw [hw1, heap_alloc_new, hY]
  have HP := hidK (picked_c v L o w1 (h.on hb1) hn)
  have HB1 := hidK hb1
  have HS1 := hidK hs1
  have HY := hidK y0
  have HPL : Hid ((pickL o.g o.u L).length ≤ 1048576) := Nat.le_trans (pick_len _ _ _) hn
  obtain ⟨x1, x2, x3, x4, x5, x6, x7⟩ := op_cells y0
  obtain ⟨og, ou, on, op, or, oa, os⟩ := o
  unfold opO at hY
  unfold opV at HP ⊢
  simp only at hY HP HPL x1 x2 x3 x4 x5 x6 x7 ⊢
  have HBX : Hid (∀ (w2 W : World) (v2 : Value), Below w1.heap.size w1 w2 → (∀ k, v2.ownBlock = some k → w1.heap.size ≤ k) → Kp (fun k => v2.ownBlock = some k) w2 W → W.heap[w.heap.size]? = some (opO ⟨og, ou, on, op, or, oa, os⟩) ∧ Below w1.heap.size w1 W) := fun w2 W v2 hb hF hk => by
    have hx := hkeepK hb HY.out
    refine ⟨(hk.block _ (Array.getElem?_eq_some_iff.1 hx).1 (fun e => ?_)).trans hx, hb.trans (hk.below (fun k hk => hF k hk) hb.size)⟩
    have h1 : w1.heap.size ≤ w.heap.size := hF _ e
    have := HS1.out
    omega
  have HSRT : Hid (∀ (w2 : World) (v2 : Value), OwR (fun b => w1.heap.size ≤ b) w2 v2 (pickL og ou L) → w2.cell? ⟨w.heap.size, 2, none⟩ = some (.bool on) → Calls Try.prog 12 #[v2, .func (.func 13) #[] #[.pointer (some ⟨w.heap.size, 0, none⟩)]] w2 fun e w' => e = .returned (.tuple #[]) ∧ OwR (fun b => w1.heap.size ≤ b) w' v2 (ordG (ltR on) (pickL og ou L).length (pickL og ou L)) ∧ Kp (fun k => v2.ownBlock = some k) w2 w') := fun w2 v2 h1 h2 => sortR_c on _ _ _ w.heap.size w2 h1 HPL.out (fun g hg e => by have h3 : w1.heap.size ≤ g := h1.2 g hg; have := HS1.out; omega) h2
  have HREV : Hid (∀ (w2 : World) (v2 : Value) (L2 : List Rw), OwR (fun b => w1.heap.size ≤ b) w2 v2 L2 → L2.length ≤ 1048576 → Calls Try.prog 18 #[v2] w2 fun e w' => e = .returned (.tuple #[]) ∧ OwR (fun b => w1.heap.size ≤ b) w' v2 L2.reverse ∧ Kp (fun k => v2.ownBlock = some k) w2 w') := fun w2 v2 L2 h1 h2 => revR_c _ _ _ _ h1 h2
  clear h hb1 y0 hs1
  subst hY
  cases op
  · cases or
    · go_enter Try.func5, Try.ntmps5
      go_upto_region 1 with fail
      rw [← hw1]
      clear hw1
      go_upto_region 2 with (go_at_call 11; refine HP.out.mono ?_; rintro e w2 ⟨a2, l2, c2, rfl, ho, hb⟩; have HO := hidK ho; have HB2 := hidK hb; clear ho hb)
      clear x1 x2 x3 x4 x5 x6 x7
      obtain ⟨x1, x2, x3, x4, x5, x6, x7⟩ := op_cells (hkeepK HB2.out HY.out)
      have HA := hidK (HSRT.out w2 _ HO.out x3)
      go_wp2_with (go_at_call 12; refine HA.out.mono ?_; rintro e w3 ⟨rfl, q1, q2⟩; have HO3 := hidK q1; have HK3 := hidK q2; obtain ⟨y1, y2, y3, y4, y5, y6, y7⟩ := op_cells (HBX.out _ _ _ HB2.out HO.out.2 q2).1; clear q1 q2)
      go_ret
      exact ⟨_, _, _, rfl, HO3.out.weak (fun b hb => Nat.le_trans HB1.out.size hb), HB1.out.trans ((HBX.out _ _ _ HB2.out HO.out.2 HK3.out).2.mono HB1.out.size)⟩
    · go_enter Try.func5, Try.ntmps5
      go_upto_region 1 with fail
      rw [← hw1]
      clear hw1
      go_upto_region 2 with (go_at_call 11; refine HP.out.mono ?_; rintro e w2 ⟨a2, l2, c2, rfl, ho, hb⟩; have HO := hidK ho; have HB2 := hidK hb; clear ho hb)
      clear x1 x2 x3 x4 x5 x6 x7
      obtain ⟨x1, x2, x3, x4, x5, x6, x7⟩ := op_cells (hkeepK HB2.out HY.out)
      have HA := hidK (HSRT.out w2 _ HO.out x3)
      go_wp2_with (first
        | (go_at_call 12; refine HA.out.mono ?_; rintro e w3 ⟨rfl, q1, q2⟩; have HO3 := hidK q1; have HK3 := hidK q2; obtain ⟨y1, y2, y3, y4, y5, y6, y7⟩ := op_cells (HBX.out _ _ _ HB2.out HO.out.2 q2).1; clear q1 q2)
        | (go_at_call 18; refine (HREV.out _ _ _ HO3.out (by rw [ordG_len]; exact HPL.out)).mono ?_; rintro e w4 ⟨rfl, q1, q2⟩; have HO4 := hidK q1; have HK4 := hidK q2; clear q1 q2))
      go_ret
      exact ⟨_, _, _, rfl, HO4.out.weak (fun b hb => Nat.le_trans HB1.out.size hb), HB1.out.trans ((HBX.out _ _ _ HB2.out HO.out.2 (HK3.out.trans HK4.out)).2.mono HB1.out.size)⟩
  · cases or
    · go_enter Try.func5, Try.ntmps5
      go_upto_region 1 with fail
      rw [← hw1]
      clear hw1
      go_upto_region 2 with (go_at_call 11; refine HP.out.mono ?_; rintro e w2 ⟨a2, l2, c2, rfl, ho, hb⟩; have HO := hidK ho; have HB2 := hidK hb; clear ho hb)
      clear x1 x2 x3 x4 x5 x6 x7
      obtain ⟨x1, x2, x3, x4, x5, x6, x7⟩ := op_cells (hkeepK HB2.out HY.out)
      go_wp2
      go_ret
      exact ⟨_, _, _, rfl, HO.out.weak (fun b hb => Nat.le_trans HB1.out.size hb), HB1.out.trans (HB2.out.mono HB1.out.size)⟩
    · go_enter Try.func5, Try.ntmps5
      go_upto_region 1 with fail
      rw [← hw1]
      clear hw1
      go_upto_region 2 with (go_at_call 11; refine HP.out.mono ?_; rintro e w2 ⟨a2, l2, c2, rfl, ho, hb⟩; have HO := hidK ho; have HB2 := hidK hb; clear ho hb)
      clear x1 x2 x3 x4 x5 x6 x7
      obtain ⟨x1, x2, x3, x4, x5, x6, x7⟩ := op_cells (hkeepK HB2.out HY.out)
      go_wp2_with (go_at_call 18; refine (HREV.out _ _ _ HO.out HPL.out).mono ?_; rintro e w4 ⟨rfl, q1, q2⟩; have HO4 := hidK q1; have HK4 := hidK q2; clear q1 q2)
      go_ret
      exact ⟨_, _, _, rfl, HO4.out.weak (fun b hb => Nat.le_trans HB1.out.size hb), HB1.out.trans ((HBX.out _ _ _ HB2.out HO.out.2 HK4.out).2.mono HB1.out.size)⟩
end Go.Proofs.Ytbmdclgndlddbaa
