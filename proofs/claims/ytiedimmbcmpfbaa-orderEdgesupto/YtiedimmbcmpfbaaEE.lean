
-- order.Edges, walked.
import Derived.Test.YtiedimmbcmpfbaaEP
namespace Go.Proofs.Ytiedimmbcmpfbaa
open Go.ChangeShapes Go.WideShapes Go.ChangeAt Go.RowKit Go.MapKept
set_option linter.unusedVariables false
set_option maxRecDepth 100000
theorem no_cells {w : World} {b : Nat} {v0 v1 v2 : Value} {t : TypeId} (h : w.heap[b]? = some (.cells #[v0, v1, v2] t (0, 0))) : w.cell? ⟨b, 0, none⟩ = some v0 ∧ w.cell? ⟨b, 1, none⟩ = some v1 ∧ w.cell? ⟨b, 2, none⟩ = some v2 := ⟨cell_rowK h 0 _ rfl, cell_rowK h 1 _ rfl, cell_rowK h 2 _ rfl⟩
abbrev DsEs (F : Nat → Prop) (g bm : Nat) (o : List Ed) (w : World) : Prop := ∃ vl, DsE F g o o w vl bm
set_option maxHeartbeats 32000000 in
theorem edges_c (v : Value) (vs : List Nv) (Ns : List No) (w : World) (h : NodesAt (fun b => w.heap.size ≤ b) w v vs Ns) (hn : Ns.length ≤ 1048576) (hd : ∀ N ∈ Ns, N.df.length ≤ 4398046511104 ∧ N.nd.length ≤ 4398046511104) :
    Calls Try.prog 5 #[v] w fun e w' => ∃ a l c, e = .returned (.slice a l c) ∧ OwnF (fun b => w.heap.size ≤ b) edL 2 38 w' (.slice a l c) (edgesP Ns Ns.length) ∧ Below w.heap.size w w' := by
  have HC := hidK (definers_c v vs Ns w h (by omega) (fun N hN => (hd N hN).1))
  obtain ⟨a1, c1, q1, _, _⟩ := h.row.row.form
  obtain ⟨n, hnn⟩ : ∃ n, n = vs.length := ⟨_, rfl⟩
  have HN := hidK hnn
  have HNN : Hid (n = Ns.length) := hnn.trans h.len
  have HV := hidK h
  have HD := hidK hd
  rw [← hnn] at q1
  have HNL := hidK hn
  rw [← HNN.out] at hn ⊢
  subst q1
  clear h hnn hd
  go_enter Try.func5, Try.ntmps5
  go_upto_region 2 with (go_at_call 10; refine HC.out.mono ?_; rintro e w1 ⟨bd, rfl, hd1, hb1⟩; have HD1 := hidK hd1; have HB1 := hidK hb1; clear hd1 hb1)
  have HDF : Hid (DfAt (fun q => q < w1.heap.size) w1 bd (defK Ns Ns.length)) := HD1.out.into (fun q h1 _ => h1)
  have HNW := hidK (newE_c w1)
  clear HD1 HC
  go_wp2_with (go_at_call 11; refine HNW.out.mono ?_; rintro e w2 ⟨rfl, hd2, hb2⟩; have HD2 := hidK hd2; have HB2 := hidK hb2; clear hd2 hb2)
  go_loopw [16] (fun i wx => ∃ (k : Nat), i = .int .i64 k ∧ k ≤ n ∧ DsEs (fun b => w1.heap.size ≤ b) (w1.heap.size + 1) w1.heap.size (edgesP Ns k) wx ∧ Below w1.heap.size w1 wx) (fun i _ => n - (intOf i).toNat)
  case atStart => exact ⟨0, rfl, Nat.zero_le _, ⟨_, HD2.out⟩, HB2.out⟩
  case round =>
    obtain ⟨k, rfl, hkn, ⟨vl, ho⟩, hB⟩ := hrel
    have HO := hidK ho
    have HB0 := hidK hB
    have HBW : Hid (Below w.heap.size w wr) := HB1.out.trans (hB.mono HB1.out.size)
    by_cases hk : k < n
    · have kI : (k : Int) < (n : Int) := by omega
      have k0 : (0 : Int) ≤ (k : Int) := by omega
      have kw : IntKind.i64.wrap ((k : Int) + 1) = (k : Int) + 1 := by rw [IntKind.wrap_i64]; omega
      obtain ⟨x, hx⟩ : ∃ x, vs[k]? = some x := ⟨_, List.getElem?_eq_getElem (by have := HN.out; omega)⟩
      obtain ⟨N, hN⟩ : ∃ x, Ns[k]? = some x := ⟨_, List.getElem?_eq_getElem (by have := HNN.out; omega)⟩
      have hV := HV.out.below HBW.out
      obtain ⟨b1, o1, p1, e1, d0, d1, d2⟩ := hV.row.row.no hx
      obtain ⟨hnm, hdf, hnd⟩ := hV.at_ k x N hx hN
      obtain ⟨nm, ⟨da, dl, dc⟩, ⟨na, nl, nc⟩⟩ := x
      simp only [slV] at d0 d1 d2 hdf hnd hnm
      subst hnm
      have HX := hidK hN
      injection e1 with e1 e1b e1c
      subst e1
      obtain ⟨X, hX⟩ : ∃ X, X = Obj.cells #[.string N.nm, .slice da dl dc, .slice na nl nc] 29 := ⟨_, rfl⟩
      have hbX : Below wr.heap.size wr (wr.alloc X) := (Below.refl _ _).alloc (Nat.le_refl _) X
      have hsX : (wr.alloc X).heap.size = wr.heap.size + 1 := by simp
      obtain ⟨z0, hz0⟩ : ∃ z, z = wr.heap.size := ⟨_, rfl⟩
      have x0 : (wr.alloc X).heap[z0]? = some (.cells #[.string N.nm, .slice da dl dc, .slice na nl nc] 29 (0, 0)) := by rw [hz0, heap_alloc_new, hX]
      obtain ⟨F3, hF3⟩ : ∃ F : Nat → Prop, F = fun q => w1.heap.size ≤ q ∧ q ≠ z0 := ⟨_, rfl⟩
      have hE : Eok Ns (edgesP Ns k) := edgesP_ok Ns k
      have ho3 : DsE F3 (w1.heap.size + 1) (edgesP Ns k) (edgesP Ns k) (wr.alloc X) vl w1.heap.size := by
        refine (ho.on hbX).into ?_ ?_ ?_
        · rw [hF3]; have := ho.glt; exact ⟨by omega, by omega⟩
        · rw [hF3]; have := ho.mp.lt; exact ⟨by omega, by omega⟩
        · intro q hq; rw [hF3]; have := ho.own.lt q hq; have h2 : w1.heap.size ≤ q := ho.own.2 q hq; exact ⟨h2, by omega⟩
      have HA := hidK (addE_c F3 (w1.heap.size + 1) (edgesP Ns k) N.nm N.nm vl w1.heap.size (wr.alloc X) ho3 (fun b hb => by rw [hF3]; have := hB.size; exact ⟨by omega, by omega⟩) (by have := hE.len (by rw [← HNN.out]; exact hn); omega))
      have HBX := hidK hbX
      have HX0 : Hid (∀ W, Kp F3 (wr.alloc X) W → W.heap[z0]? = some (.cells #[.string N.nm, .slice da dl dc, .slice na nl nc] 29 (0, 0))) := fun W hk => (hk.block z0 (by omega) (fun hf => by rw [hF3] at hf; exact hf.2 rfl)).trans x0
      have HZ := hidK hz0
      have HSX := hidK hsX
      have HF3 := hidK hF3
      have HND : Hid (RowN (fun b => w.heap.size ≤ b) txL wr (.slice na nl nc) N.nd) := hnd
      have HW3 : Hid (∀ q, F3 q → w1.heap.size ≤ q) := fun q hq => by rw [hF3] at hq; exact hq.1
      clear hx hN e1b e1c hV hdf hnd hbX ho hB x0 hsX hF3 ho3 hE hz0
      subst hX
      go_upto_region 7 with (go_at_call 12; refine HA.out.mono ?_; rintro e w3 ⟨rfl, ⟨vl3, hs3⟩, hk3⟩; have HS3 := hidK hs3; have HK3 := hidK hk3; clear hs3 hk3)
      rw [← HZ.out]
      have hx3 := HX0.out _ HK3.out
      obtain ⟨y0, y1, y2⟩ := no_cells hx3
      have hB3 : Below w1.heap.size w1 w3 := (HB0.out.trans (HBX.out.mono HB0.out.size)).trans (HK3.out.below HW3.out (by have := HB0.out.size; have := HSX.out; omega))
      have HB3 := hidK hB3
      have HA2 := hidK (distinctT_c (.slice na nl nc) N.nd w3 ((HND.out.kp (Kp.of_below HBX.out)).kp (HK3.out.weak (fun q hq => Nat.le_trans HB1.out.size (HW3.out q hq)))).row (HD.out N (List.mem_of_getElem? HX.out)).2)
      clear hB3 hx3 HA HND
      go_wp2_with (go_at_call 13; refine HA2.out.mono ?_; rintro e w4 ⟨au, lu, cu, rfl, hu, hb4⟩; have HU := hidK hu; have HB4 := hidK hb4; clear hu hb4)
      have hU := HU.out
      obtain ⟨m, hm⟩ : ∃ m, m = (dedD N.nd).length := ⟨_, rfl⟩
      obtain ⟨_, _, eu, _⟩ := hU.form
      injection eu with eu1 eu2 eu3
      rw [← hm] at eu2
      subst eu2
      clear eu1 eu3
      have HM := hidK hm
      obtain ⟨z3, hz3⟩ : ∃ z, z = w3.heap.size := ⟨_, rfl⟩
      obtain ⟨G, hG⟩ : ∃ G : Nat → Prop, G = fun q => w1.heap.size ≤ q ∧ q ≠ z0 ∧ (q < z3 ∨ w4.heap.size ≤ q) := ⟨_, rfl⟩
      have hz03 : z0 < z3 := by have h1 := HK3.out.size; have h2 := HSX.out; have h3 := HZ.out; omega
      have hz34 : z3 ≤ w4.heap.size := by rw [hz3]; exact HB4.out.size
      have hF3G : ∀ q, q < w3.heap.size → F3 q → G q := fun q h1 h2 => by rw [HF3.out] at h2; rw [hG]; exact ⟨h2.1, h2.2, .inl (by omega)⟩
      have hO4 : DsE G (w1.heap.size + 1) (addD (edgesP Ns k) (N.nm, N.nm)) (addD (edgesP Ns k) (N.nm, N.nm)) w4 vl3 w1.heap.size :=
        (HS3.out.into (hF3G _ HS3.out.glt HS3.out.fg) (hF3G _ HS3.out.mp.lt HS3.out.fm) (fun q hq => hF3G q (HS3.out.own.lt q hq) (HS3.out.own.2 q hq))).on HB4.out
      have HO4 := hidK hO4
      have HU2 : Hid (RowN G txL w4 (.slice au lu cu) (dedD N.nd)) := OwnF.rowN elT hU (fun b h1 h2 h3 => by rw [hG] at h3; have h1' : w3.heap.size ≤ b := h1; omega)
      have hz1 : w1.heap.size ≤ z0 := by have := HB0.out.size; have := HZ.out; omega
      have HGL : Hid (∀ q, G q → w1.heap.size ≤ q) := fun q h => by rw [hG] at h; exact h.1
      have HGN : Hid (∀ q, w4.heap.size ≤ q → G q) := fun q h => by rw [hG]; exact ⟨by omega, by omega, .inr h⟩
      have HGZ : Hid (¬ G z0) := fun h => by rw [hG] at h; exact h.2.1 rfl
      have HB5 : Hid (Below w1.heap.size w1 w4) := HB3.out.trans (HB4.out.mono HB3.out.size)
      have HX4 : Hid (w4.heap[z0]? = some (.cells #[.string N.nm, .slice da dl dc, .slice na nl nc] 29 (0, 0))) := hkeepK HB4.out (HX0.out _ HK3.out)
      have HML : Hid (lu ≤ 4398046511104) := by show _ ≤ _; have h1 := dedD_len N.nd; have h2 := (HD.out N (List.mem_of_getElem? HX.out)).2; have h3 := HM.out; omega
      have HE0 : Hid (Eok Ns (addD (edgesP Ns k) (N.nm, N.nm))) := (edgesP_ok Ns k).add (nm_mem HX.out) (nm_mem HX.out)
      have HSTEP : Hid (edgesP Ns (k + 1) = (dedD N.nd).foldl (oneP Ns k N.nm) (addD (edgesP Ns k) (N.nm, N.nm))) := by
        show _ = _
        rw [edgesP_succ]; unfold nodeP; rw [HX.out]
      clear hU hm hG hO4 hF3G hz1 hz03 hz34 hz3 HX0 HK3 HS3 HA2 HU HO HF3 HW3 y0 y1 y2 HBX HSX HB0
      go_wp2
      go_loopw [32] (fun i wx => ∃ (j : Nat), i = .int .i64 j ∧ j ≤ lu ∧ DsEs G (w1.heap.size + 1) w1.heap.size (((dedD N.nd).take j).foldl (oneP Ns k N.nm) (addD (edgesP Ns k) (N.nm, N.nm))) wx ∧ Kp G w4 wx) (fun i _ => lu - (intOf i).toNat)
      case atStart => exact ⟨0, rfl, Nat.zero_le _, ⟨_, HO4.out⟩, Kp.refl _ _⟩
      case round =>
        obtain ⟨j, rfl, hjm, ⟨vj, ho⟩, hB⟩ := hrel
        have HO5 := hidK ho
        have HK5 := hidK hB
        by_cases hj : j < lu
        · have jI : (j : Int) < (lu : Int) := by omega
          have j0 : (0 : Int) ≤ (j : Int) := by omega
          have jw : IntKind.i64.wrap ((j : Int) + 1) = (j : Int) + 1 := by have := HML.out; rw [IntKind.wrap_i64]; omega
          obtain ⟨y, hy⟩ : ∃ x, (dedD N.nd)[j]? = some x := ⟨_, List.getElem?_eq_getElem (by have := HM.out; omega)⟩
          obtain ⟨b2, o2, p2, e2, d0⟩ := (HU2.out.kp hB).row.tx hy
          have HY := hidK hy
          injection e2 with e2 e2b e2c
          subst e2
          have hBx : Below w1.heap.size w1 wr := HB5.out.trans (hB.below HGL.out HB5.out.size)
          obtain ⟨⟨sa, sl, sc⟩, hrun, hos, hsl⟩ := (HDF.out.on hBx).look y
          simp only at hsl
          have HSQ := hidK hsl
          have HSL : Hid (sl ≤ n) := by show _ ≤ _; rw [hsl, HNN.out]; exact defK_len _ _ _
          have HROW : Hid (RowN G nmL wr (.slice sa sl sc) (defK Ns Ns.length y)) := OwnF.rowN elI hos (fun b h1 _ h3 => by have := HGL.out b h3; have h1' : b < w1.heap.size := h1; omega)
          have hE5 : Eok Ns (((dedD N.nd).take j).foldl (oneP Ns k N.nm) (addD (edgesP Ns k) (N.nm, N.nm))) := Eok.ones HX.out _ HE0.out
          have HE5 := hidK hE5
          have HBx := hidK hBx
          simp only [slV] at hrun
          obtain ⟨w5, hw5⟩ : ∃ w5, w5 = wr := ⟨_, rfl⟩
          subst hw5
          clear hy e2b e2c hos hsl ho hB hBx hE5
          go_wp2_with (at_lookup; refine wp_look _ rfl _ _ 33 false rfl _ _ _ rfl rfl hrun ?_)
          clear hrun d0
          go_loopw [40] (fun i wx => ∃ (q : Nat), i = .int .i64 q ∧ q ≤ sl ∧ DsEs G (w1.heap.size + 1) w1.heap.size (((defK Ns Ns.length y).take q).foldl (putP Ns k N.nm) (((dedD N.nd).take j).foldl (oneP Ns k N.nm) (addD (edgesP Ns k) (N.nm, N.nm)))) wx ∧ Kp G w5 wx) (fun i _ => sl - (intOf i).toNat)
          case atStart => exact ⟨0, rfl, Nat.zero_le _, ⟨_, HO5.out⟩, Kp.refl _ _⟩
          case round =>
            obtain ⟨q, rfl, hqm, ⟨vq, ho⟩, hB⟩ := hrel
            have HO6 := hidK ho
            have HK6 := hidK hB
            by_cases hq : q < sl
            · have qI : (q : Int) < (sl : Int) := by omega
              have q0 : (0 : Int) ≤ (q : Int) := by omega
              have qw : IntKind.i64.wrap ((q : Int) + 1) = (q : Int) + 1 := by have := HSL.out; rw [IntKind.wrap_i64]; omega
              obtain ⟨t, ht⟩ : ∃ x, (defK Ns Ns.length y)[q]? = some x := ⟨_, List.getElem?_eq_getElem (by have := HSQ.out; omega)⟩
              have HT := hidK ht
              have htm := List.mem_of_getElem? ht
              obtain ⟨m2, M, rfl, hm2, hM, _⟩ := defK_mem htm (Nat.le_refl _)
              obtain ⟨b3, o3, p3, e3, d0⟩ := (HROW.out.kp hB).row.nm ht
              injection e3 with e3 e3b e3c
              subst e3
              have HHM := hidK hM
              have mI : (m2 : Int) < (n : Int) := by have := HNN.out; omega
              have m0 : (0 : Int) ≤ (m2 : Int) := by omega
              have hkx : Kp G w4 wr := HK5.out.trans hB
              have hBy : Below w.heap.size w wr := (HB1.out.trans (HB5.out.mono HB1.out.size)).trans (hkx.below (fun q h => Nat.le_trans HB1.out.size (HGL.out q h)) (by have := HB1.out.size; have := HB5.out.size; omega))
              obtain ⟨X3, hX3⟩ : ∃ x, vs[m2]? = some x := ⟨_, List.getElem?_eq_getElem (by have := HN.out; have := HNN.out; omega)⟩
              have hV := HV.out.below hBy
              obtain ⟨b4, o4, p4, e4, g0, _, _⟩ := hV.row.row.no hX3
              have hnm3 := (hV.at_ m2 X3 M hX3 hM).1
              rw [hnm3] at g0
              injection e4 with e4 e4b e4c
              injection e4 with e4
              injection e4 with e4 e4d
              subst e4
              subst e4d
              obtain ⟨y0, y1, y2⟩ := no_cells ((hkx.block z0 (Array.getElem?_eq_some_iff.1 HX4.out).1 HGZ.out).trans HX4.out)
              have HPUT : Hid (∀ o, ((defK Ns Ns.length y).take (q + 1)).foldl (putP Ns k N.nm) o = if m2 = k then ((defK Ns Ns.length y).take q).foldl (putP Ns k N.nm) o else addD (((defK Ns Ns.length y).take q).foldl (putP Ns k N.nm) o) (N.nm, M.nm)) := fun o => by
                rw [takeSucc ht, List.foldl_append]
                show putP Ns k N.nm _ _ = _
                unfold putP
                rw [nmI_of hM]
                by_cases e : m2 = k
                · rw [if_pos e, if_pos (by rw [e])]
                · rw [if_neg e, if_neg (by omega)]
              have hEq := Eok.fold HX.out ((defK Ns Ns.length y).take q) (fun i hi => List.mem_of_mem_take hi) HE5.out
              have HA : Hid (∀ W, Below wr.heap.size wr W → Calls Try.prog 12 #[.pointer (some ⟨w1.heap.size + 1, 0, none⟩), .agg #[.string N.nm, .string M.nm]] W fun e w' => e = .returned (.tuple #[]) ∧ DsEs G (w1.heap.size + 1) w1.heap.size (addD (((defK Ns Ns.length y).take q).foldl (putP Ns k N.nm) (((dedD N.nd).take j).foldl (oneP Ns k N.nm) (addD (edgesP Ns k) (N.nm, N.nm)))) (N.nm, M.nm)) w' ∧ Kp G w5 w') := fun W hb => (addE_c G (w1.heap.size + 1) _ N.nm M.nm vq w1.heap.size W (ho.on hb) (fun b hb2 => HGN.out b (Nat.le_trans (Nat.le_trans hkx.size hb.size) hb2)) (by have := hEq.len (by rw [← HNN.out]; exact hn); omega)).mono (by
                rintro e w' ⟨rfl, q1, q2⟩
                exact ⟨rfl, q1, (hB.trans (Kp.of_below hb)).trans q2⟩)
              clear ht htm hm2 hM e3b e3c hkx hBy hX3 hV hnm3 e4b e4c hEq ho hB
              by_cases hmk : m2 = k
              · have HMK := hidK hmk
                have mk : (m2 : Int) = (k : Int) := by omega
                clear hmk HA
                go_wp2
                go_roundw
                case rel => exact ⟨q + 1, by go_num, by omega, ⟨vq, by rw [HPUT.out, if_pos HMK.out]; exact HO6.out⟩, HK6.out⟩
                case measure => simp [intOf]; omega
              · have HMK := hidK hmk
                have mk : ¬ (m2 : Int) = (k : Int) := by omega
                clear hmk
                go_wp2
                go_region_with (go_at_call 12; refine (HA.out _ (by first | exact Below.refl _ _ | exact (Below.refl _ _).drew)).mono ?_; rintro e w6 ⟨rfl, q1, q2⟩; have HP6 := hidK q1; have HK7 := hidK q2; clear q1 q2)
                all_goals
                  go_wp2
                  go_roundw
                  case rel => exact ⟨q + 1, by go_num, by omega, by rw [HPUT.out, if_neg HMK.out]; exact HP6.out, HK7.out⟩
                  case measure => simp [intOf]; omega
            · obtain rfl : q = sl := by omega
              have HEQ : Hid (DsEs G (w1.heap.size + 1) w1.heap.size (((dedD N.nd).take (j + 1)).foldl (oneP Ns k N.nm) (addD (edgesP Ns k) (N.nm, N.nm))) wr) := by
                refine ⟨vq, ?_⟩
                have := HO6.out
                rw [HSQ.out, List.take_length] at this
                rw [takeSucc HY.out, List.foldl_append]
                exact this
              clear ho hB
              go_wp2
              go_roundw
              case rel => exact ⟨j + 1, by go_num, by omega, HEQ.out, HK5.out.trans HK6.out⟩
              case measure => simp [intOf]; omega
        · obtain rfl : j = lu := by omega
          have HEND : Hid (DsEs (fun b => w1.heap.size ≤ b) (w1.heap.size + 1) w1.heap.size (edgesP Ns (k + 1)) wr) := by
            refine ⟨vj, ?_⟩
            rw [HSTEP.out]
            have := HO5.out
            rw [HM.out, List.take_length] at this
            exact this.into (HGL.out _ this.fg) (HGL.out _ this.fm) (fun q hq => HGL.out q (this.own.2 q hq))
          clear ho hB HM
          go_wp2
          go_roundw
          case rel => exact ⟨k + 1, by go_num, by omega, HEND.out, HB5.out.trans (HK5.out.below HGL.out HB5.out.size)⟩
          case measure => simp [intOf]; omega
    · obtain rfl : k = n := by omega
      obtain ⟨c0, c1⟩ := ho.c0
      obtain ⟨a5, p5, q5, _⟩ := ho.own.form
      obtain ⟨m5, hm5⟩ : ∃ m, m = (edgesP Ns k).length := ⟨_, rfl⟩
      rw [← hm5] at q5
      subst q5
      clear HV ho hB hm5
      go_wp2
      go_ret
      refine ⟨_, _, _, rfl, ?_, HBW.out⟩
      exact HO.out.own.weak (fun q hq => Nat.le_trans HB1.out.size hq)
end Go.Proofs.Ytiedimmbcmpfbaa
