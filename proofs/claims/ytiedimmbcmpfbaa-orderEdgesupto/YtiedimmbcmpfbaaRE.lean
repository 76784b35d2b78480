
-- The document's Edges, walked.
import Derived.Test.YtiedimmbcmpfbaaRP
namespace Go.Proofs.Ytiedimmbcmpfbaa
open Go.ChangeShapes Go.WideShapes Go.ChangeAt Go.RowKit Go.MapKept
set_option linter.unusedVariables false
set_option maxRecDepth 100000
abbrev OwE (F : Nat → Prop) (o : List Ed) (w : World) (v : Value) : Prop := ∃ a l c, v = .slice a l c ∧ OwnF F edL 2 38 w v o
theorem OwE.on {F : Nat → Prop} {o : List Ed} {w w' : World} {v : Value} (h : OwE F o w v) (hb : Below w.heap.size w w') : OwE F o w' v := by
  obtain ⟨a, l, c, e, h1⟩ := h
  exact ⟨a, l, c, e, h1.on hb⟩
theorem OwE.into {F G : Nat → Prop} {o : List Ed} {w : World} {v : Value} (h : OwE F o w v) (hg : ∀ q, q < w.heap.size → F q → G q) : OwE G o w v := by
  obtain ⟨a, l, c, e, h1⟩ := h
  exact ⟨a, l, c, e, h1.1, fun k hk => hg k (h1.lt k hk) (h1.2 k hk)⟩
theorem Eok.ofR {Ns : List No} (k : Nat) : Eok Ns (edgesR Ns k) := by rw [edges_eq]; exact edgesP_ok Ns k
theorem Eok.onesR {Ns : List No} {k : Nat} {N : No} (hN : Ns[k]? = some N) (l : List ByteArray) {o : List Ed} (h : Eok Ns o) : Eok Ns (l.foldl (oneR Ns k N.nm) o) := by
  have e : oneR Ns k N.nm = oneP Ns k N.nm := funext fun o => funext fun y => one_eq Ns k N.nm o y
  rw [e]; exact Eok.ones hN l h
theorem Eok.putsR {Ns : List No} {k : Nat} {N : No} (hN : Ns[k]? = some N) (y : ByteArray) {o : List Ed} (h : Eok Ns o) {m : Nat} (hm : m ≤ Ns.length) : Eok Ns ((List.range m).foldl (putR Ns k N.nm y) o) := by
  rw [one_upto Ns k N.nm y o m hm]
  refine Eok.fold (y := y) hN _ (fun i hi => ?_) h
  obtain ⟨q, M, rfl, hq, hM, hy⟩ := defK_mem hi hm
  unfold defK
  refine List.mem_map.2 ⟨q, List.mem_filter.2 ⟨List.mem_range.2 (by omega), ?_⟩, rfl⟩
  simp only [hM]
  exact isIn_iff.2 hy
set_option maxHeartbeats 32000000 in
theorem redges_c (v : Value) (vs : List Nv) (Ns : List No) (w : World) (h : NodesAt (fun b => w.heap.size ≤ b) w v vs Ns) (hn : Ns.length ≤ 1048576) (hd : ∀ N ∈ Ns, N.df.length ≤ 4398046511104 ∧ N.nd.length ≤ 4398046511104) :
    Calls Try.prog 6 #[v] w fun e w' => ∃ a l c, e = .returned (.slice a l c) ∧ OwnF (fun b => w.heap.size ≤ b) edL 2 38 w' (.slice a l c) (edgesP Ns Ns.length) ∧ Below w.heap.size w w' := by
  obtain ⟨a1, c1, q1, _, _⟩ := h.row.row.form
  obtain ⟨n, hnn⟩ : ∃ n, n = vs.length := ⟨_, rfl⟩
  have HN := hidK hnn
  have HNN : Hid (n = Ns.length) := hnn.trans h.len
  have HV := hidK h
  have HD := hidK hd
  rw [← hnn] at q1
  rw [← edges_eq, ← HNN.out]
  rw [← HNN.out] at hn
  subst q1
  clear h hnn hd
  go_enter Try.func6, Try.ntmps6
  go_wp2
  go_loopw [3, 4] (fun o i wx => ∃ (k : Nat), i = .int .i64 k ∧ k ≤ n ∧ OwE (fun b => w.heap.size ≤ b) (edgesR Ns k) wx o ∧ Below w.heap.size w wx) (fun _ i _ => n - (intOf i).toNat)
  case atStart => exact ⟨0, rfl, Nat.zero_le _, ⟨_, _, _, rfl, OwnF.nil⟩, Below.refl _ _⟩
  case round =>
    obtain ⟨k, rfl, hkn, ⟨ao, lo, co, rfl, ho⟩, hB⟩ := hrel
    have HO := hidK ho
    have HB0 := hidK hB
    by_cases hk : k < n
    · have kI : (k : Int) < (n : Int) := by omega
      have k0 : (0 : Int) ≤ (k : Int) := by omega
      have kw : IntKind.i64.wrap ((k : Int) + 1) = (k : Int) + 1 := by rw [IntKind.wrap_i64]; omega
      obtain ⟨x, hx⟩ : ∃ x, vs[k]? = some x := ⟨_, List.getElem?_eq_getElem (by have := HN.out; omega)⟩
      obtain ⟨N, hN⟩ : ∃ x, Ns[k]? = some x := ⟨_, List.getElem?_eq_getElem (by have := HNN.out; omega)⟩
      have hV := HV.out.below hB
      obtain ⟨b1, o1, p1, e1, d0, d1, d2⟩ := hV.row.row.no hx
      obtain ⟨hnm, hdf, hnd⟩ := hV.at_ k x N hx hN
      obtain ⟨nm, ⟨da, dl, dc⟩, ⟨na, nl, nc⟩⟩ := x
      simp only [slV] at d0 d1 d2 hdf hnd hnm
      subst hnm
      have HX := hidK hN
      injection e1 with e1 e1b e1c
      subst e1
      obtain ⟨X, hX⟩ : ∃ X, X = Obj.cells #[.string N.nm, .slice da dl dc, .slice na nl nc] 29 := ⟨_, rfl⟩
      have hbX : Below wr.heap.size wr (wr.alloc X) := (Below.refl _ _).alloc (Nat.le_refl _) X
      have hsX : (wr.alloc X).heap.size = wr.heap.size + 1 := by simp
      obtain ⟨z0, hz0⟩ : ∃ z, z = wr.heap.size := ⟨_, rfl⟩
      have hzw : w.heap.size ≤ z0 := by rw [hz0]; exact hB.size
      have x0 : (wr.alloc X).heap[z0]? = some (.cells #[.string N.nm, .slice da dl dc, .slice na nl nc] 29 (0, 0)) := by rw [hz0, heap_alloc_new, hX]
      obtain ⟨F3, hF3⟩ : ∃ F : Nat → Prop, F = fun q => w.heap.size ≤ q ∧ q ≠ z0 := ⟨_, rfl⟩
      have hE : Eok Ns (edgesR Ns k) := Eok.ofR k
      have ho3 : OwnF F3 edL 2 38 (wr.alloc X) (.slice ao lo co) (edgesR Ns k) := ⟨(ho.on hbX).1, fun q hq => by
        rw [hF3]; have := ho.lt q hq; have h2 : w.heap.size ≤ q := ho.2 q hq; exact ⟨h2, by omega⟩⟩
      have HA := hidK (with_c F3 (.slice ao lo co) (edgesR Ns k) N.nm N.nm (wr.alloc X) ho3 (fun b hb => by rw [hF3]; have := hB.size; exact ⟨by omega, by omega⟩) (by have := hE.len (by rw [← HNN.out]; exact hn); omega))
      obtain ⟨wA, hwA⟩ : ∃ wA, wA = wr.alloc X := ⟨_, rfl⟩
      rw [← hwA] at HA hbX x0 ho3 hsX
      have HBX := hidK hbX
      have HX0 : Hid (∀ W, Kp F3 wA W → W.heap[z0]? = some (.cells #[.string N.nm, .slice da dl dc, .slice na nl nc] 29 (0, 0))) := fun W hk => (hk.block z0 (by omega) (fun hf => by rw [hF3] at hf; exact hf.2 rfl)).trans x0
      have HZ := hidK hz0
      have HSX := hidK hsX
      have HFW : Hid (∀ q, F3 q → w.heap.size ≤ q) := fun q hq => by rw [hF3] at hq; exact hq.1
      have HFN : Hid (∀ q, wA.heap.size ≤ q → F3 q) := fun q hq => by rw [hF3]; exact ⟨by omega, by omega⟩
      have HBA : Hid (Below w.heap.size w wA) := hB.trans (hbX.mono hB.size)
      have HND : Hid (nl = N.nd.length) := by
        obtain ⟨_, _, e, _⟩ := hnd.row.form
        injection e
      have HNL : Hid (nl ≤ 4398046511104) := by show _ ≤ _; rw [HND.out]; exact (HD.out N (List.mem_of_getElem? hN)).2
      have HNR : Hid (∀ W, Kp F3 wA W → RowT W (.slice na nl nc) N.nd) := fun W hk => ((hnd.kp (Kp.of_below hbX)).kp (hk.weak (fun q hq => by rw [hF3] at hq; exact hq.1))).row
      have HE0 : Hid (Eok Ns (addD (edgesR Ns k) (N.nm, N.nm))) := hE.add (nm_mem hN) (nm_mem hN)
      have HSTEP : Hid (edgesR Ns (k + 1) = N.nd.foldl (oneR Ns k N.nm) (addD (edgesR Ns k) (N.nm, N.nm))) := by
        show _ = _
        rw [edgesR_succ]; unfold nodeR; rw [hN]
      clear hx hN e1b e1c hV hdf hnd hbX ho hB x0 hsX hF3 ho3 hE hz0 hzw HO
      subst hX
      go_upto_region 6 with fail
      rw [← hwA, ← HZ.out]
      clear hwA
      obtain ⟨x0, x1, x2⟩ := no_cells (HX0.out _ (Kp.refl _ _))
      go_wp2_with (go_at_call 14; refine HA.out.mono ?_; rintro e w3 ⟨a3, l3, c3, rfl, h3, hk3⟩; have HS3 := hidK h3; have HK3 := hidK hk3; clear h3 hk3)
      clear x0 x1 x2 HA d0 d1 d2
      go_loopw [3, 6] (fun o i wx => ∃ (j : Nat), i = .int .i64 j ∧ j ≤ nl ∧ OwE F3 ((N.nd.take j).foldl (oneR Ns k N.nm) (addD (edgesR Ns k) (N.nm, N.nm))) wx o ∧ Kp F3 wA wx) (fun _ i _ => nl - (intOf i).toNat)
      case atStart => exact ⟨0, rfl, Nat.zero_le _, ⟨_, _, _, rfl, HS3.out⟩, HK3.out⟩
      case round =>
        obtain ⟨j, rfl, hjm, ⟨aj, lj, cj, rfl, ho⟩, hB⟩ := hrel
        have HO5 := hidK ho
        have HK5 := hidK hB
        obtain ⟨x0, x1, x2⟩ := no_cells (HX0.out _ hB)
        by_cases hj : j < nl
        · have jI : (j : Int) < (nl : Int) := by omega
          have j0 : (0 : Int) ≤ (j : Int) := by omega
          have jw : IntKind.i64.wrap ((j : Int) + 1) = (j : Int) + 1 := by have := HNL.out; rw [IntKind.wrap_i64]; omega
          obtain ⟨y, hy⟩ : ∃ x, N.nd[j]? = some x := ⟨_, List.getElem?_eq_getElem (by have := HND.out; omega)⟩
          obtain ⟨b2, o2, p2, e2, _⟩ := (HNR.out _ hB).tx hy
          have HY := hidK hy
          injection e2 with e2 e2b e2c
          subst e2
          have HE5 : Hid (Eok Ns ((N.nd.take j).foldl (oneR Ns k N.nm) (addD (edgesR Ns k) (N.nm, N.nm)))) := Eok.onesR HX.out _ HE0.out
          have HYC : Hid (∀ W, Kp F3 wA W → W.cell? ⟨b2, o2 + j, none⟩ = some (.string y)) := fun W hk => by
            obtain ⟨b2', o2', p2', e2', d⟩ := (HNR.out _ hk).tx HY.out
            injection e2' with e2' _ _
            injection e2' with e2'
            injection e2' with e3 e4
            subst e3; subst e4
            exact d
          obtain ⟨w5, hw5⟩ : ∃ w5, w5 = wr := ⟨_, rfl⟩
          subst hw5
          clear hy e2b e2c ho hB
          go_wp2
          clear x0 x1 x2
          go_loopw [3, 7] (fun o i wx => ∃ (q : Nat), i = .int .i64 q ∧ q ≤ n ∧ OwE F3 ((List.range q).foldl (putR Ns k N.nm y) ((N.nd.take j).foldl (oneR Ns k N.nm) (addD (edgesR Ns k) (N.nm, N.nm)))) wx o ∧ Kp F3 wA wx) (fun _ i _ => n - (intOf i).toNat)
          case atStart => exact ⟨0, rfl, Nat.zero_le _, ⟨_, _, _, rfl, HO5.out⟩, HK5.out⟩
          case round =>
            obtain ⟨q, rfl, hqm, ⟨aq, lq, cq, rfl, ho⟩, hB⟩ := hrel
            have HO6 := hidK ho
            have HK6 := hidK hB
            obtain ⟨x0, x1, x2⟩ := no_cells (HX0.out _ hB)
            by_cases hq : q < n
            · have qI : (q : Int) < (n : Int) := by omega
              have q0 : (0 : Int) ≤ (q : Int) := by omega
              have qw : IntKind.i64.wrap ((q : Int) + 1) = (q : Int) + 1 := by rw [IntKind.wrap_i64]; omega
              obtain ⟨X3, hX3⟩ : ∃ x, vs[q]? = some x := ⟨_, List.getElem?_eq_getElem (by have := HN.out; omega)⟩
              obtain ⟨M, hM⟩ : ∃ x, Ns[q]? = some x := ⟨_, List.getElem?_eq_getElem (by have := HNN.out; omega)⟩
              have hBy : Below w.heap.size w wr := HBA.out.trans (hB.below HFW.out HBA.out.size)
              have hV := HV.out.below hBy
              obtain ⟨b4, o4, p4, e4, g0, g1, _⟩ := hV.row.row.no hX3
              obtain ⟨hnm3, hdf3, _⟩ := hV.at_ q X3 M hX3 hM
              obtain ⟨nm3, ⟨ea, el, ec⟩, s3⟩ := X3
              simp only [slV] at hnm3 hdf3 g0 g1
              subst hnm3
              injection e4 with e4 e4b e4c
              injection e4 with e4
              injection e4 with e4 e4d
              subst e4
              subst e4d
              have c0 := HYC.out _ hB
              have HH : Hid (∀ W, Below wr.heap.size wr W → Calls Try.prog 15 #[.slice ea el ec, .string y] W fun e w' => e = .returned (.bool (isIn M.df y)) ∧ Below wr.heap.size wr w') := fun W hb => (rhas_c _ M.df y W (hdf3.row.on hb) (by have := (HD.out M (List.mem_of_getElem? hM)).1; omega)).mono (by
                rintro e w' ⟨q1, q2⟩
                rw [q2]
                exact ⟨q1, hb⟩)
              have HPUT : Hid (∀ o, (List.range (q + 1)).foldl (putR Ns k N.nm y) o = if q ≠ k ∧ isIn M.df y = true then addD ((List.range q).foldl (putR Ns k N.nm y) o) (N.nm, M.nm) else (List.range q).foldl (putR Ns k N.nm y) o) := fun o => by
                rw [List.range_succ, List.foldl_append]
                show putR Ns k N.nm y _ q = _
                unfold putR
                rw [hM]
              have hEq := Eok.putsR HX.out y HE5.out (m := q) (by have := HNN.out; omega)
              have HA : Hid (∀ W, Below wr.heap.size wr W → Calls Try.prog 14 #[.slice aq lq cq, .agg #[.string N.nm, .string M.nm]] W fun e w' => ∃ a l c, e = .returned (.slice a l c) ∧ OwnF F3 edL 2 38 w' (.slice a l c) (addD ((List.range q).foldl (putR Ns k N.nm y) ((N.nd.take j).foldl (oneR Ns k N.nm) (addD (edgesR Ns k) (N.nm, N.nm)))) (N.nm, M.nm)) ∧ Kp F3 wA w') := fun W hb => (with_c F3 _ _ N.nm M.nm W (ho.on hb) (fun b hb2 => HFN.out b (Nat.le_trans (Nat.le_trans hB.size hb.size) hb2)) (by have := hEq.len (by rw [← HNN.out]; exact hn); omega)).mono (by
                rintro e w' ⟨a, l, c, rfl, q1, q2⟩
                exact ⟨a, l, c, rfl, q1, (hB.trans (Kp.of_below hb)).trans q2⟩)
              have hb0 : Below wr.heap.size wr wr := Below.refl _ _
              have HON : Hid (∀ W, Below wr.heap.size wr W → OwnF F3 edL 2 38 W (.slice aq lq cq) ((List.range q).foldl (putR Ns k N.nm y) ((N.nd.take j).foldl (oneR Ns k N.nm) (addD (edgesR Ns k) (N.nm, N.nm)))) ∧ Kp F3 wA W) := fun W hb => ⟨ho.on hb, hB.trans (Kp.of_below hb)⟩
              have hv0 : ∀ W, Below wr.heap.size wr W → W.cell? ⟨z0, 2, none⟩ = some (.slice (some ⟨b2, o2, none⟩) nl nc) := fun W hb => cell_onG x2 hb
              have hv1 : ∀ W, Below wr.heap.size wr W → W.cell? ⟨b2, o2 + j, none⟩ = some (.string y) := fun W hb => cell_onG c0 hb
              have hv2 : ∀ W, Below wr.heap.size wr W → W.cell? ⟨b1, o1 + q * 3 + 1, none⟩ = some (.slice ea el ec) := fun W hb => cell_onG g1 hb
              have HG0 := hidK g0
              have HX00 := hidK x0
              clear hM hBy hV hX3 hdf3 e4b e4c hEq ho hB x0 x1 x2 g0 g1 c0
              go_upto_region 13 with fail
              go_region_held3 (fun w' => Below wr.heap.size wr w') (first | assumption | exact hb0.drew | exact hSw.drew) (first
                | (go_at_call 15; refine (HH.out _ (by assumption)).mono ?_; rintro e w6 ⟨rfl, hS6⟩))
              have HS6 := hidK hS6
              have g0 := cell_onG HG0.out hS6
              have x0 := cell_onG HX00.out hS6
              have H6 := hidK (HON.out _ hS6)
              clear hv0 hv1 hv2 HH hb0
              by_cases hqk : q = k
              · have HC : Hid (¬ (q ≠ k ∧ isIn M.df y = true)) := fun h => h.1 hqk
                have qk : (q : Int) = (k : Int) := by omega
                clear hqk HA hS6
                go_wp2
                go_roundw
                case rel => exact ⟨q + 1, by go_num, by omega, ⟨_, _, _, rfl, by rw [HPUT.out, if_neg HC.out]; exact H6.out.1⟩, H6.out.2⟩
                case measure => simp [intOf]; omega
              · have qk : ¬ (q : Int) = (k : Int) := by omega
                have HQK := hidK hqk
                clear hqk
                cases hi : isIn M.df y with
                | false =>
                  have HC : Hid (¬ (q ≠ k ∧ isIn M.df y = true)) := fun h => by rw [hi] at h; exact absurd h.2 (by decide)
                  clear hi HA hS6
                  go_wp2
                  go_roundw
                  case rel => exact ⟨q + 1, by go_num, by omega, ⟨_, _, _, rfl, by rw [HPUT.out, if_neg HC.out]; exact H6.out.1⟩, H6.out.2⟩
                  case measure => simp [intOf]; omega
                | true =>
                  have HC : Hid (q ≠ k ∧ isIn M.df y = true) := ⟨HQK.out, hi⟩
                  clear hi
                  go_wp2
                  go_region_with (go_at_call 14; refine (HA.out _ (by first | exact hS6 | exact hS6.drew)).mono ?_; rintro e w7 ⟨a7, l7, c7, rfl, q1, q2⟩; have HP7 := hidK q1; have HK7 := hidK q2; clear q1 q2)
                  all_goals
                    go_wp2
                    go_roundw
                    case rel => exact ⟨q + 1, by go_num, by omega, ⟨_, _, _, rfl, by rw [HPUT.out, if_pos HC.out]; exact HP7.out⟩, HK7.out⟩
                    case measure => simp [intOf]; omega
            · obtain rfl : q = n := by omega
              have HEQ : Hid (OwE F3 ((N.nd.take (j + 1)).foldl (oneR Ns k N.nm) (addD (edgesR Ns k) (N.nm, N.nm))) wr (.slice aq lq cq)) := by
                have := HO6.out
                rw [HNN.out] at this
                rw [takeSucc HY.out, List.foldl_append]
                exact ⟨_, _, _, rfl, this⟩
              clear ho hB
              go_wp2
              go_roundw
              case rel => exact ⟨j + 1, by go_num, by omega, HEQ.out, HK6.out⟩
              case measure => simp [intOf]; omega
        · obtain rfl : j = nl := by omega
          have HEND : Hid (OwE (fun b => w.heap.size ≤ b) (edgesR Ns (k + 1)) wr (.slice aj lj cj)) := by
            have := HO5.out
            rw [HND.out, List.take_length] at this
            rw [HSTEP.out]
            exact ⟨_, _, _, rfl, this.weak HFW.out⟩
          clear ho hB
          go_wp2
          go_roundw
          case rel => exact ⟨k + 1, by go_num, by omega, HEND.out, HBA.out.trans (HK5.out.below HFW.out HBA.out.size)⟩
          case measure => simp [intOf]; omega
    · obtain rfl : k = n := by omega
      clear HV ho hB
      go_wp2
      go_ret
      exact ⟨_, _, _, rfl, HO.out, HB0.out⟩
end Go.Proofs.Ytiedimmbcmpfbaa
