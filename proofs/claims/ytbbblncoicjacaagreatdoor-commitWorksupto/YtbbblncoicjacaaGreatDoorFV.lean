
-- The statements' view: every file but TempName.
import Derived.Test.YtbbblncoicjacaaGreatDoorFG
import Derived.Test.YtbbblncoicjacaaGreatDoorFD
import Derived.Deep.RegionLaw
namespace Go.Proofs.YtbbblncoicjacaaGreatDoor
open Go.ChangeShapes Go.WideShapes Go.ChangeAt Go.RowKit
set_option linter.unusedVariables false
set_option linter.unusedSimpArgs false
set_option maxRecDepth 100000
variable {PS : (Nat → Prop) → Nat → St → World → Prop}
theorem step_append_16 {P : Program} {ops : Array Oper} {o : Oper} {a : Act} {w : World} {K : Act → World → Prop} {Q : Exit → Act → World → Prop} {E : Prop}
    (hg : o.guard = none) (s x : Operand) (t : TypeId) (hop : o.op = Op.call { callee := Callee.builtin Builtin.append, args := #[s, x], argTypes := #[t, t] })
    (base : Nat) (e : TypeId) (i : TypeInfo) (z : Value) (size bytes : Nat) (h1 : P.underlying t = some (.slice e)) (h2 : P.info? e = some i) (h3 : i.zero = some z) (h4 : i.size = size) (h5 : i.bytes = bytes) (h6 : z.cells.size = size) (h7 : 0 < size)
    (v : Value) (n : Nat) (xs : List Value) (hs : a.eval s = v) (hown : w.ownsRow base e size v n xs)
    (ad : Addr) (m c : Nat) (news : List Value) (hx : a.eval x = .slice (some ad) m c) (hn : news.length = m * size) (hc : ∀ j u, news[j]? = some u → w.cell? (ad.add j) = some u) (h1c : ∀ u ∈ news, u.oneCell' = true)
    (b1 : n + m ≤ maxLen) (b2 : (n + m) * bytes ≤ 140737488355328) (hB : base ≤ w.heap.size)
    (hK : ∀ v' w', w'.ownsRow base e size v' (n + m) (xs ++ news) → w.grownBy w' v.ownBlock → (v'.ownBlock = v.ownBlock ∨ v'.ownBlock = some w.heap.size) → K (a.put o.dst v') w') :
    if Region.wanted o (yielded ops a.tmps) = true then Oper.wp P o a w K Q else E := by
  have hw : Region.wanted o (yielded ops a.tmps) = true := by simp [Region.wanted, hg]
  rw [if_pos hw]
  obtain ⟨v', w', hrun, r1, r2, _, r3⟩ := run_append_own_at (P := P) w base t o.type e i z size bytes h1 h2 h3 h4 h5 h6 h7 v n xs hown ad m c news hn hc h1c b1 b2 hB
  unfold Oper.wp
  simp [execOp, hop, resolve, invoke, builtin, hs, hx, hrun, Result.andThen]
  exact hK v' w' r1 r2 r3
/-- Within view: the volume, and the row that grows. -/
structure Vw (PS : (Nat → Prop) → Nat → St → World → Prop) (G0 : Nat → Prop) (q : Nat) (v : Vs) (w1 : World) (G : Nat → Prop) (w : World) (ov : Value) (L : List Fil) : Prop where
  bh : Bh PS G0 q v w1 G w
  own : OwnF w1.heap.size w ov L
  off : ∀ g, ov.ownBlock = some g → ¬ G g
section
variable {G0 G : Nat → Prop} {q : Nat} {v v' : Vs} {w1 w w' : World} {ov ov' : Value} {L L' : List Fil}
theorem Vw.did (h : Vw PS G0 q v w1 G w ov L) (d : VDid PS G q v' w w') : Vw PS G0 q v' w1 (ext G w w') w' ov L := by
  have hl : ∀ g, ov.ownBlock = some g → g < w.heap.size := own_ltK h.own
  refine ⟨h.bh.did d, ?_, fun g hg hk => ?_⟩
  · exact ownG_kept h.own fun g hg => d.2.block g (hl g hg) (h.off g hg)
  · rcases hk with hk | hk
    · exact h.off g hg hk
    · have := hl g hg; omega
theorem Vw.below (C : PC PS) (h : Vw PS G0 q v w1 G w ov L) (hb : Below w.heap.size w w') : Vw PS G0 q v w1 G w' ov L :=
  ⟨h.bh.below C hb, ownG_on h.own hb, h.off⟩
theorem Vw.grow (C : PC PS) (h : Vw PS G0 q v w1 G w ov L) (hw : OwnF w1.heap.size w' ov' L') (hg : w.grownBy w' ov.ownBlock) (hv : ov'.ownBlock = ov.ownBlock ∨ ∃ k, ov'.ownBlock = some k ∧ w.heap.size ≤ k) : Vw PS G0 q v w1 G w' ov' L' := by
  have hl : ∀ g, ov.ownBlock = some g → w1.heap.size ≤ g ∧ g < w.heap.size := fun g hg => ⟨by
    rcases h.own.2 with ⟨h', _⟩ | ⟨g1, cap, cur, h', hb, _⟩
    · rw [h'] at hg; simp [Value.ownBlock] at hg
    · rw [h'] at hg; simp only [Value.ownBlock, Option.some.injEq] at hg; omega, own_ltK h.own g hg⟩
  have hk : Kp G0 w1 w' := ⟨hg.os.trans h.bh.kept.os, hg.tape.trans h.bh.kept.tape, hg.output.trans h.bh.kept.output, Nat.le_trans h.bh.kept.size hg.size, fun k hk hG => by
    have hkl := Nat.lt_of_lt_of_le hk h.bh.kept.size
    rw [hg.block k hkl (fun e => by have := (hl k e.symm).1; omega)]
    exact h.bh.kept.block k hk hG⟩
  refine ⟨⟨h.bh.vol.same C hg.size (fun k hk' hl' => hg.block k hl' (fun e => h.off k e.symm hk')), h.bh.sub, h.bh.sup, hk⟩, hw, fun g hg' hk' => ?_⟩
  rcases hv with hv | ⟨k, hv, hk2⟩
  · exact h.off g (by rw [← hv]; exact hg') hk'
  · rw [hv] at hg'
    have := h.bh.vol.low g hk'
    simp only [Option.some.injEq] at hg'
    omega
end
theorem seen_take (bs : List Bd) (d : Dr) (k : Nat) (e : ByteArray × Nat) (h : d[k]? = some e) : seen bs (d.take (k + 1)) = seen bs (d.take k) ++ (if e.1 = tmpB then [] else [filOf bs e]) := by
  unfold seen without
  rw [List.take_add_one, h, List.filter_append, List.map_append]
  by_cases hx : e.1 = tmpB <;> simp [hx]
theorem sizeInf16 : (Tryz.prog.info? 42).map (·.size) = some 6 := by kernel_rfl
set_option maxHeartbeats 8000000 in
theorem view_c (C : PC PS) (G : Nat → Prop) (q : Nat) (v : Vs) (w : World) (h : PV PS G q v w) (hw : Wf v.st) (hd : DW v.st) (hn : v.cnt ≤ 4194000) (hc : v.calm) :
    Calls Tryz.prog 7 #[.pointer (some ⟨q, 0, none⟩)] w fun e w' => ∃ rv n G', e = .returned (.tuple #[rv, .bool true]) ∧ n ≤ 129 ∧ Bh PS G q (v.ticks n) w G' w' ∧ RowF w' rv (seen v.st.bodies v.st.now) ∧ ∀ g, rv.ownBlock = some g → ¬ G' g := by
  obtain ⟨d, hdd⟩ : ∃ d, d = v.st.now := ⟨_, rfl⟩
  have hdl : d.length ≤ 64 := by rw [hdd]; exact now_len hw
  have HLS : Hid (Calls Tryz.prog 25 #[.pointer (some ⟨q, 0, none⟩)] w fun e w' => ∃ x, e = .returned (.tuple #[x, .nilIface]) ∧ w'.ownsRow w.heap.size 9 1 x d.length (strV (d.map (·.1))) ∧ PV PS G q (v.ticks 1) w' ∧ Kp G w w') := by
    have := qList_c C G q v w h hw (by omega) hc
    unfold St.names at this
    rw [← hdd, List.length_map] at this
    exact this
  have HST : Hid (∀ (m k : Nat) (e : ByteArray × Nat) (w1 : World) (G' : Nat → Prop) (W : World) (ov : Value) (L : List Fil), d[k]? = some e → m ≤ 127 → Vw PS G q (v.ticks m) w1 G' W ov L → Calls Tryz.prog 13 #[.pointer (some ⟨q, 0, none⟩), .string e.1] W fun r w' => r = .returned (.tuple #[.agg #[.int .i64 (lookB v.st.bodies e.2).date, .int .i64 (lookB v.st.bodies e.2).uid, .int .i64 (lookB v.st.bodies e.2).gid, .int .i64 (lookB v.st.bodies e.2).mode, .string e.1, .int .i64 (lookB v.st.bodies e.2).data.size], .nilIface]) ∧ ∃ G2, Vw PS G q (v.ticks (m + 1)) w1 G2 w' ov L) := fun m k e w1 G' W ov L he hm hV => by
    have hem : e ∈ (v.ticks m).st.now := by show e ∈ v.st.now; rw [← hdd]; exact List.mem_of_getElem? he
    have hs := stat_at (v := v.ticks m) (calm_ticks hc m) hw hd hem
    refine (fStat_c C G' q (v.ticks m) e.1 W hV.bh.vol hw (by show v.cnt + m ≤ _; omega)).mono ?_
    rintro r w' ⟨ev, rfl, he2, hdid⟩
    unfold stV
    rw [hs] at he2 hdid ⊢
    rw [he2.nil]
    exact ⟨rfl, _, hV.did hdid⟩
  have HRD : Hid (∀ (m k : Nat) (e : ByteArray × Nat) (w1 : World) (G' : Nat → Prop) (W : World) (ov : Value) (L : List Fil), d[k]? = some e → m ≤ 128 → Vw PS G q (v.ticks m) w1 G' W ov L → Calls Tryz.prog 26 #[.pointer (some ⟨q, 0, none⟩), .string e.1] W fun r w' => r = .returned (.tuple #[.string (lookB v.st.bodies e.2).data, .nilIface]) ∧ Kp G' W w' ∧ ∃ G2, Vw PS G q (v.ticks (m + 1)) w1 G2 w' ov L) := fun m k e w1 G' W ov L he hm hV => by
    have hem : e ∈ (v.ticks m).st.now := by show e ∈ v.st.now; rw [← hdd]; exact List.mem_of_getElem? he
    have hs := readf_at (v := v.ticks m) (calm_ticks hc m) hw hd hem
    refine (fRead_c C G' q (v.ticks m) e.1 W hV.bh.vol hw (by show v.cnt + m ≤ _; omega)).mono ?_
    rintro r w' ⟨ev, rfl, he2, hdid⟩
    rw [hs] at he2 hdid ⊢
    rw [he2.nil]
    exact ⟨rfl, hdid.2, _, hV.did hdid⟩
  have HSN : Hid (seen v.st.bodies v.st.now = seen v.st.bodies d) := by show _ = _; rw [hdd]
  have hlow := h.low
  have HLOW : Hid (∀ k, G k → k < w.heap.size) := hlow
  obtain ⟨bs, hbs⟩ : ∃ bs, bs = v.st.bodies := ⟨_, rfl⟩
  rw [← hbs] at HST HRD HSN
  rw [← hbs, HSN.out]
  clear h hw hd hn hc hdd hlow HSN hbs
  go_enter Tryz.func7, Tryz.ntmps7
  go_wp2_with (go_at_call 25; refine HLS.out.mono ?_; rintro e w1 ⟨x, rfl, hx, hv1, hk1⟩; obtain ⟨ao, cap, rfl, hcap1, hcap2, hao, hab⟩ := ownG_form (z := 1) hx)
  have HX := hidK hx
  have hs1 := hk1.size
  have HV0 : Hid (Vw PS G q (v.ticks 1) w1 G w1 (.slice none 0 0) [] ∧ Kp G w w1 ∧ w.heap.size ≤ w1.heap.size) := ⟨⟨Bh.refl hv1, ownF_nil _ _, fun g hg => by simp [Value.ownBlock] at hg⟩, hk1, hs1⟩
  have HNB : Hid (∀ g, (Value.slice ao d.length cap).ownBlock = some g → w.heap.size ≤ g ∧ g < w1.heap.size) := fun g hg => by
    cases ao with
    | none => simp [Value.ownBlock] at hg
    | some a =>
      obtain ⟨g', rfl, h1, h2⟩ := hab a rfl
      simp only [Value.ownBlock, Option.some.injEq] at hg
      omega
  obtain ⟨n, hnn⟩ : ∃ n, n = d.length := ⟨_, rfl⟩
  have HNN := hidK hnn
  rw [← hnn] at HX HNB hdl ⊢
  clear hx hv1 hk1 hs1 hab hao hcap1 hnn
  go_loopw [6, 7] (fun o i wr => ∃ (k m : Nat) (G' : Nat → Prop), i = .int .i64 k ∧ k ≤ n ∧ m ≤ 1 + 2 * k ∧ Vw PS G q (v.ticks m) w1 G' wr o (seen bs (d.take k))) (fun _ i _ => n - (intOf i).toNat)
  case atStart => exact ⟨0, 1, G, rfl, Nat.zero_le _, by omega, HV0.out.1⟩
  case round =>
    obtain ⟨k, m, G', rfl, hkn, hm, hV⟩ := hrel
    by_cases hk : k < n
    · have kI : (k : Int) < (n : Int) := by omega
      have k0 : (0 : Int) ≤ (k : Int) := by omega
      have hkl : k < d.length := by have := HNN.out; omega
      obtain ⟨e, he⟩ : ∃ e, d[k]? = some e := ⟨_, List.getElem?_eq_getElem hkl⟩
      have HTK := hidK (seen_take bs d k e he)
      have HCN : Hid (∀ W, Kp G w1 W → ∃ g, ao = some ⟨g, 0, none⟩ ∧ W.cell? ⟨g, k, none⟩ = some (.string e.1)) := fun W hkp => by
        rcases HX.out.2 with ⟨h', h0⟩ | ⟨g, cap', cur, h', hb, hg, hnc, hcm, hcs, htake⟩
        · rw [Value.slice.injEq] at h'; omega
        · injection h' with h1 h2 h3
          refine ⟨g, h1, ?_⟩
          have hgl := (Array.getElem?_eq_some_iff.1 hg).1
          have hng : ¬ G g := fun hG => by have := HLOW.out g hG; omega
          rw [World.cell?_of_block (a := ⟨g, k, none⟩) (hkp.block g hgl hng)]
          refine cell_rowK hg k _ ?_
          have : (strV (d.map (·.1)))[k]? = some (.string e.1) := by unfold strV; simp [he]
          rw [← htake, List.getElem?_take_of_lt (by omega), Array.getElem?_toList] at this
          exact this
      obtain ⟨g, hao, y0⟩ := HCN.out wr hV.bh.kept
      subst hao
      by_cases het : e.1 = tmpB
      · have HH : Hid (seen bs (d.take (k + 1)) = seen bs (d.take k)) := by
          have := HTK.out; rw [if_pos het, List.append_nil] at this; exact this
        have y1 : wr.cell? ⟨g, k, none⟩ = some (.string ⟨#[97, 114, 46, 116, 109, 112, 126]⟩) := by rw [y0, het]; rfl
        clear y0 HTK he hkl het
        go_wp2
        refine ⟨⟨k + 1, m, G', by go_num, by omega, by omega, ?_⟩, by simp [intOf]; omega⟩
        rw [HH.out]; exact hV
      · have HH : Hid (seen bs (d.take (k + 1)) = seen bs (d.take k) ++ [filOf bs e]) := by
          have := HTK.out; rw [if_neg het] at this; exact this
        have bq : (e.1.toList == [97, 114, 46, 116, 109, 112, 126]) = false := by
          have : tmpB.toList = [97, 114, 46, 116, 109, 112, 126] := by rw [ByteArray.toList_eq]; rfl
          rw [← this, beq_toList]; exact decide_eq_false het
        have bq2 : ¬ e.1.toList = [97, 114, 46, 116, 109, 112, 126] := by simpa using bq
        have hS := HST.out m k e w1 G' wr
        have hR := fun G2 W ov L => HRD.out (m + 1) k e w1 G2 W ov L he (by omega)
        have hfo : filOf bs e = (e.1, ((lookB bs e.2).date, (lookB bs e.2).uid, (lookB bs e.2).gid, (lookB bs e.2).mode), (lookB bs e.2).data) := rfl
        rw [hfo] at HH
        obtain ⟨B, hBe⟩ : ∃ B, B = lookB bs e.2 := ⟨_, rfl⟩
        rw [← hBe] at hS hR HH
        obtain ⟨nm, hnm⟩ : ∃ nm, nm = e.1 := ⟨_, rfl⟩
        have HCN2 : Hid (∀ W, Kp G w1 W → W.cell? ⟨g, k, none⟩ = some (.string nm)) := fun W hkp => by
          obtain ⟨g', h1, h2⟩ := HCN.out W hkp
          injection h1 with h1
          injection h1 with h1
          subst h1
          rw [hnm]; exact h2
        obtain ⟨M, hM⟩ : ∃ M, M = seen bs (d.take k) := ⟨_, rfl⟩
        have hMl : M.length ≤ 64 := by
          rw [hM]; unfold seen; rw [List.length_map]
          have h1 : (without (d.take k) tmpB).length ≤ (d.take k).length := without_len _ _
          have h2 : (d.take k).length ≤ k := by rw [List.length_take]; omega
          omega
        rw [← hM] at hV HH
        rw [← hnm] at y0 bq bq2 hS hR HH
        have HS : Hid (Calls Tryz.prog 13 #[.pointer (some ⟨q, 0, none⟩), .string nm] wr fun r w' => r = .returned (.tuple #[.agg #[.int .i64 B.date, .int .i64 B.uid, .int .i64 B.gid, .int .i64 B.mode, .string nm, .int .i64 B.data.size], .nilIface]) ∧ ∃ G2, Vw PS G q (v.ticks (m + 1)) w1 G2 w' _ M) := hS _ M he (by omega) hV
        have HR := hidK hR
        obtain ⟨dt, um, gm, mm, da, sf⟩ := B
        simp only at HS HR HH
        clear hS hR hfo hBe HCN HTK he hkl het hM hnm
        go_upto_region 10 with (first
          | (go_at_call 13; refine HS.out.mono ?_; rintro e w2 ⟨rfl, G2, hV2⟩)
          | (refine wpList_store_kz rfl rfl 42 (.tmp 8) (.tmp 37) rfl w2.heap.size 0 _ rfl rfl 42 _ _ (heap_alloc_new _ _) sizeInf16 rfl rfl rfl ?_; intro W3 hb3 hq3))
        have hr3 : W3.heap[w2.heap.size]? = some (.cells #[.int .i64 dt, .int .i64 um, .int .i64 gm, .int .i64 mm, .string nm, .int .i64 da.size] 42 (0, 0)) := hb3
        have hbW3 : Below w2.heap.size w2 W3 := ((Below.refl _ w2).alloc (Nat.le_refl _) _).trans (hq3.below (Nat.le_refl _) (by simp))
        have hV3 := hV2.below C hbW3
        have hni : ¬ G2 w2.heap.size := fun hg => by have := hV2.bh.vol.low _ hg; omega
        have y3 := HCN2.out W3 hV3.bh.kept
        have HRR : Hid (Calls Tryz.prog 26 #[.pointer (some ⟨q, 0, none⟩), .string nm] W3 fun r w' => r = .returned (.tuple #[.string da, .nilIface]) ∧ Kp G2 W3 w' ∧ ∃ G3, Vw PS G q (v.ticks (m + 1 + 1)) w1 G3 w' _ M) := HR.out G2 W3 _ M hV3
        have HI : Hid (∀ W, Kp G2 W3 W → W.heap[w2.heap.size]? = some (.cells #[.int .i64 dt, .int .i64 um, .int .i64 gm, .int .i64 mm, .string nm, .int .i64 da.size] 42 (0, 0))) := fun W hk => (hk.block _ (Array.getElem?_eq_some_iff.1 hr3).1 hni).trans hr3
        clear hb3 hq3 hbW3 hV2 hV y0 HS HR hr3 hni hV3
        go_upto_region 11 with (go_at_call 26; refine HRR.out.mono ?_; rintro e w4 ⟨rfl, hk4, G4, hV4⟩)
        have hi4 := HI.out w4 hk4
        have f0 := Lib.cell_of_heap hi4 (0 : Nat)
        have f1 := Lib.cell_of_heap hi4 (1 : Nat)
        have f2 := Lib.cell_of_heap hi4 (2 : Nat)
        have f3 := Lib.cell_of_heap hi4 (3 : Nat)
        have f4 := Lib.cell_of_heap hi4 (4 : Nat)
        have f5 := Lib.cell_of_heap hi4 (5 : Nat)
        simp only [List.getElem?_toArray, List.getElem?_cons_zero, List.getElem?_cons_succ] at f0 f1 f2 f3 f4 f5
        have y4 := HCN2.out w4 hV4.bh.kept
        clear y3 HRR hk4
        go_quiet (fail)
        obtain ⟨W5, hW5⟩ : ∃ W5, W5 = w4.drewN nq := ⟨_, rfl⟩
        rw [← hW5]
        have hb45 : Below w4.heap.size w4 W5 := by rw [hW5]; exact belDrewN (Below.refl _ _) nq
        have hV5 := hV4.below C hb45
        have hi5 : W5.heap[w2.heap.size]? = some (.cells #[.int .i64 dt, .int .i64 um, .int .i64 gm, .int .i64 mm, .string nm, .int .i64 da.size] 42 (0, 0)) := (hb45.block _ (Array.getElem?_eq_some_iff.1 hi4).1).trans hi4
        clear f0 f1 f2 f3 f4 f5 y4 hi4 hb45 hW5 hV4
        have f0 := Lib.cell_of_heap hi5 (0 : Nat)
        have f1 := Lib.cell_of_heap hi5 (1 : Nat)
        have f2 := Lib.cell_of_heap hi5 (2 : Nat)
        have f3 := Lib.cell_of_heap hi5 (3 : Nat)
        simp only [List.getElem?_toArray, List.getElem?_cons_zero, List.getElem?_cons_succ] at f0 f1 f2 f3
        have y5 := HCN2.out W5 hV5.bh.kept
        have HO := hidK hV5.own
        have hs5 := hV5.bh.kept.size
        obtain ⟨i0, hi, hz0, hz1, hz2⟩ := info_parts16 infoFil
        have HMl := hidK hMl
        clear HI hi5
        go_upto_region 13 with fail
        go_region_law (refine step_append_16 rfl (.tmp 70) (.tmp 79) 22 rfl w1.heap.size 26 i0 (.agg #[.string ⟨#[]⟩, .int .i64 0, .int .i64 0, .int .i64 0, .int .i64 0, .string ⟨#[]⟩]) 6 64 Tryz.underlying22 hi hz0 hz1 hz2 rfl (by decide) u6 M.length (M.flatMap filL) (by simp [Act.eval]) (by exact own_upK HO.out _) ⟨W5.heap.size, 0, none⟩ 1 1 [.string nm, .int .i64 dt, .int .i64 um, .int .i64 gm, .int .i64 mm, .string da] (by simp [Act.eval]) rfl (new_rowK W5 #[.string nm, .int .i64 dt, .int .i64 um, .int .i64 gm, .int .i64 mm, .string da] 26 [.string nm, .int .i64 dt, .int .i64 um, .int .i64 gm, .int .i64 mm, .string da] rfl) (filL_one (nm, (dt, um, gm, mm), da)) (by have := HMl.out; unfold maxLen; omega) (by have := HMl.out; omega) (by simp; omega) ?_; intro v' w6 hown' hgrow hwh)
        all_goals
          have hb6 : Below W5.heap.size W5 ((W5.alloc (.cells #[.string nm, .int .i64 dt, .int .i64 um, .int .i64 gm, .int .i64 mm, .string da] 26)).drew) := ((Below.refl _ W5).alloc (Nat.le_refl _) _).drew
          have hV6 := (hV5.below C hb6).grow C (pushF (M := [(nm, (dt, um, gm, mm), da)]) rfl hown') hgrow (by rcases hwh with h' | h'; exact .inl h'; exact .inr ⟨_, h', Nat.le_refl _⟩)
          go_wp2
          refine ⟨⟨k + 1, m + 1 + 1, G4, by go_num, by omega, by omega, ?_⟩, by simp [intOf]; omega⟩
          rw [HH.out]; exact hV6.below C (by go_grown)
    · obtain rfl : k = n := by omega
      have hall : d.take k = d := by rw [HNN.out]; exact List.take_length
      rw [hall] at hV
      clear HX HNB
      go_wp2
      go_returns
      obtain ⟨_, g1, g2⟩ := HV0.out
      refine ⟨_, m, G', rfl, by omega, ⟨hV.bh.vol, fun k hk => ?_, hV.bh.sup, g1.comp hV.bh.kept (fun i hi => .inl hi)⟩, hV.own.row, hV.off⟩
      rcases hV.bh.sub k hk with h' | h'
      · exact .inl h'
      · exact .inr (by omega)
end Go.Proofs.YtbbblncoicjacaaGreatDoor
