
-- The statements' own Arm.
import Derived.Test.YtloljimabapicacGreatS7
import Derived.Deep.RegionWith
import Derived.Deep.DrawnRows
namespace Go.Proofs.YtloljimabapicacGreat
open Go.RowKit
set_option linter.unusedVariables false
variable {PS : (Nat → Prop) → Nat → St → World → Prop}
theorem plV_len (l : List Flt) : (plV l).length = l.length * 3 := by
  induction l with
  | nil => rfl
  | cons a r ih => show (plV r).length + 1 + 1 + 1 = _; rw [ih, List.length_cons]; omega
theorem plV_set (A R : List Flt) (f g : Flt) : (((plV (A ++ f :: R)).set (A.length * 3) (.int .i64 g.at_)).set (A.length * 3 + 1) (.int .i64 g.kind)).set (A.length * 3 + 2) (.int .i64 g.n) = plV (A ++ g :: R) := by
  have hl := plV_len A
  rw [plV_append, plV_append, List.set_append_right _ _ (by omega), List.set_append_right _ _ (by omega), List.set_append_right _ _ (by omega), hl, Nat.sub_self, Nat.add_sub_cancel_left, Nat.add_sub_cancel_left]
  rfl
/-- The first k faults written over with power cuts. -/
def ovF (k : Nat) (l : List Flt) : List Flt := (List.range k).map (fun (i : Nat) => ⟨(i : Int) + 1, 3, 0⟩) ++ (l.drop k ++ [⟨7, 7, 7⟩])
theorem ovF_len (k : Nat) (l : List Flt) (h : k ≤ l.length) : (ovF k l).length = l.length + 1 := by unfold ovF; simp; omega
theorem ovF_at (k : Nat) (l : List Flt) (f : Flt) (h : l[k]? = some f) : (ovF k l)[k]? = some f := by
  have hk := (List.getElem?_eq_some_iff.1 h).1
  unfold ovF
  rw [List.getElem?_append_right (by simp), List.length_map, List.length_range, Nat.sub_self, List.drop_eq_getElem_cons hk]
  rw [List.getElem?_eq_getElem hk] at h
  simp [Option.some.inj h]
theorem ovF_set (k : Nat) (l : List Flt) (h : k < l.length) : (((plV (ovF k l)).set (k * 3) (.int .i64 ((k : Int) + 1))).set (k * 3 + 1) (.int .i64 3)).set (k * 3 + 2) (.int .i64 0) = plV (ovF (k + 1) l) := by
  have e1 : ovF k l = (List.range k).map (fun (i : Nat) => (⟨(i : Int) + 1, 3, 0⟩ : Flt)) ++ l[k] :: (l.drop (k + 1) ++ [⟨7, 7, 7⟩]) := by
    unfold ovF; rw [List.drop_eq_getElem_cons h]; rfl
  have e2 : ovF (k + 1) l = (List.range k).map (fun (i : Nat) => (⟨(i : Int) + 1, 3, 0⟩ : Flt)) ++ ⟨(k : Int) + 1, 3, 0⟩ :: (l.drop (k + 1) ++ [⟨7, 7, 7⟩]) := by
    unfold ovF; rw [List.range_succ, List.map_append, List.append_assoc]; rfl
  have := plV_set ((List.range k).map (fun (i : Nat) => (⟨(i : Int) + 1, 3, 0⟩ : Flt))) (l.drop (k + 1) ++ [⟨7, 7, 7⟩]) l[k] ⟨(k : Int) + 1, 3, 0⟩
  rw [List.length_map, List.length_range] at this
  rw [e1, e2]; exact this
theorem ovF_0 (l : List Flt) : plV (ovF 0 l) = plV l ++ [.int .i64 7, .int .i64 7, .int .i64 7] := by
  unfold ovF
  rw [List.range_zero, List.map_nil, List.nil_append, List.drop_zero, plV_append]; rfl
theorem ovF_last (k : Nat) (l : List Flt) (h : k ≤ l.length) : (ovF k l)[l.length]? = some ⟨7, 7, 7⟩ := by
  unfold ovF
  rw [List.getElem?_append_right (by simp; omega), List.getElem?_append_right (by simp)]
  simp
set_option maxRecDepth 8000 in
set_option maxHeartbeats 8000000 in
theorem lawArm_c (C : PC PS) (G : Nat → Prop) (q : Nat) (v : Vs) (pv : Value) (plan : List Flt) (w : World) (h : PV PS G q v w) (hp : RowP w pv plan) (hpf : plan ≠ [] → ∀ k, pv.ownBlock = some k → ¬ G k) (hl : plan.length ≤ 2097152) :
    Calls Tryz.prog 58 #[.pointer (some ⟨q, 0, none⟩), pv] w fun e w' => e = .returned (.bool true) ∧ VDid PS G q (v.arm plan) w w' := by
  obtain ⟨i0, hi, hz0, hz1, hz2⟩ := info_parts infoF
  have HH : Hid (PV PS G q v w) := h
  have HFB : Hid (∀ k, G k → k < w.heap.size) := h.low
  obtain ⟨ao, cp, hv⟩ := hp.form
  have HF : Hid (∀ k, k < plan.length → ∃ f, plan[k]? = some f ∧ ∃ b off, ao = some ⟨b, off, none⟩ ∧ b < w.heap.size ∧ ¬ G b ∧ ∀ W : World, W.heap[b]? = w.heap[b]? → W.cell? ⟨b, off + k * 3, none⟩ = some (.int .i64 f.at_) ∧ W.cell? ⟨b, off + k * 3 + 1, none⟩ = some (.int .i64 f.kind) ∧ W.cell? ⟨b, off + k * 3 + 2, none⟩ = some (.int .i64 f.n)) := fun k hk => by
    have hne : plan ≠ [] := fun e => by rw [e] at hk; simp at hk
    refine ⟨plan[k], List.getElem?_eq_getElem hk, ?_⟩
    rcases hp with ⟨h0, _⟩ | ⟨b, off, cap, hv', hb, hc⟩
    · exact absurd h0 hne
    · rw [hv] at hv'; cases hv'
      refine ⟨b, off, rfl, hb, hpf hne b (by rw [hv]; rfl), fun W hbb => ?_⟩
      obtain ⟨h1, h2, h3⟩ := hc k _ (List.getElem?_eq_getElem hk)
      exact ⟨(World.cell?_of_block (a := ⟨b, _, none⟩) hbb).trans h1, (World.cell?_of_block (a := ⟨b, _, none⟩) hbb).trans h2, (World.cell?_of_block (a := ⟨b, _, none⟩) hbb).trans h3⟩
  obtain ⟨m, hm⟩ : ∃ m, m = plan.length := ⟨_, rfl⟩
  have HM : Hid (m = plan.length) := hm
  rw [← hm] at hv HF hl
  subst hv
  clear hp hpf h hm
  go_enter Tryz.func58, Tryz.ntmps58
  go_wp2
  go_loopw [5, 6] (fun o i wr => ∃ k : Nat, i = .int .i64 k ∧ k ≤ m ∧ wr.ownsRow w.heap.size 108 3 o k (plV (plan.take k)) ∧ Below w.heap.size w wr) (fun _ i _ => m - (intOf i).toNat)
  case atStart => exact ⟨0, rfl, Nat.zero_le _, World.ownsRow_nil _ _ _ _, Below.refl _ _⟩
  case round =>
    obtain ⟨k, rfl, hkm, hown, hbw⟩ := hrel
    have hbs := hbw.size
    by_cases hk : k < m
    · obtain ⟨f, hf, b, off, rfl, hbl, _, hc⟩ := HF.out k hk
      obtain ⟨e0, e1, e2⟩ := hc wr (hbw.block b hbl)
      obtain ⟨fa, fk, fn⟩ := f
      simp only at e0 e1 e2
      have HG : Hid (plV (plan.take (k + 1)) = plV (plan.take k) ++ [.int .i64 fa, .int .i64 fk, .int .i64 fn]) := by
        show _ = _
        rw [take_snoc plan k _ hf, plV_append]; rfl
      obtain ⟨L, hL⟩ : ∃ L, L = plV (plan.take k) := ⟨_, rfl⟩
      rw [← hL] at hown HG
      have b1 : decide ((k : Int) < (m : Int)) = true := by simp; omega
      have i1 : (k : Int) < (m : Int) := by omega
      have i2 : (0 : Int) ≤ (k : Int) := by omega
      clear hL hf hc
      go_wp2_with (at_builtin; refine wpList_append_own _ rfl _ _ 30 rfl w.heap.size 108 i0 (.agg #[.int .i64 0, .int .i64 0, .int .i64 0]) 3 24 Tryz.underlying30 hi hz0 hz1 hz2 rfl (by decide) _ _ _ rfl (hown.alloc _) ⟨wr.heap.size, 0, none⟩ 1 1 [.int .i64 fa, .int .i64 fk, .int .i64 fn] rfl rfl (flt_new _ _ _ _ _) (three_one _ _ _) ?c3 ?c4 ?c5 ?_)
      case c3 => unfold maxLen; omega
      case c4 => omega
      case c5 => first | omega | (simp; omega)
      intro v' w2 hown' hgrow _
      have hb2 := (hbw.alloc hbs (.cells #[.int .i64 fa, .int .i64 fk, .int .i64 fn] 108)).grown hgrow (by simp; omega) (fun k hk => (hown.lt k hk).1)
      clear hgrow hown hbw
      go_wp2
      exact ⟨⟨k + 1, rfl, by omega, by rw [HG.out]; exact hown', hb2⟩, by simp [intOf]; omega⟩
    · obtain rfl : k = m := by omega
      have b1 : decide ((k : Int) < (k : Int)) = false := by simp
      rw [show plan.take k = plan by rw [HM.out, List.take_length]] at hown
      go_wp2_with (at_builtin; refine wpList_append_own _ rfl _ _ 30 rfl w.heap.size 108 i0 (.agg #[.int .i64 0, .int .i64 0, .int .i64 0]) 3 24 Tryz.underlying30 hi hz0 hz1 hz2 rfl (by decide) _ _ _ rfl (hown.alloc _) ⟨wr.heap.size, 0, none⟩ 1 1 [.int .i64 7, .int .i64 7, .int .i64 7] rfl rfl (flt_new _ _ _ _ _) (three_one _ _ _) ?c3 ?c4 ?c5 ?_)
      case c3 => unfold maxLen; omega
      case c4 => omega
      case c5 => first | omega | (simp; omega)
      intro v' w2 hown' hgrow hnil
      have hb2 := (hbw.alloc hbs (.cells #[.int .i64 7, .int .i64 7, .int .i64 7] 108)).grown hgrow (by simp; omega) (fun k hk => (hown.lt k hk).1)
      rw [← ovF_0] at hown'
      clear hgrow hown hbw
      rcases hown'.2 with ⟨h1, h2⟩ | ⟨g, cap, cur, rfl, hg, hh, hnc, _⟩
      · omega
      have hgl : g < w2.heap.size := (Array.getElem?_eq_some_iff.1 hh).1
      have hcapm : (k : Int) ≤ (cap : Int) := by omega
      have HOW : Hid (w2.ownsRow w.heap.size 108 3 (.slice (some ⟨g, 0, none⟩) (k + 1) cap) (k + 1) (plV (ovF 0 plan))) := hown'
      have HB2 : Hid (Below w.heap.size w w2) := hb2
      have HGF : Hid (¬ G g) := fun h' => by have := HFB.out g h'; omega
      have HCR : Hid (Calls Tryz.prog 76 #[.pointer (some ⟨q, 0, none⟩), .slice (some ⟨g, 0, none⟩) k cap] w2 fun e w' => e = .returned (.tuple #[]) ∧ VDid PS G q (v.arm plan) w2 w') := by
        refine fArm_c C G q v plan _ w2 (HH.out.below C hb2) ?_ (fun _ k' hk' => by simp only [Value.ownBlock, Option.some.injEq] at hk'; subst hk'; exact HGF.out) (by rw [← HM.out]; omega)
        rcases Nat.eq_zero_or_pos k with h0 | h0
        · refine .inl ⟨List.eq_nil_of_length_eq_zero (by rw [← HM.out]; exact h0), some ⟨g, 0, none⟩, cap, by rw [h0]⟩
        · refine .inr ⟨g, 0, cap, by rw [← HM.out], hgl, fun j f hj => ?_⟩
          have hjl := (List.getElem?_eq_some_iff.1 hj).1
          have hj' : (ovF 0 plan)[j]? = some f := by
            unfold ovF
            rw [List.range_zero, List.map_nil, List.nil_append, List.drop_zero, List.getElem?_append_left hjl]; exact hj
          obtain ⟨a1, a2, a3⟩ := plV_at _ j f hj'
          have k1 := hown'.cells (g := g) rfl _ _ a1
          have k2 := hown'.cells (g := g) rfl _ _ a2
          have k3 := hown'.cells (g := g) rfl _ _ a3
          rw [add_lit0] at k1 k2 k3
          rw [Nat.zero_add]
          exact ⟨k1, k2, k3⟩
      clear hown' hb2 hh hnil
      go_wp2_with fail
      go_at_call 76
      refine HCR.out.mono ?_
      rintro e w3 ⟨rfl, hps, hkp⟩
      have how3 := own_keep HOW.out (fun k' hk' => (hkp.block k' (by simp only [Value.ownBlock, Option.some.injEq] at hk'; omega) (by simp only [Value.ownBlock, Option.some.injEq] at hk'; subst hk'; exact HGF.out)))
      have hlast := ovF_last 0 plan (Nat.zero_le _)
      rw [← HM.out] at hlast
      obtain ⟨a1, a2, a3⟩ := plV_at _ k _ hlast
      have y1 := how3.cells (g := g) rfl _ _ a1
      have y2 := how3.cells (g := g) rfl _ _ a2
      have y3 := how3.cells (g := g) rfl _ _ a3
      rw [add_lit0] at y1 y2 y3
      simp only at y1 y2 y3
      have HPS : Hid (PV PS (ext G w2 w3) q (v.arm plan) w3) := hps
      have HKP : Hid (Kp G w2 w3) := hkp
      have HOW3 : Hid (w3.ownsRow w.heap.size 108 3 (.slice (some ⟨g, 0, none⟩) (k + 1) cap) (k + 1) (plV (ovF 0 plan))) := how3
      have hs23 := hkp.size
      have hs02 := HB2.out.size
      have j1 : (k : Int) < (k : Int) + 1 := by omega
      have j2 : (0 : Int) ≤ (k : Int) := by omega
      clear how3 hps hkp HCR a1 a2 a3 hlast
      go_wp2
      go_loopw [8, 9] (fun o i wx => ∃ j : Nat, i = .int .i64 j ∧ o = .bool true ∧ j ≤ k ∧ wx.ownsRow w.heap.size 108 3 (.slice (some ⟨g, 0, none⟩) (k + 1) cap) (k + 1) (plV (ovF j plan)) ∧ w3.heap.size ≤ wx.heap.size ∧ wx.os = w3.os ∧ wx.tape = w3.tape ∧ wx.output = w3.output ∧ ∀ q, q < w3.heap.size → q ≠ g → wx.heap[q]? = w3.heap[q]?) (fun _ i _ => k - (intOf i).toNat)
      case atStart => exact ⟨0, rfl, rfl, Nat.zero_le _, HOW3.out, Nat.le_refl _, rfl, rfl, rfl, fun _ _ _ => rfl⟩
      case round =>
        obtain ⟨j, rfl, rfl, hjk, hown, hsz, ho1, ho2, ho3, hblk⟩ := hrel
        by_cases hj : j < k
        · obtain ⟨f, hf, b, off, rfl, hbl, hbG, hc⟩ := HF.out j hj
          have hbg : b ≠ g := by omega
          obtain ⟨c0, c1, c2⟩ := hc wr ((hblk b (by omega) hbg).trans ((HKP.out.block b (by omega) hbG).trans (HB2.out.block b hbl)))
          obtain ⟨a1, a2, a3⟩ := plV_at _ j f (ovF_at j plan f hf)
          have d0 := hown.cells (g := g) rfl _ _ a1
          have d1 := hown.cells (g := g) rfl _ _ a2
          have d2 := hown.cells (g := g) rfl _ _ a3
          rw [add_lit0] at d0 d1 d2
          obtain ⟨fa, fk, fn⟩ := f
          simp only at c0 c1 c2 d0 d1 d2
          obtain ⟨cur', hgb⟩ := own_typed hown (show (Value.slice (some ⟨g, 0, none⟩) (k + 1) cap).ownBlock = some g from rfl)
          have f1 : wr.frozen? ⟨g, j * 3, none⟩ = false := Lib.frozen_of_heap hgb _
          have f2 : wr.frozen? ⟨g, j * 3 + 1, none⟩ = false := Lib.frozen_of_heap hgb _
          have f3 : wr.frozen? ⟨g, j * 3 + 2, none⟩ = false := Lib.frozen_of_heap hgb _
          have b2 : decide ((j : Int) < (k : Int)) = true := by simp; omega
          have i1 : (j : Int) < (k : Int) := by omega
          have i2 : (0 : Int) ≤ (j : Int) := by omega
          have i3 : (j : Int) < (k : Int) + 1 := by omega
          have b3 : (fa != fa) = false := by simp
          have b4 : (fk != fk) = false := by simp
          have b5 : (fn != fn) = false := by simp
          have hst := ((hown.stored (j * 3) (.int .i64 ((j : Int) + 1))).1.stored (j * 3 + 1) (.int .i64 3)).1.stored (j * 3 + 2) (.int .i64 0)
          rw [ovF_set j plan (by rw [← HM.out]; exact hj)] at hst
          have HST : Hid ((((wr.setCell ⟨g, j * 3, none⟩ (.int .i64 ((j : Int) + 1))).setCell ⟨g, j * 3 + 1, none⟩ (.int .i64 3)).setCell ⟨g, j * 3 + 2, none⟩ (.int .i64 0)).ownsRow w.heap.size 108 3 (.slice (some ⟨g, 0, none⟩) (k + 1) cap) (k + 1) (plV (ovF (j + 1) plan))) := hst.1
          have HBL : Hid (w3.heap.size ≤ wr.heap.size ∧ wr.os = w3.os ∧ wr.tape = w3.tape ∧ wr.output = w3.output ∧ ∀ q, q < w3.heap.size → q ≠ g → wr.heap[q]? = w3.heap[q]?) := ⟨hsz, ho1, ho2, ho3, hblk⟩
          clear hst hown hgb hblk ho1 ho2 ho3 a1 a2 a3 hc hf y1 y2 y3
          go_wp2
          go_quiet (fail)
          go_wp2
          obtain ⟨hq1, hq2, hq3, hq4⟩ := drewN_eq wr nq
          obtain ⟨z1, z2, z3, z4, z5⟩ := HBL.out
          have hh := setCell_heap (setCell_heap (setCell_heap hq1 ⟨g, j * 3, none⟩ (.int .i64 ((j : Int) + 1))) ⟨g, j * 3 + 1, none⟩ (.int .i64 3)) ⟨g, j * 3 + 2, none⟩ (.int .i64 0)
          refine ⟨⟨j + 1, rfl, rfl, by omega, own_keep HST.out (fun k' _ => by rw [hh]), ?_, hq2.trans z2, hq3.trans z3, hq4.trans z4, ?_⟩, by simp [intOf]; omega⟩
          · rw [hh]; simp [World.setCell]; exact z1
          · intro q' h1 h2
            rw [hh, Below.heap_setCell _ _ _ _ h2, Below.heap_setCell _ _ _ _ h2, Below.heap_setCell _ _ _ _ h2]; exact z5 q' h1 h2
        · obtain rfl : j = k := by omega
          have b2 : decide ((j : Int) < (j : Int)) = false := by simp
          have HR : Hid (VDid PS G q (v.arm plan) w wr) := by
            refine ⟨(HPS.out.same C (by omega) fun q' h1 h2 => hblk q' h2 (fun e' => ?_)).mono (fun q' h1 => ?_) (fun q' h1 => ?_), ho1.trans (HKP.out.os.trans HB2.out.os), ho2.trans (HKP.out.tape.trans HB2.out.tape), ho3.trans (HKP.out.output.trans HB2.out.output), by omega, fun q' h1 h2 => ?_⟩
            · subst e'
              rcases h1 with h1 | h1
              · exact HGF.out h1
              · omega
            · rcases h1 with h1 | h1
              · exact .inl h1
              · exact .inr ⟨by omega, by omega⟩
            · rcases h1 with h1 | h1
              · have := HFB.out q' h1; omega
              · exact h1.2
            · rw [hblk q' (by omega) (by omega), HKP.out.block q' (by omega) h2, HB2.out.block q' h1]
          clear hown hblk ho1 ho2 ho3 y1 y2 y3
          go_wp2
          go_returns
          exact ⟨rfl, HR.out⟩
end Go.Proofs.YtloljimabapicacGreat
