
-- The statements' own Restart.
import Derived.Test.YtjbphheojfclcaaGreatZT
import Derived.Deep.RegionWith
import Derived.Deep.DrawnRows
namespace Go.Proofs.YtjbphheojfclcaaGreat
open Go.RowKit
set_option linter.unusedVariables false
set_option maxRecDepth 100000
variable {PS : (Nat → Prop) → Nat → St → World → Prop}
/-- The first k written over. -/
def over (k : Nat) (l : List Int) : List Value := List.replicate k (.int .i64 1099511627776) ++ ((l.drop k).map (Value.int .i64) ++ [.int .i64 7])
theorem over_set (k : Nat) (l : List Int) (h : k < l.length) : (over k l).set k (.int .i64 1099511627776) = over (k + 1) l := by
  unfold over
  rw [List.set_append_right _ _ (by simp), show k - (List.replicate k (Value.int .i64 1099511627776)).length = 0 by simp, List.drop_eq_getElem_cons h, List.map_cons, List.cons_append, List.set_cons_zero, List.replicate_succ', List.append_assoc]
  rfl
theorem over_at (k : Nat) (l : List Int) (h : k < l.length) : (over k l)[k]? = some (.int .i64 (l.getD k 0)) := by
  unfold over
  rw [List.getElem?_append_right (by simp), show k - (List.replicate k (Value.int .i64 1099511627776)).length = 0 by simp, List.drop_eq_getElem_cons h, List.map_cons, List.cons_append]
  simp [List.getD, List.getElem?_eq_getElem h]
theorem over_len (k : Nat) (l : List Int) (h : k ≤ l.length) : (over k l).length = l.length + 1 := by unfold over; simp; omega
set_option maxHeartbeats 4000000 in
theorem lawRestart_c (C : PC PS) (F : Nat → Prop) (p : Nat) (v : Vs) (n : Int) (cv : Value) (cuts : List Int) (w : World) (h : PV PS F p v w) (hw : Wf v.st) (hrd : v.round ≤ 4194304) (hcut : RowI w cv cuts) (hcF : cuts ≠ [] → ∀ k, cv.ownBlock = some k → ¬ F k) (hcl : cuts.length ≤ 2097152) :
    Calls Tryz.prog 28 #[.pointer (some ⟨p, 0, none⟩), .int .i64 n, cv] w fun e w' => e = .returned (.bool true) ∧ VDid PS F p (v.restart n cuts) w w' := by
  obtain ⟨i0, hi, hz0, hz1, hz2⟩ := info_parts info3
  have HH : Hid (PV PS F p v w) := h
  have HW : Hid (Wf v.st ∧ v.round ≤ 4194304) := ⟨hw, hrd⟩
  have HFB : Hid (∀ k, F k → k < w.heap.size) := h.low
  have HRI : Hid (RowI w cv cuts ∧ (cuts ≠ [] → ∀ k, cv.ownBlock = some k → ¬ F k)) := ⟨hcut, hcF⟩
  obtain ⟨ao, cp, hcv⟩ : ∃ ao cp, cv = .slice ao cuts.length cp := by
    rcases hcut with ⟨rfl, ao, c, rfl⟩ | ⟨b, off, cap, rfl, _, _⟩
    · exact ⟨_, _, rfl⟩
    · exact ⟨_, _, rfl⟩
  have HCE : Hid (∀ j, j < cuts.length → ∃ b off, ao = some ⟨b, off, none⟩ ∧ w.cell? ⟨b, off + j, none⟩ = some (.int .i64 (cuts.getD j 0)) ∧ ¬ F b) := by
    intro j hj
    rcases hcut with ⟨rfl, _⟩ | ⟨b, off, cap, hv, _, hc⟩
    · simp at hj
    · rw [hcv] at hv; cases hv
      exact ⟨b, off, rfl, hc j hj, hcF (fun e => by rw [e] at hj; simp at hj) b (by rw [hcv]; rfl)⟩
  obtain ⟨m, hm⟩ : ∃ m, m = cuts.length := ⟨_, rfl⟩
  have HM : Hid (m = cuts.length) := hm
  rw [← hm] at hcv hcl HCE
  subst hcv
  clear h hw hrd hcut hcF hm
  go_enter Tryz.func28, Tryz.ntmps28
  go_wp2
  go_loopw [7, 8] (fun o i wr => ∃ k : Nat, i = .int .i64 k ∧ k ≤ m ∧ wr.ownsRow w.heap.size 3 1 o k ((cuts.take k).map (Value.int .i64)) ∧ Below w.heap.size w wr) (fun _ i _ => m - (intOf i).toNat)
  case atStart => exact ⟨0, rfl, Nat.zero_le _, World.ownsRow_nil _ _ _ _, Below.refl _ _⟩
  case round =>
    obtain ⟨k, rfl, hkm, hown, hbw⟩ := hrel
    have hbs := hbw.size
    by_cases hk : k < m
    · obtain ⟨b, off, rfl, d0, _⟩ := HCE.out k hk
      have c0 := cell_below hbw d0
      have HG : Hid ((cuts.take (k + 1)).map (Value.int .i64) = (cuts.take k).map (Value.int .i64) ++ [.int .i64 (cuts.getD k 0)]) := by
        exact take_ints cuts k (by rw [← HM.out]; exact hk)
      obtain ⟨x, hx⟩ : ∃ x, x = cuts.getD k 0 := ⟨_, rfl⟩
      rw [← hx] at c0 HG
      obtain ⟨L, hL⟩ : ∃ L, L = (cuts.take k).map (Value.int .i64) := ⟨_, rfl⟩
      rw [← hL] at hown HG
      have b1 : decide ((k : Int) < (m : Int)) = true := by simp; omega
      clear d0 hx hL
      go_wp2_with (at_builtin; refine wpList_append_own _ rfl _ _ 37 rfl w.heap.size 3 i0 (.int .i64 0) 1 8 Tryz.underlying37 hi hz0 hz1 hz2 rfl (by decide) _ _ _ rfl (hown.alloc _) ⟨wr.heap.size, 0, none⟩ 1 1 [.int .i64 x] rfl rfl (cell_one_new _ _ _) (by intro u hu; simp at hu; subst hu; rfl) ?c3 ?c4 ?c5 ?_)
      case c3 => unfold maxLen; omega
      case c4 => omega
      case c5 => first | omega | (simp; omega)
      intro v' w2 hown' hgrow _
      have hb2 := (hbw.alloc hbs (.cells #[.int .i64 x] 3)).grown hgrow (by simp; omega) (fun k hk => (hown.lt k hk).1)
      clear hgrow hown hbw
      go_wp2
      exact ⟨⟨k + 1, rfl, by omega, by rw [HG.out]; exact hown', hb2⟩, by simp [intOf]; omega⟩
    · obtain rfl : k = m := by omega
      have b1 : decide ((k : Int) < (k : Int)) = false := by simp
      rw [show cuts.take k = cuts by rw [HM.out, List.take_length]] at hown
      obtain ⟨L, hL⟩ : ∃ L, L = cuts.map (Value.int .i64) := ⟨_, rfl⟩
      have HL : Hid (L = cuts.map (Value.int .i64)) := hL
      rw [← hL] at hown
      clear hL
      go_wp2_with (at_builtin; refine wpList_append_own _ rfl _ _ 37 rfl w.heap.size 3 i0 (.int .i64 0) 1 8 Tryz.underlying37 hi hz0 hz1 hz2 rfl (by decide) _ _ _ rfl (hown.alloc _) ⟨wr.heap.size, 0, none⟩ 1 1 [.int .i64 7] rfl rfl (cell_one_new _ _ _) (by intro u hu; simp at hu; subst hu; rfl) ?c3 ?c4 ?c5 ?_)
      case c3 => unfold maxLen; omega
      case c4 => omega
      case c5 => first | omega | (simp; omega)
      intro v' w2 hown' hgrow hnil
      have hb2 := (hbw.alloc hbs (.cells #[.int .i64 7] 3)).grown hgrow (by simp; omega) (fun k hk => (hown.lt k hk).1)
      clear hgrow hown hbw
      rcases hown'.2 with ⟨h1, h2⟩ | ⟨g, cap, cur, rfl, hg, hh, hnc, _⟩
      · omega
      have hgl : g < w2.heap.size := (Array.getElem?_eq_some_iff.1 hh).1
      have hcapm : (k : Int) ≤ (cap : Int) := by omega
      have HOW : Hid (w2.ownsRow w.heap.size 3 1 (.slice (some ⟨g, 0, none⟩) (k + 1) cap) (k + 1) (L ++ [.int .i64 7])) := hown'
      have HB2 : Hid (Below w.heap.size w w2) := hb2
      have HGF : Hid (¬ F g) := fun h' => by have := HFB.out g h'; omega
      have hcell : ∀ j, j < k → w2.cell? ⟨g, 0 + j, none⟩ = some (.int .i64 (cuts.getD j 0)) := fun j hj => by
        have := hown'.cells (g := g) rfl j (.int .i64 (cuts.getD j 0)) (by rw [List.getElem?_append_left (by rw [HL.out, List.length_map, ← HM.out]; exact hj), HL.out]; exact intV_at cuts j (by rw [← HM.out]; exact hj))
        rw [add_lit0] at this; rw [Nat.zero_add]; exact this
      have HCR : Hid (Calls Tryz.prog 19 #[.pointer (some ⟨p, 0, none⟩), .int .i64 n, .slice (some ⟨g, 0, none⟩) k cap] w2 fun e w' => e = .returned (.tuple #[]) ∧ VDid PS F p (v.restart n cuts) w2 w') := by
        refine fRestart_c C F p v n _ cuts w2 (HH.out.below C hb2) HW.out.1 HW.out.2 ?_ (fun _ k' hk' => by simp only [Value.ownBlock, Option.some.injEq] at hk'; subst hk'; exact HGF.out) (by rw [← HM.out]; omega)
        rcases Nat.eq_zero_or_pos k with h0 | h0
        · refine .inl ⟨List.eq_nil_of_length_eq_zero (by rw [← HM.out]; exact h0), some ⟨g, 0, none⟩, cap, by rw [h0]⟩
        · exact .inr ⟨g, 0, cap, by rw [← HM.out], by rw [← HM.out]; exact h0, fun j hj => hcell j (by rw [HM.out]; exact hj)⟩
      clear hcell hown' hb2 hh hnil
      go_wp2_with (go_at_call 19; refine HCR.out.mono ?_; rintro e w3 ⟨rfl, hps, hkp⟩; have how3 := own_keep HOW.out (fun k' hk' => (hkp.block k' (by simp only [Value.ownBlock, Option.some.injEq] at hk'; omega) (by simp only [Value.ownBlock, Option.some.injEq] at hk'; subst hk'; exact HGF.out))); have c7 : w3.cell? ⟨g, k, none⟩ = some (.int .i64 7) := (by have := how3.cells (g := g) rfl k (.int .i64 7) (by rw [List.getElem?_append_right (by rw [HL.out, List.length_map, ← HM.out]; exact Nat.le_refl _), HL.out, List.length_map, ← HM.out]; simp); rw [add_lit0] at this; exact this))
      have HPS : Hid (PV PS (ext F w2 w3) p (v.restart n cuts) w3) := hps
      have HKP : Hid (Kp F w2 w3) := hkp
      have how30 : w3.ownsRow w.heap.size 3 1 (.slice (some ⟨g, 0, none⟩) (k + 1) cap) (k + 1) (over 0 cuts) := by rw [HL.out] at how3; exact how3
      have hs23 := hkp.size
      have hs02 := HB2.out.size
      clear how3 hps hkp HCR c7
      go_loopw [10, 11] (fun o i wx => ∃ j : Nat, i = .int .i64 j ∧ o = .bool true ∧ j ≤ k ∧ wx.ownsRow w.heap.size 3 1 (.slice (some ⟨g, 0, none⟩) (k + 1) cap) (k + 1) (over j cuts) ∧ w3.heap.size ≤ wx.heap.size ∧ wx.os = w3.os ∧ wx.tape = w3.tape ∧ wx.output = w3.output ∧ ∀ q, q < w3.heap.size → q ≠ g → wx.heap[q]? = w3.heap[q]?) (fun _ i _ => k - (intOf i).toNat)
      case atStart => exact ⟨0, rfl, rfl, Nat.zero_le _, how30, Nat.le_refl _, rfl, rfl, rfl, fun _ _ _ => rfl⟩
      case round =>
        obtain ⟨j, rfl, rfl, hjk, hown, hsz, ho1, ho2, ho3, hblk⟩ := hrel
        by_cases hj : j < k
        · obtain ⟨b, off, rfl, d0, hbF⟩ := HCE.out j hj
          have hjl : j < cuts.length := by rw [← HM.out]; exact hj
          have hbl : b < w.heap.size := World.block_lt_of_cell? w _ d0
          have hbg : b ≠ g := by omega
          have c0 : wr.cell? ⟨b, off + j, none⟩ = some (.int .i64 (cuts.getD j 0)) := by
            rw [World.cell?_of_block (a := ⟨b, off + j, none⟩) ((hblk b (by omega) hbg).trans ((HKP.out.block b (by omega) hbF).trans (HB2.out.block b hbl)))]; exact d0
          have c1 : wr.cell? ⟨g, j, none⟩ = some (.int .i64 (cuts.getD j 0)) := by
            have := hown.cells (g := g) rfl j _ (over_at j cuts hjl)
            rwa [add_lit0] at this
          obtain ⟨cur', hgb⟩ := own_typed hown (show (Value.slice (some ⟨g, 0, none⟩) (k + 1) cap).ownBlock = some g from rfl)
          have f1 : wr.frozen? ⟨g, j, none⟩ = false := Lib.frozen_of_heap hgb _
          obtain ⟨x, hx⟩ : ∃ x, x = cuts.getD j 0 := ⟨_, rfl⟩
          rw [← hx] at c0 c1
          have b2 : decide ((j : Int) < (k : Int)) = true := by simp; omega
          have i1 : (j : Int) < (k : Int) := by omega
          have i2 : (0 : Int) ≤ (j : Int) := by omega
          have i3 : (j : Int) < (k : Int) + 1 := by omega
          have b3 : (x != x) = false := by simp
          have hst := hown.stored (j := j) (u := .int .i64 1099511627776)
          rw [over_set j cuts hjl] at hst
          have HST : Hid ((wr.setCell ⟨g, j, none⟩ (.int .i64 1099511627776)).ownsRow w.heap.size 3 1 (.slice (some ⟨g, 0, none⟩) (k + 1) cap) (k + 1) (over (j + 1) cuts)) := hst.1
          have HBL : Hid (w3.heap.size ≤ wr.heap.size ∧ wr.os = w3.os ∧ wr.tape = w3.tape ∧ wr.output = w3.output ∧ ∀ q, q < w3.heap.size → q ≠ g → wr.heap[q]? = w3.heap[q]?) := ⟨hsz, ho1, ho2, ho3, hblk⟩
          clear hst hown hgb d0 hx hblk ho1 ho2 ho3
          go_wp2
          go_quiet (fail)
          go_wp2
          obtain ⟨hq1, hq2, hq3, hq4⟩ := drewN_eq wr nq
          obtain ⟨z1, z2, z3, z4, z5⟩ := HBL.out
          have hh := setCell_heap hq1 ⟨g, j, none⟩ (.int .i64 1099511627776)
          refine ⟨⟨j + 1, rfl, rfl, by omega, own_keep HST.out (fun k' _ => by rw [hh]), ?_, hq2.trans z2, hq3.trans z3, hq4.trans z4, ?_⟩, by simp [intOf]; omega⟩
          · rw [hh]; simp [World.setCell]; exact z1
          · intro q' h1 h2
            rw [hh, Below.heap_setCell _ _ _ _ h2]; exact z5 q' h1 h2
        · obtain rfl : j = k := by omega
          have b2 : decide ((j : Int) < (j : Int)) = false := by simp
          have HR : Hid (VDid PS F p (v.restart n cuts) w wr) := by
            refine ⟨(HPS.out.same C (by omega) fun q' h1 h2 => hblk q' h2 (fun e' => ?_)).mono (fun q' h1 => ?_) (fun q' h1 => ?_), ho1.trans (HKP.out.os.trans HB2.out.os), ho2.trans (HKP.out.tape.trans HB2.out.tape), ho3.trans (HKP.out.output.trans HB2.out.output), by omega, fun q' h1 h2 => ?_⟩
            · subst e'
              rcases h1 with h1 | h1
              · exact HGF.out h1
              · omega
            · rcases h1 with h1 | h1
              · exact .inl h1
              · exact .inr ⟨by omega, by omega⟩
            · rcases h1 with h1 | h1
              · have := HFB.out q' h1; omega
              · exact h1.2
            · rw [hblk q' (by omega) (by omega), HKP.out.block q' (by omega) h2, HB2.out.block q' h1]
          clear hown hblk ho1 ho2 ho3
          go_wp2
          go_ret
          exact ⟨rfl, HR.out⟩
end Go.Proofs.YtjbphheojfclcaaGreat
