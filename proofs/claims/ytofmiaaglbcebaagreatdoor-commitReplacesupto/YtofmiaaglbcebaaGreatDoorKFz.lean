import Derived.Test.YtofmiaaglbcebaaGreatDoorKEz

-- commit.Replace.
namespace Go.Proofs.YtofmiaaglbcebaaGreatDoor
open Go.RowKit
set_option linter.unusedVariables false
variable {PS : (Nat → Prop) → Nat → St → World → Prop}
def opR (a : Nat) : ByteArray := if a = 1 then replB else if a = 2 then ⟨#[115, 121, 110, 99, 100, 105, 114]⟩ else if a = 7 then replB else opAt a
def nmR (a : Nat) (name : ByteArray) : ByteArray := if a = 1 then name else if a = 2 then ⟨#[]⟩ else if a = 7 then name else tmpB
/-- Behind earlier calls. -/
structure Bh (PS : (Nat → Prop) → Nat → St → World → Prop) (G0 : Nat → Prop) (q : Nat) (v : Vs) (w0 : World) (G : Nat → Prop) (w : World) : Prop where
  vol : PV PS G q v w
  sub : ∀ k, G k → G0 k ∨ w0.heap.size ≤ k
  sup : ∀ k, G0 k → G k
  kept : Kp G0 w0 w
section
variable {G0 G : Nat → Prop} {q : Nat} {v v' : Vs} {w0 w w' : World} {op name : ByteArray} {e : Nat} {ev : Value}
theorem Bh.refl (h : PV PS G0 q v w0) : Bh PS G0 q v w0 G0 w0 := ⟨h, fun k hk => .inl hk, fun k hk => hk, ⟨rfl, rfl, rfl, Nat.le_refl _, fun _ _ _ => rfl⟩⟩
theorem Bh.below (C : PC PS) (h : Bh PS G0 q v w0 G w) (hb : Below w.heap.size w w') : Bh PS G0 q v w0 G w' := ⟨h.vol.below C hb, h.sub, h.sup, h.kept.kept hb⟩
theorem Bh.turn (h : Bh PS G0 q v w0 G w) {G' : Nat → Prop} (hv : PV PS G' q v' w') (hk : Kp G w w') (h1 : ∀ k, G' k → G k ∨ w.heap.size ≤ k) (h2 : ∀ k, G k → G' k) : Bh PS G0 q v' w0 G' w' :=
  ⟨hv, fun k hk' => by
    have := h.kept.size
    rcases h1 k hk' with h' | h'
    · exact h.sub k h'
    · exact .inr (by omega), fun k hk' => h2 k (h.sup k hk'), h.kept.comp hk h.sub⟩
theorem Bh.did (h : Bh PS G0 q v w0 G w) (d : VDid PS G q v' w w') : Bh PS G0 q v' w0 (ext G w w') w' :=
  h.turn d.1 d.2 (fun k hk => by rcases hk with hk | hk; exact .inl hk; exact .inr hk.1) (fun k hk => .inl hk)
theorem Bh.edid (h : Bh PS G0 q v w0 G w) (d : EDid PS G q v' w w' op name e ev) : ∃ G', Bh PS G0 q v' w0 G' w' ∧ ErrO w' G' w.heap.size op name e ev := by
  obtain ⟨B, h1, h2, h3, h4, h5⟩ := d
  refine ⟨_, h.turn h4 h5 (fun k hk => by rcases hk with hk | hk; exact .inl hk; exact .inr hk.1) (fun k hk => .inl hk), (h3.out fun k hk => ?_).low h1⟩
  rcases hk with hk | hk
  · have := h.vol.low k hk; omega
  · exact hk.2
theorem Bh.edg (h : Bh PS G0 q v w0 G w) (d : EDg PS G q v' w w' op name e ev) : ∃ G', Bh PS G0 q v' w0 G' w' ∧ ErrO w' G' w.heap.size op name e ev := by
  obtain ⟨G', h1, h2, h3, h4, h5⟩ := d
  exact ⟨G', h.turn h1 h4 h2 h3, h5⟩
theorem Bh.fin (h : Bh PS G0 q v w0 G w) (he : ErrO w G w0.heap.size op name e ev) : EDg PS G0 q v w0 w op name e ev := ⟨G, h.vol, h.sub, h.sup, h.kept, he⟩
theorem Bh.cell (h : Bh PS G0 q v w0 G w) {j : Nat} (hj : j < w0.heap.size) (hG : ¬ G0 j) : w.heap[j]? = w0.heap[j]? := h.kept.block j hj hG
end
theorem exch_at (v : Vs) (name data : ByteArray) (m0 m1 m2 m3 : Int) : 3 ≤ (v.exch name data m0 m1 m2 m3).1.2 ∧ (v.exch name data m0 m1 m2 m3).1.2 ≤ 6 := by
  have hw : 3 ≤ (v.written data m0 m1 m2 m3).1.2 ∧ (v.written data m0 m1 m2 m3).1.2 ≤ 6 := by
    unfold Vs.written
    split
    · exact ⟨Nat.le_refl 3, (by decide : (3 : Nat) ≤ 6)⟩
    · have := fill_at ⟨tmpB, (v.create tmpB m0 m1 m2 m3).1.1, v.round, false⟩ data (nP data) 0 (v.create tmpB m0 m1 m2 m3).2
      omega
  have hn : 3 ≤ (Vs.named (v.written data m0 m1 m2 m3) name).1.2 ∧ (Vs.named (v.written data m0 m1 m2 m3) name).1.2 ≤ 6 := by
    unfold Vs.named
    split
    · exact hw
    · exact ⟨(by decide : (3 : Nat) ≤ 6), Nat.le_refl 6⟩
  unfold Vs.exch Vs.undone
  split <;> exact hn
set_option maxRecDepth 100000 in
set_option maxHeartbeats 8000000 in
theorem crepl_c (C : PC PS) (G : Nat → Prop) (q : Nat) (v : Vs) (name data : ByteArray) (m0 m1 m2 m3 : Int) (w : World) (kk : Nat) (h : PV PS G q v w) (hv : Vf v kk) (hk : kk + nP data + 8 < 2097151) (hd : data.size ≤ 140737488355328) :
    Calls Tryz.prog 22 #[.pointer (some ⟨q, 0, none⟩), .string name, .string data, .agg #[.int .i64 m0, .int .i64 m1, .int .i64 m2, .int .i64 m3]] w fun r w' => ∃ ev, r = .returned ev ∧ EDg PS G q (v.replace name data m0 m1 m2 m3).2 w w' (opR (v.replace name data m0 m1 m2 m3).1.2) (nmR (v.replace name data m0 m1 m2 m3).1.2 name) (v.replace name data m0 m1 m2 m3).1.1 ev := by
  obtain ⟨X, hX⟩ : ∃ X, X = Obj.cells #[.int .i64 m0, .int .i64 m1, .int .i64 m2, .int .i64 m3] 30 := ⟨_, rfl⟩
  have hbA : Below w.heap.size w (w.alloc X) := (Below.refl _ w).alloc (Nat.le_refl _) X
  have hnG : ¬ G w.heap.size := fun hg => by have := h.low _ hg; omega
  have hW0 : Bh PS G q v w G (w.alloc X) := (Bh.refl h).below C hbA
  have HCR : Hid (∀ W, Calls Tryz.prog 48 #[.string name] W fun e w' => e = .returned (.int .i64 (whyNo name)) ∧ Below W.heap.size W w') := fun W => crefusal_c name W
  by_cases hwn : whyNo name = 0
  case neg =>
    have HE : Hid (v.replace name data m0 m1 m2 m3 = ((whyNo name, 1), v)) := by
      show _ = _
      unfold Vs.replace whyNo
      by_cases h1 : name = tmpB
      · rw [if_pos h1, if_pos h1]
      · rw [if_neg h1, if_neg h1]
        by_cases h2 : okName name = false
        · rw [if_pos h2, if_pos h2]
        · exfalso; apply hwn; unfold whyNo; rw [if_neg h1, if_neg h2]
    have HFa : Hid (∀ W, Calls Tryz.prog 49 #[.string name, .int .i64 (whyNo name)] W fun r w' => ∃ ev, r = .returned ev ∧ ErrIs w' W.heap.size replB name (whyNo name) ev ∧ Below W.heap.size W w') := fun W => cfailed_c name _ hwn W
    have HEND : Hid (∀ W1 W2 ev, Below (w.alloc X).heap.size (w.alloc X) W1 → ErrIs W2 W1.heap.size replB name (whyNo name) ev → Below W1.heap.size W1 W2 → EDg PS G q v w W2 replB name (whyNo name) ev) := fun W1 W2 ev h1 h2 h3 => by
      have hb := (hW0.below C h1).below C h3
      have h5 := h1.size
      have h6 := hbA.size
      exact hb.fin ((h2.out fun k hk => by have := h.low k hk; omega).low (by omega))
    obtain ⟨N, hN⟩ : ∃ N, N = whyNo name := ⟨_, rfl⟩
    rw [← hN] at hwn HCR HFa HE HEND
    have b1 : ((N : Int) == 0) = false := by simp; omega
    have b2 : ((N : Int) != 0) = true := by simp [bne, b1]
    rw [HE.out]
    simp only
    subst hX
    clear h hv hk hd hwn hN hW0 hbA hnG HE
    go_enter Tryz.func22, Tryz.ntmps22
    go_wp2_with (first
      | (go_at_call 48; refine (HCR.out _).mono ?_; rintro e w1 ⟨rfl, hb1⟩)
      | (go_at_call 49; refine (HFa.out _).mono ?_; rintro e w2 ⟨ev, rfl, he, hb2⟩))
    go_returns
    exact ⟨ev, rfl, HEND.out _ _ _ hb1 he hb2⟩
  case pos =>
    have hnt : name ≠ tmpB := fun e => by unfold whyNo at hwn; rw [if_pos e] at hwn; cases hwn
    have hok : ¬ okName name = false := fun e => by unfold whyNo at hwn; rw [if_neg hnt, if_pos e] at hwn; cases hwn
    rw [hwn] at HCR
    have hR : v.replace name data m0 m1 m2 m3 = if v.syncDir.1 ≠ 0 then ((v.syncDir.1, 2), v.syncDir.2) else Vs.lastly (v.syncDir.2.exch name data m0 m1 m2 m3) := by
      unfold Vs.replace; rw [if_neg hnt, if_neg hok]
    have hv1 := hv.syncDir
    have HS1 : Hid (∀ W1, Below (w.alloc X).heap.size (w.alloc X) W1 → Calls Tryz.prog 42 #[.pointer (some ⟨q, 0, none⟩)] W1 fun e w' => ∃ ev, e = .returned ev ∧ ∃ G1, Bh PS G q v.syncDir.2 w G1 w' ∧ ErrO w' G1 w.heap.size ⟨#[115, 121, 110, 99, 100, 105, 114]⟩ ⟨#[]⟩ v.syncDir.1 ev ∧ w'.heap[w.heap.size]? = some X) := fun W1 hb => by
      have hB := hW0.below C hb
      refine (sSyncDir_c C G q v W1 hB.vol hv.wf (by have := hv.cnt; omega)).mono ?_
      rintro e w' ⟨ev, rfl, hdd⟩
      have hkp := hdd.weak.2.2
      obtain ⟨G1, g1, g2⟩ := hB.edid hdd
      have h5 := hb.size
      have h6 : (w.alloc X).heap.size = w.heap.size + 1 := by simp
      refine ⟨ev, rfl, G1, g1, g2.low (by omega), ?_⟩
      rw [hkp.block _ (by omega) hnG, hb.block _ (by omega), heap_alloc_new]
    by_cases hs1 : v.syncDir.1 = 0
    case neg =>
      rw [hR, if_pos hs1]
      simp only
      have HS2 : Hid (∀ W1, Below (w.alloc X).heap.size (w.alloc X) W1 → Calls Tryz.prog 42 #[.pointer (some ⟨q, 0, none⟩)] W1 fun e w' => ∃ eb, e = .returned (.iface 112 (.pointer (some ⟨eb, 0, none⟩))) ∧ EDg PS G q v.syncDir.2 w w' (opR 2) (nmR 2 name) v.syncDir.1 (.iface 112 (.pointer (some ⟨eb, 0, none⟩)))) := fun W1 hb => by
        refine (HS1.out W1 hb).mono ?_
        rintro e w' ⟨ev, rfl, G1, g1, g2, g3⟩
        obtain ⟨eb, g4⟩ := g2.err.2 hs1
        subst g4
        exact ⟨eb, rfl, g1.fin g2⟩
      subst hX
      clear h hv hk hd hwn hW0 hbA hnG HS1 hs1 hv1 hR hok hnt
      go_enter Tryz.func22, Tryz.ntmps22
      go_wp2_with (first
        | (go_at_call 48; refine (HCR.out _).mono ?_; rintro e w1 ⟨rfl, hb1⟩)
        | (go_at_call 42; refine (HS2.out _ hb1).mono ?_; rintro e w2 ⟨eb, rfl, hfin⟩))
      go_returns
      exact ⟨_, rfl, hfin⟩
    case pos =>
      rw [hR, if_neg (by simp [hs1])]
      obtain ⟨v1, hv1e⟩ : ∃ v1, v1 = v.syncDir.2 := ⟨_, rfl⟩
      rw [← hv1e] at hv1 HS1 ⊢
      have HS2 : Hid (∀ W1, Below (w.alloc X).heap.size (w.alloc X) W1 → Calls Tryz.prog 42 #[.pointer (some ⟨q, 0, none⟩)] W1 fun e w' => e = .returned .nilIface ∧ ∃ G1, Bh PS G q v1 w G1 w' ∧ w'.heap[w.heap.size]? = some X) := fun W1 hb => by
        refine (HS1.out W1 hb).mono ?_
        rintro e w' ⟨ev, rfl, G1, g1, g2, g3⟩
        rw [g2.err.1 hs1]
        exact ⟨rfl, G1, g1, g3⟩
      obtain ⟨E, hE⟩ : ∃ E, E = v1.exch name data m0 m1 m2 m3 := ⟨_, rfl⟩
      have hvE : Vf E.2 (kk + 1 + nP data + 4) := by rw [hE]; exact hv1.exch name data (by omega) m0 m1 m2 m3
      have HX : Hid (∀ G1 W2, Bh PS G q v1 w G1 W2 → Calls Tryz.prog 50 #[.pointer (some ⟨q, 0, none⟩), .string name, .string data, .agg #[.int .i64 m0, .int .i64 m1, .int .i64 m2, .int .i64 m3]] W2 fun r w' => ∃ ev, r = .returned ev ∧ ∃ G2, Bh PS G q E.2 w G2 w' ∧ ErrO w' G2 w.heap.size (opAt E.1.2) tmpB E.1.1 ev) := fun G1 W2 hB => by
        refine (cexch_c C G1 q v1 name data m0 m1 m2 m3 W2 (kk + 1) hB.vol hv1 (by omega) hd).mono ?_
        rintro r w' ⟨ev, rfl, hdd⟩
        rw [← hE] at hdd
        obtain ⟨G2, g1, g2⟩ := hB.edg hdd
        exact ⟨ev, rfl, G2, g1, g2.low hB.kept.size⟩
      rw [← hE]
      by_cases hx : E.1.1 = 0
      case neg =>
        have hat : 3 ≤ E.1.2 ∧ E.1.2 ≤ 6 := by rw [hE]; exact exch_at _ _ _ _ _ _ _
        have hop : opR E.1.2 = opAt E.1.2 ∧ nmR E.1.2 name = tmpB := by
          unfold opR nmR
          rw [if_neg (by omega), if_neg (by omega), if_neg (by omega), if_neg (by omega), if_neg (by omega), if_neg (by omega)]
          exact ⟨rfl, rfl⟩
        have HX2 : Hid (∀ G1 W2, Bh PS G q v1 w G1 W2 → Calls Tryz.prog 50 #[.pointer (some ⟨q, 0, none⟩), .string name, .string data, .agg #[.int .i64 m0, .int .i64 m1, .int .i64 m2, .int .i64 m3]] W2 fun r w' => ∃ eb, r = .returned (.iface 112 (.pointer (some ⟨eb, 0, none⟩))) ∧ EDg PS G q E.2 w w' (opR E.1.2) (nmR E.1.2 name) E.1.1 (.iface 112 (.pointer (some ⟨eb, 0, none⟩)))) := fun G1 W2 hB => by
          refine (HX.out G1 W2 hB).mono ?_
          rintro e w' ⟨ev, rfl, G2, g1, g2⟩
          obtain ⟨eb, g4⟩ := g2.err.2 hx
          subst g4
          rw [hop.1, hop.2]
          exact ⟨eb, rfl, g1.fin g2⟩
        have hl : Vs.lastly E = E := by unfold Vs.lastly; rw [if_pos hx]
        rw [hl]
        clear h hv hk hd hwn hW0 hbA hnG HS1 hs1 hv1 hR hok hnt HX hx hl hop hat hvE hE hv1e
        go_enter Tryz.func22, Tryz.ntmps22
        go_wp2_with (first
          | (go_at_call 48; rw [← hX]; refine (HCR.out _).mono ?_; rintro e w1 ⟨rfl, hb1⟩)
          | (go_at_call 42; refine (HS2.out _ hb1).mono ?_; rintro e w2 ⟨rfl, G1, hB, hbx⟩; rw [hX] at hbx; have y0 := Lib.cell_of_heap hbx (0 : Nat); have y1 := Lib.cell_of_heap hbx (1 : Nat); have y2 := Lib.cell_of_heap hbx (2 : Nat); have y3 := Lib.cell_of_heap hbx (3 : Nat))
          | (go_at_call 50; refine (HX2.out G1 _ hB).mono ?_; rintro e w3 ⟨eb, rfl, hfin⟩))
        go_returns
        exact ⟨_, rfl, hfin⟩
      case pos =>
        have HX2 : Hid (∀ G1 W2, Bh PS G q v1 w G1 W2 → Calls Tryz.prog 50 #[.pointer (some ⟨q, 0, none⟩), .string name, .string data, .agg #[.int .i64 m0, .int .i64 m1, .int .i64 m2, .int .i64 m3]] W2 fun r w' => r = .returned .nilIface ∧ ∃ G2, Bh PS G q E.2 w G2 w') := fun G1 W2 hB => by
          refine (HX.out G1 W2 hB).mono ?_
          rintro e w' ⟨ev, rfl, G2, g1, g2⟩
          rw [g2.err.1 hx]
          exact ⟨rfl, G2, g1⟩
        have HS3 : Hid (∀ G2 W3, Bh PS G q E.2 w G2 W3 → Calls Tryz.prog 42 #[.pointer (some ⟨q, 0, none⟩)] W3 fun e w' => ∃ ev, e = .returned ev ∧ ∃ G3, Bh PS G q E.2.syncDir.2 w G3 w' ∧ ErrO w' G3 w.heap.size ⟨#[115, 121, 110, 99, 100, 105, 114]⟩ ⟨#[]⟩ E.2.syncDir.1 ev) := fun G2 W3 hB => by
          refine (sSyncDir_c C G2 q E.2 W3 hB.vol hvE.wf (by have := hvE.cnt; omega)).mono ?_
          rintro e w' ⟨ev, rfl, hdd⟩
          obtain ⟨G3, g1, g2⟩ := hB.edid hdd
          exact ⟨ev, rfl, G3, g1, g2.low hB.kept.size⟩
        by_cases hs2 : E.2.syncDir.1 = 0
        case neg =>
          have hl : Vs.lastly E = ((160, 7), E.2.syncDir.2) := by unfold Vs.lastly; rw [if_neg (by simp [hx]), if_pos hs2]
          rw [hl]
          simp only
          have HS4 : Hid (∀ G2 W3, Bh PS G q E.2 w G2 W3 → Calls Tryz.prog 42 #[.pointer (some ⟨q, 0, none⟩)] W3 fun e w' => ∃ eb, e = .returned (.iface 112 (.pointer (some ⟨eb, 0, none⟩))) ∧ ∃ G3, Bh PS G q E.2.syncDir.2 w G3 w') := fun G2 W3 hB => by
            refine (HS3.out G2 W3 hB).mono ?_
            rintro e w' ⟨ev, rfl, G3, g1, g2⟩
            obtain ⟨eb, g4⟩ := g2.err.2 hs2
            subst g4
            exact ⟨eb, rfl, G3, g1⟩
          have HFa : Hid (∀ G3 W, Bh PS G q E.2.syncDir.2 w G3 W → Calls Tryz.prog 49 #[.string name, .int .i64 160] W fun r w' => ∃ ev, r = .returned ev ∧ EDg PS G q E.2.syncDir.2 w w' (opR 7) (nmR 7 name) 160 ev) := fun G3 W hB => by
            refine (cfailed_c name 160 (by decide) W).mono ?_
            rintro r w' ⟨ev, rfl, he, hb⟩
            exact ⟨ev, rfl, (hB.below C hb).fin ((he.out hB.vol.low).low hB.kept.size)⟩
          clear h hv hk hd hwn hW0 hbA hnG HS1 hs1 hv1 hR hok hnt HX hx hl hvE hE hv1e HS3 hs2
          go_enter Tryz.func22, Tryz.ntmps22
          go_upto_region 7 with (first
            | (go_at_call 48; rw [← hX]; refine (HCR.out _).mono ?_; rintro e w1 ⟨rfl, hb1⟩)
            | (go_at_call 42; refine (HS2.out _ hb1).mono ?_; rintro e w2 ⟨rfl, G1, hB, hbx⟩; rw [hX] at hbx; have y0 := Lib.cell_of_heap hbx (0 : Nat); have y1 := Lib.cell_of_heap hbx (1 : Nat); have y2 := Lib.cell_of_heap hbx (2 : Nat); have y3 := Lib.cell_of_heap hbx (3 : Nat)))
          clear HS2 HCR
          go_wp2_with (first
            | (go_at_call 50; refine (HX2.out G1 _ hB).mono ?_; rintro e w3 ⟨rfl, G2, hB2⟩)
            | (go_at_call 42; refine (HS4.out G2 _ hB2).mono ?_; rintro e w4 ⟨eb, rfl, G3, hB3⟩)
            | (go_at_call 49; refine (HFa.out G3 _ hB3).mono ?_; rintro e w5 ⟨ev, rfl, hfin⟩))
          go_returns
          exact ⟨_, rfl, hfin⟩
        case pos =>
          have hl : Vs.lastly E = ((0, 0), E.2.syncDir.2) := by unfold Vs.lastly; rw [if_neg (by simp [hx]), if_neg (by simp [hs2])]
          rw [hl]
          simp only
          have HS4 : Hid (∀ G2 W3, Bh PS G q E.2 w G2 W3 → Calls Tryz.prog 42 #[.pointer (some ⟨q, 0, none⟩)] W3 fun e w' => e = .returned .nilIface ∧ EDg PS G q E.2.syncDir.2 w w' (opR 0) (nmR 0 name) 0 .nilIface) := fun G2 W3 hB => by
            refine (HS3.out G2 W3 hB).mono ?_
            rintro e w' ⟨ev, rfl, G3, g1, g2⟩
            rw [g2.err.1 hs2]
            exact ⟨rfl, g1.fin (.inl ⟨rfl, rfl⟩)⟩
          clear h hv hk hd hwn hW0 hbA hnG HS1 hs1 hv1 hR hok hnt HX hx hl hvE hE hv1e HS3 hs2
          go_enter Tryz.func22, Tryz.ntmps22
          go_upto_region 7 with (first
            | (go_at_call 48; rw [← hX]; refine (HCR.out _).mono ?_; rintro e w1 ⟨rfl, hb1⟩)
            | (go_at_call 42; refine (HS2.out _ hb1).mono ?_; rintro e w2 ⟨rfl, G1, hB, hbx⟩; rw [hX] at hbx; have y0 := Lib.cell_of_heap hbx (0 : Nat); have y1 := Lib.cell_of_heap hbx (1 : Nat); have y2 := Lib.cell_of_heap hbx (2 : Nat); have y3 := Lib.cell_of_heap hbx (3 : Nat)))
          clear HS2 HCR
          go_wp2_with (first
            | (go_at_call 50; refine (HX2.out G1 _ hB).mono ?_; rintro e w3 ⟨rfl, G2, hB2⟩)
            | (go_at_call 42; refine (HS4.out G2 _ hB2).mono ?_; rintro e w4 ⟨rfl, hfin⟩))
          go_returns
          exact ⟨_, rfl, hfin⟩
end Go.Proofs.YtofmiaaglbcebaaGreatDoor
