import Derived.Test.YtggnjgmjfenibaaGreatDoorM5
import Derived.Test.YtggnjgmjfenibaaGreatDoorM2
import Derived.Test.YtggnjgmjfenibaaGreatDoorR6z
import Derived.Test.YtggnjgmjfenibaaGreatDoorM3
import Derived.Test.YtggnjgmjfenibaaGreatDoorM4
import Derived.Test.YtggnjgmjfenibaaGreatDoorAS

-- commit.Replace.
namespace Go.Proofs.YtggnjgmjfenibaaGreatDoor
open Go.RowKit
set_option linter.unusedVariables false
variable {PS : (Nat → Prop) → Nat → St → World → Prop}
def opR (a : Nat) : ByteArray := if a = 1 then replB else if a = 2 then ⟨#[115, 121, 110, 99, 100, 105, 114]⟩ else if a = 7 then replB else opAt a
def nmR (a : Nat) (name : ByteArray) : ByteArray := if a = 1 then name else if a = 2 then ⟨#[]⟩ else if a = 7 then name else tmpB
/-- Behind earlier calls. -/
structure Bh (PS : (Nat → Prop) → Nat → St → World → Prop) (G0 : Nat → Prop) (q : Nat) (v : Vs) (w0 : World) (G : Nat → Prop) (w : World) : Prop where
  vol : PV PS G q v w
  sub : ∀ k, G k → G0 k ∨ w0.heap.size ≤ k
  sup : ∀ k, G0 k → G k
  kept : Kp G0 w0 w
section
variable {G0 G : Nat → Prop} {q : Nat} {v v' : Vs} {w0 w w' : World} {op name : ByteArray} {e : Nat} {ev : Value}
theorem Bh.refl (h : PV PS G0 q v w0) : Bh PS G0 q v w0 G0 w0 := ⟨h, fun k hk => .inl hk, fun k hk => hk, ⟨rfl, rfl, rfl, Nat.le_refl _, fun _ _ _ => rfl⟩⟩
theorem Bh.below (C : PC PS) (h : Bh PS G0 q v w0 G w) (hb : Below w.heap.size w w') : Bh PS G0 q v w0 G w' := ⟨h.vol.below C hb, h.sub, h.sup, h.kept.kept hb⟩
theorem Bh.turn (h : Bh PS G0 q v w0 G w) {G' : Nat → Prop} (hv : PV PS G' q v' w') (hk : Kp G w w') (h1 : ∀ k, G' k → G k ∨ w.heap.size ≤ k) (h2 : ∀ k, G k → G' k) : Bh PS G0 q v' w0 G' w' :=
  ⟨hv, fun k hk' => by
    have := h.kept.size
    rcases h1 k hk' with h' | h'
    · exact h.sub k h'
    · exact .inr (by omega), fun k hk' => h2 k (h.sup k hk'), h.kept.comp hk h.sub⟩
theorem Bh.did (h : Bh PS G0 q v w0 G w) (d : VDid PS G q v' w w') : Bh PS G0 q v' w0 (ext G w w') w' :=
  h.turn d.1 d.2 (fun k hk => by rcases hk with hk | hk; exact .inl hk; exact .inr hk.1) (fun k hk => .inl hk)
theorem Bh.edid (h : Bh PS G0 q v w0 G w) (d : EDid PS G q v' w w' op name e ev) : ∃ G', Bh PS G0 q v' w0 G' w' ∧ ErrO w' G' w.heap.size op name e ev := by
  obtain ⟨B, h1, h2, h3, h4, h5⟩ := d
  refine ⟨_, h.turn h4 h5 (fun k hk => by rcases hk with hk | hk; exact .inl hk; exact .inr hk.1) (fun k hk => .inl hk), (h3.out fun k hk => ?_).low h1⟩
  rcases hk with hk | hk
  · have := h.vol.low k hk; omega
  · exact hk.2
theorem Bh.edg (h : Bh PS G0 q v w0 G w) (d : EDg PS G q v' w w' op name e ev) : ∃ G', Bh PS G0 q v' w0 G' w' ∧ ErrO w' G' w.heap.size op name e ev := by
  obtain ⟨G', h1, h2, h3, h4, h5⟩ := d
  exact ⟨G', h.turn h1 h4 h2 h3, h5⟩
theorem Bh.fin (h : Bh PS G0 q v w0 G w) (he : ErrO w G w0.heap.size op name e ev) : EDg PS G0 q v w0 w op name e ev := ⟨G, h.vol, h.sub, h.sup, h.kept, he⟩
theorem Bh.cell (h : Bh PS G0 q v w0 G w) {j : Nat} (hj : j < w0.heap.size) (hG : ¬ G0 j) : w.heap[j]? = w0.heap[j]? := h.kept.block j hj hG
end
theorem exch_at (v : Vs) (name data : ByteArray) (m0 m1 m2 m3 : Int) : 3 ≤ (v.exch name data m0 m1 m2 m3).1.2 ∧ (v.exch name data m0 m1 m2 m3).1.2 ≤ 6 := by
  have hw : 3 ≤ (v.written data m0 m1 m2 m3).1.2 ∧ (v.written data m0 m1 m2 m3).1.2 ≤ 6 := by
    unfold Vs.written
    split
    · exact ⟨Nat.le_refl 3, (by decide : (3 : Nat) ≤ 6)⟩
    · have := fill_at ⟨tmpB, (v.create tmpB m0 m1 m2 m3).1.1, v.round, false⟩ data (nP data) 0 (v.create tmpB m0 m1 m2 m3).2
      omega
  have hn : 3 ≤ (Vs.named (v.written data m0 m1 m2 m3) name).1.2 ∧ (Vs.named (v.written data m0 m1 m2 m3) name).1.2 ≤ 6 := by
    unfold Vs.named
    split
    · exact hw
    · exact ⟨(by decide : (3 : Nat) ≤ 6), Nat.le_refl 6⟩
  unfold Vs.exch Vs.undone
  split <;> exact hn
set_option maxRecDepth 100000 in
set_option maxHeartbeats 8000000 in
theorem crepl_c (C : PC PS) (G : Nat → Prop) (q : Nat) (v : Vs) (name data : ByteArray) (m0 m1 m2 m3 : Int) (w : World) (kk : Nat) (h : PV PS G q v w) (hv : Vf v kk) (hk : kk + nP data + 8 < 2097151) (hd : data.size ≤ 140737488355328) :
    Calls Tryz.prog 22 #[.pointer (some ⟨q, 0, none⟩), .string name, .string data, .agg #[.int .i64 m0, .int .i64 m1, .int .i64 m2, .int .i64 m3]] w fun r w' => ∃ ev, r = .returned ev ∧ EDg PS G q (v.replace name data m0 m1 m2 m3).2 w w' (opR (v.replace name data m0 m1 m2 m3).1.2) (nmR (v.replace name data m0 m1 m2 m3).1.2 name) (v.replace name data m0 m1 m2 m3).1.1 ev := by
  obtain ⟨X, hX⟩ : ∃ X, X = Obj.cells #[.int .i64 m0, .int .i64 m1, .int .i64 m2, .int .i64 m3] 30 := ⟨_, rfl⟩
  have hbA : Below w.heap.size w (w.alloc X) := (Below.refl _ w).alloc (Nat.le_refl _) X
  have hnG : ¬ G w.heap.size := fun hg => by have := h.low _ hg; omega
  have hW0 : Bh PS G q v w G (w.alloc X) := (Bh.refl h).below C hbA
  have HCR : Hid (∀ W, Calls Tryz.prog 48 #[.string name] W fun e w' => e = .returned (.int .i64 (whyNo name)) ∧ Below W.heap.size W w') := fun W => crefusal_c name W
  by_cases hwn : whyNo name = 0
  case neg =>
    have HE : Hid (v.replace name data m0 m1 m2 m3 = ((whyNo name, 1), v)) := by
      show _ = _
      unfold Vs.replace whyNo
      by_cases h1 : name = tmpB
      · rw [if_pos h1, if_pos h1]
      · rw [if_neg h1, if_neg h1]
        by_cases h2 : okName name = false
        · rw [if_pos h2, if_pos h2]
        · exfalso; apply hwn; unfold whyNo; rw [if_neg h1, if_neg h2]
    have HFa : Hid (∀ W, Calls Tryz.prog 49 #[.string name, .int .i64 (whyNo name)] W fun r w' => ∃ ev, r = .returned ev ∧ ErrIs w' W.heap.size replB name (whyNo name) ev ∧ Below W.heap.size W w') := fun W => cfailed_c name _ hwn W
    have HEND : Hid (∀ W1 W2 ev, Below (w.alloc X).heap.size (w.alloc X) W1 → ErrIs W2 W1.heap.size replB name (whyNo name) ev → Below W1.heap.size W1 W2 → EDg PS G q v w W2 replB name (whyNo name) ev) := fun W1 W2 ev h1 h2 h3 => by
      have hb := (hW0.below C h1).below C h3
      have h5 := h1.size
      have h6 := hbA.size
      exact hb.fin ((h2.out fun k hk => by have := h.low k hk; omega).low (by omega))
    obtain ⟨N, hN⟩ : ∃ N, N = whyNo name := ⟨_, rfl⟩
    rw [← hN] at hwn HCR HFa HE HEND
    have b1 : ((N : Int) == 0) = false := by simp; omega
    have b2 : ((N : Int) != 0) = true := by simp [bne, b1]
    rw [HE.out]
    simp only
    subst hX
    clear h hv hk hd hwn hN hW0 hbA hnG HE
    go_enter Tryz.func22, Tryz.ntmps22
    go_wp2_with (first
      | (go_at_call 48; refine (HCR.out _).mono ?_; rintro e w1 ⟨rfl, hb1⟩)
      | (go_at_call 49; refine (HFa.out _).mono ?_; rintro e w2 ⟨ev, rfl, he, hb2⟩))
    go_returns
    exact ⟨ev, rfl, HEND.out _ _ _ hb1 he hb2⟩
  case pos =>
    have hnt : name ≠ tmpB := fun e => by unfold whyNo at hwn; rw [if_pos e] at hwn; cases hwn
    have hok : ¬ okName name = false := fun e => by unfold whyNo at hwn; rw [if_neg hnt, if_pos e] at hwn; cases hwn
    rw [hwn] at HCR
    have hR : v.replace name data m0 m1 m2 m3 = if v.syncDir.1 ≠ 0 then ((v.syncDir.1, 2), v.syncDir.2) else Vs.lastly (v.syncDir.2.exch name data m0 m1 m2 m3) := by
      unfold Vs.replace; rw [if_neg hnt, if_neg hok]
    have hv1 := hv.syncDir
    have HS1 : Hid (∀ W1, Below (w.alloc X).heap.size (w.alloc X) W1 → Calls Tryz.prog 42 #[.pointer (some ⟨q, 0, none⟩)] W1 fun e w' => ∃ ev, e = .returned ev ∧ ∃ G1, Bh PS G q v.syncDir.2 w G1 w' ∧ ErrO w' G1 w.heap.size ⟨#[115, 121, 110, 99, 100, 105, 114]⟩ ⟨#[]⟩ v.syncDir.1 ev ∧ w'.heap[w.heap.size]? = some X) := fun W1 hb => by
      have hB := hW0.below C hb
      refine (sSyncDir_c C G q v W1 hB.vol hv.wf (by have := hv.cnt; omega)).mono ?_
      rintro e w' ⟨ev, rfl, hdd⟩
      have hkp := hdd.weak.2.2
      obtain ⟨G1, g1, g2⟩ := hB.edid hdd
      have h5 := hb.size
      have h6 : (w.alloc X).heap.size = w.heap.size + 1 := by simp
      refine ⟨ev, rfl, G1, g1, g2.low (by omega), ?_⟩
      rw [hkp.block _ (by omega) hnG, hb.block _ (by omega), heap_alloc_new]
    by_cases hs1 : v.syncDir.1 = 0
    case neg =>
      rw [hR, if_pos hs1]
      simp only
      have HS2 : Hid (∀ W1, Below (w.alloc X).heap.size (w.alloc X) W1 → Calls Tryz.prog 42 #[.pointer (some ⟨q, 0, none⟩)] W1 fun e w' => ∃ eb, e = .returned (.iface 112 (.pointer (some ⟨eb, 0, none⟩))) ∧ EDg PS G q v.syncDir.2 w w' (opR 2) (nmR 2 name) v.syncDir.1 (.iface 112 (.pointer (some ⟨eb, 0, none⟩)))) := fun W1 hb => by
        refine (HS1.out W1 hb).mono ?_
        rintro e w' ⟨ev, rfl, G1, g1, g2, g3⟩
        obtain ⟨eb, g4⟩ := g2.err.2 hs1
        subst g4
        exact ⟨eb, rfl, g1.fin g2⟩
      subst hX
      clear h hv hk hd hwn hW0 hbA hnG HS1 hs1 hv1 hR hok hnt
      go_enter Tryz.func22, Tryz.ntmps22
      go_wp2_with (first
        | (go_at_call 48; refine (HCR.out _).mono ?_; rintro e w1 ⟨rfl, hb1⟩)
        | (go_at_call 42; refine (HS2.out _ hb1).mono ?_; rintro e w2 ⟨eb, rfl, hfin⟩))
      go_returns
      exact ⟨_, rfl, hfin⟩
    case pos =>
      rw [hR, if_neg (by simp [hs1])]
      obtain ⟨v1, hv1e⟩ : ∃ v1, v1 = v.syncDir.2 := ⟨_, rfl⟩
      rw [← hv1e] at hv1 HS1 ⊢
      have HS2 : Hid (∀ W1, Below (w.alloc X).heap.size (w.alloc X) W1 → Calls Tryz.prog 42 #[.pointer (some ⟨q, 0, none⟩)] W1 fun e w' => e = .returned .nilIface ∧ ∃ G1, Bh PS G q v1 w G1 w' ∧ w'.heap[w.heap.size]? = some X) := fun W1 hb => by
        refine (HS1.out W1 hb).mono ?_
        rintro e w' ⟨ev, rfl, G1, g1, g2, g3⟩
        rw [g2.err.1 hs1]
        exact ⟨rfl, G1, g1, g3⟩
      obtain ⟨E, hE⟩ : ∃ E, E = v1.exch name data m0 m1 m2 m3 := ⟨_, rfl⟩
      have hvE : Vf E.2 (kk + 1 + nP data + 4) := by rw [hE]; exact hv1.exch name data (by omega) m0 m1 m2 m3
      have HX : Hid (∀ G1 W2, Bh PS G q v1 w G1 W2 → Calls Tryz.prog 50 #[.pointer (some ⟨q, 0, none⟩), .string name, .string data, .agg #[.int .i64 m0, .int .i64 m1, .int .i64 m2, .int .i64 m3]] W2 fun r w' => ∃ ev, r = .returned ev ∧ ∃ G2, Bh PS G q E.2 w G2 w' ∧ ErrO w' G2 w.heap.size (opAt E.1.2) tmpB E.1.1 ev) := fun G1 W2 hB => by
        refine (cexch_c C G1 q v1 name data m0 m1 m2 m3 W2 (kk + 1) hB.vol hv1 (by omega) hd).mono ?_
        rintro r w' ⟨ev, rfl, hdd⟩
        rw [← hE] at hdd
        obtain ⟨G2, g1, g2⟩ := hB.edg hdd
        exact ⟨ev, rfl, G2, g1, g2.low hB.kept.size⟩
      rw [← hE]
      by_cases hx : E.1.1 = 0
      case neg =>
        have hat : 3 ≤ E.1.2 ∧ E.1.2 ≤ 6 := by rw [hE]; exact exch_at _ _ _ _ _ _ _
        have hop : opR E.1.2 = opAt E.1.2 ∧ nmR E.1.2 name = tmpB := by
          unfold opR nmR
          rw [if_neg (by omega), if_neg (by omega), if_neg (by omega), if_neg (by omega), if_neg (by omega), if_neg (by omega)]
          exact ⟨rfl, rfl⟩
        have HX2 : Hid (∀ G1 W2, Bh PS G q v1 w G1 W2 → Calls Tryz.prog 50 #[.pointer (some ⟨q, 0, none⟩), .string name, .string data, .agg #[.int .i64 m0, .int .i64 m1, .int .i64 m2, .int .i64 m3]] W2 fun r w' => ∃ eb, r = .returned (.iface 112 (.pointer (some ⟨eb, 0, none⟩))) ∧ EDg PS G q E.2 w w' (opR E.1.2) (nmR E.1.2 name) E.1.1 (.iface 112 (.pointer (some ⟨eb, 0, none⟩)))) := fun G1 W2 hB => by
          refine (HX.out G1 W2 hB).mono ?_
          rintro e w' ⟨ev, rfl, G2, g1, g2⟩
          obtain ⟨eb, g4⟩ := g2.err.2 hx
          subst g4
          rw [hop.1, hop.2]
          exact ⟨eb, rfl, g1.fin g2⟩
        have hl : Vs.lastly E = E := by unfold Vs.lastly; rw [if_pos hx]
        rw [hl]
        clear h hv hk hd hwn hW0 hbA hnG HS1 hs1 hv1 hR hok hnt HX hx hl hop hat hvE hE hv1e
        go_enter Tryz.func22, Tryz.ntmps22
        go_wp2_with (first
          | (go_at_call 48; rw [← hX]; refine (HCR.out _).mono ?_; rintro e w1 ⟨rfl, hb1⟩)
          | (go_at_call 42; refine (HS2.out _ hb1).mono ?_; rintro e w2 ⟨rfl, G1, hB, hbx⟩; rw [hX] at hbx; have y0 := Lib.cell_of_heap hbx (0 : Nat); have y1 := Lib.cell_of_heap hbx (1 : Nat); have y2 := Lib.cell_of_heap hbx (2 : Nat); have y3 := Lib.cell_of_heap hbx (3 : Nat))
          | (go_at_call 50; refine (HX2.out G1 _ hB).mono ?_; rintro e w3 ⟨eb, rfl, hfin⟩))
        go_returns
        exact ⟨_, rfl, hfin⟩
      case pos =>
        have HX2 : Hid (∀ G1 W2, Bh PS G q v1 w G1 W2 → Calls Tryz.prog 50 #[.pointer (some ⟨q, 0, none⟩), .string name, .string data, .agg #[.int .i64 m0, .int .i64 m1, .int .i64 m2, .int .i64 m3]] W2 fun r w' => r = .returned .nilIface ∧ ∃ G2, Bh PS G q E.2 w G2 w') := fun G1 W2 hB => by
          refine (HX.out G1 W2 hB).mono ?_
          rintro e w' ⟨ev, rfl, G2, g1, g2⟩
          rw [g2.err.1 hx]
          exact ⟨rfl, G2, g1⟩
        have HS3 : Hid (∀ G2 W3, Bh PS G q E.2 w G2 W3 → Calls Tryz.prog 42 #[.pointer (some ⟨q, 0, none⟩)] W3 fun e w' => ∃ ev, e = .returned ev ∧ ∃ G3, Bh PS G q E.2.syncDir.2 w G3 w' ∧ ErrO w' G3 w.heap.size ⟨#[115, 121, 110, 99, 100, 105, 114]⟩ ⟨#[]⟩ E.2.syncDir.1 ev) := fun G2 W3 hB => by
          refine (sSyncDir_c C G2 q E.2 W3 hB.vol hvE.wf (by have := hvE.cnt; omega)).mono ?_
          rintro e w' ⟨ev, rfl, hdd⟩
          obtain ⟨G3, g1, g2⟩ := hB.edid hdd
          exact ⟨ev, rfl, G3, g1, g2.low hB.kept.size⟩
        by_cases hs2 : E.2.syncDir.1 = 0
        case neg =>
          have hl : Vs.lastly E = ((160, 7), E.2.syncDir.2) := by unfold Vs.lastly; rw [if_neg (by simp [hx]), if_pos hs2]
          rw [hl]
          simp only
          have HS4 : Hid (∀ G2 W3, Bh PS G q E.2 w G2 W3 → Calls Tryz.prog 42 #[.pointer (some ⟨q, 0, none⟩)] W3 fun e w' => ∃ eb, e = .returned (.iface 112 (.pointer (some ⟨eb, 0, none⟩))) ∧ ∃ G3, Bh PS G q E.2.syncDir.2 w G3 w') := fun G2 W3 hB => by
            refine (HS3.out G2 W3 hB).mono ?_
            rintro e w' ⟨ev, rfl, G3, g1, g2⟩
            obtain ⟨eb, g4⟩ := g2.err.2 hs2
            subst g4
            exact ⟨eb, rfl, G3, g1⟩
          have HFa : Hid (∀ G3 W, Bh PS G q E.2.syncDir.2 w G3 W → Calls Tryz.prog 49 #[.string name, .int .i64 160] W fun r w' => ∃ ev, r = .returned ev ∧ EDg PS G q E.2.syncDir.2 w w' (opR 7) (nmR 7 name) 160 ev) := fun G3 W hB => by
            refine (cfailed_c name 160 (by decide) W).mono ?_
            rintro r w' ⟨ev, rfl, he, hb⟩
            exact ⟨ev, rfl, (hB.below C hb).fin ((he.out hB.vol.low).low hB.kept.size)⟩
          clear h hv hk hd hwn hW0 hbA hnG HS1 hs1 hv1 hR hok hnt HX hx hl hvE hE hv1e HS3 hs2
          go_enter Tryz.func22, Tryz.ntmps22
          go_upto_region 7 with (first
            | (go_at_call 48; rw [← hX]; refine (HCR.out _).mono ?_; rintro e w1 ⟨rfl, hb1⟩)
            | (go_at_call 42; refine (HS2.out _ hb1).mono ?_; rintro e w2 ⟨rfl, G1, hB, hbx⟩; rw [hX] at hbx; have y0 := Lib.cell_of_heap hbx (0 : Nat); have y1 := Lib.cell_of_heap hbx (1 : Nat); have y2 := Lib.cell_of_heap hbx (2 : Nat); have y3 := Lib.cell_of_heap hbx (3 : Nat)))
          clear HS2 HCR
          go_wp2_with (first
            | (go_at_call 50; refine (HX2.out G1 _ hB).mono ?_; rintro e w3 ⟨rfl, G2, hB2⟩)
            | (go_at_call 42; refine (HS4.out G2 _ hB2).mono ?_; rintro e w4 ⟨eb, rfl, G3, hB3⟩)
            | (go_at_call 49; refine (HFa.out G3 _ hB3).mono ?_; rintro e w5 ⟨ev, rfl, hfin⟩))
          go_returns
          exact ⟨_, rfl, hfin⟩
        case pos =>
          have hl : Vs.lastly E = ((0, 0), E.2.syncDir.2) := by unfold Vs.lastly; rw [if_neg (by simp [hx]), if_neg (by simp [hs2])]
          rw [hl]
          simp only
          have HS4 : Hid (∀ G2 W3, Bh PS G q E.2 w G2 W3 → Calls Tryz.prog 42 #[.pointer (some ⟨q, 0, none⟩)] W3 fun e w' => e = .returned .nilIface ∧ EDg PS G q E.2.syncDir.2 w w' (opR 0) (nmR 0 name) 0 .nilIface) := fun G2 W3 hB => by
            refine (HS3.out G2 W3 hB).mono ?_
            rintro e w' ⟨ev, rfl, G3, g1, g2⟩
            rw [g2.err.1 hs2]
            exact ⟨rfl, g1.fin (.inl ⟨rfl, rfl⟩)⟩
          clear h hv hk hd hwn hW0 hbA hnG HS1 hs1 hv1 hR hok hnt HX hx hl hvE hE hv1e HS3 hs2
          go_enter Tryz.func22, Tryz.ntmps22
          go_upto_region 7 with (first
            | (go_at_call 48; rw [← hX]; refine (HCR.out _).mono ?_; rintro e w1 ⟨rfl, hb1⟩)
            | (go_at_call 42; refine (HS2.out _ hb1).mono ?_; rintro e w2 ⟨rfl, G1, hB, hbx⟩; rw [hX] at hbx; have y0 := Lib.cell_of_heap hbx (0 : Nat); have y1 := Lib.cell_of_heap hbx (1 : Nat); have y2 := Lib.cell_of_heap hbx (2 : Nat); have y3 := Lib.cell_of_heap hbx (3 : Nat)))
          clear HS2 HCR
          go_wp2_with (first
            | (go_at_call 50; refine (HX2.out G1 _ hB).mono ?_; rintro e w3 ⟨rfl, G2, hB2⟩)
            | (go_at_call 42; refine (HS4.out G2 _ hB2).mono ?_; rintro e w4 ⟨rfl, hfin⟩))
          go_returns
          exact ⟨_, rfl, hfin⟩
end Go.Proofs.YtggnjgmjfenibaaGreatDoor

-- The document's Load, written, Told.
namespace Go.Proofs.YtggnjgmjfenibaaGreatDoor
open Go.RowKit
set_option linter.unusedVariables false
set_option maxRecDepth 100000
/-- The document's volume, behind earlier calls. -/
structure Rb (G0 : Nat → Prop) (r : Nat) (v : Vs) (w0 : World) (G : Nat → Prop) (w : World) : Prop where
  vol : RV G r v w
  sub : ∀ k, G k → G0 k ∨ w0.heap.size ≤ k
  sup : ∀ k, G0 k → G k
  kept : Kp G0 w0 w
section
variable {G0 G : Nat → Prop} {r : Nat} {v v' : Vs} {w0 w w' : World}
theorem Rb.refl (h : RV G0 r v w0) : Rb G0 r v w0 G0 w0 := ⟨h, fun k hk => .inl hk, fun k hk => hk, ⟨rfl, rfl, rfl, Nat.le_refl _, fun _ _ _ => rfl⟩⟩
theorem Rb.below (h : Rb G0 r v w0 G w) (hb : Below w.heap.size w w') : Rb G0 r v w0 G w' := ⟨h.vol.below hb, h.sub, h.sup, h.kept.kept hb⟩
theorem Rb.turn (h : Rb G0 r v w0 G w) {G' : Nat → Prop} (hv : RV G' r v' w') (hk : Kp G w w') (h1 : ∀ k, G' k → G k ∨ w.heap.size ≤ k) (h2 : ∀ k, G k → G' k) : Rb G0 r v' w0 G' w' :=
  ⟨hv, fun k hk' => by
    have := h.kept.size
    rcases h1 k hk' with h' | h'
    · exact h.sub k h'
    · exact .inr (by omega), fun k hk' => h2 k (h.sup k hk'), h.kept.comp hk h.sub⟩
theorem Rb.did (h : Rb G0 r v w0 G w) (d : RDid G r v' w w') : Rb G0 r v' w0 (ext G w w') w' :=
  h.turn d.1 d.2 (fun k hk => by rcases hk with hk | hk; exact .inl hk; exact .inr hk.1) (fun k hk => .inl hk)
end
set_option maxHeartbeats 4000000 in
theorem rload_c (G : Nat → Prop) (r : Nat) (v : Vs) (nm : ByteArray) (w : World) (h : RV G r v w) (hw : Wf v.st) (hn : v.cnt ≤ 4194304) :
    Calls Tryz.prog 20 #[.pointer (some ⟨r, 0, none⟩), .string nm] w fun e w' => e = .returned (.tuple #[.string (if (v.read nm).1.2 = 0 then (v.read nm).1.1 else ⟨#[]⟩), .bool (decide ((v.read nm).1.2 = 0)), .int .i64 (((if (v.read nm).1.2 = 30 then 0 else (v.read nm).1.2 : Nat) : Int))]) ∧ RDid G r (v.read nm).2 w w' := by
  have HRD := hidK (rRead_c G r v nm w h hw hn)
  obtain ⟨⟨⟨d, E⟩, v'⟩, hr⟩ : ∃ r, r = v.read nm := ⟨_, rfl⟩
  rw [← hr] at HRD ⊢
  clear hr h hw hn
  simp only at HRD ⊢
  by_cases h0 : E = 0
  · subst h0
    go_enter Tryz.func20, Tryz.ntmps20
    go_wp2_with (go_at_call 26; refine HRD.out.mono ?_; rintro e w1 ⟨rfl, h1⟩)
    go_returns
    exact ⟨rfl, h1⟩
  · rw [decide_eq_false h0, if_neg h0]
    by_cases h3 : E = 30
    · subst h3
      go_enter Tryz.func20, Tryz.ntmps20
      go_wp2_with (go_at_call 26; refine HRD.out.mono ?_; rintro e w1 ⟨rfl, h1⟩)
      go_returns
      exact ⟨rfl, h1⟩
    · rw [if_neg h3]
      have b3 : ((E : Int) == 30) = false := by simp; omega
      have b3' : ¬ ((E : Int) = 30) := by omega
      have b0 : ((E : Int) == 0) = false := by simp; omega
      have b0' : ¬ ((E : Int) = 0) := by omega
      clear h0 h3
      go_enter Tryz.func20, Tryz.ntmps20
      go_wp2_with (go_at_call 26; refine HRD.out.mono ?_; rintro e w1 ⟨rfl, h1⟩)
      go_returns
      exact ⟨rfl, h1⟩
end Go.Proofs.YtggnjgmjfenibaaGreatDoor

-- commit.reason and commit.Load, whatever the volume answers.
namespace Go.Proofs.YtggnjgmjfenibaaGreatDoor
open Go.RowKit
set_option linter.unusedVariables false
set_option maxRecDepth 100000
variable {PS : (Nat → Prop) → Nat → St → World → Prop}
/-- errors' own variable, as it is laid. -/
def ErrT (w : World) : Prop := w.cell? ⟨0, 0, none⟩ = some (.iface 181 (.agg #[.pointer (some ⟨2, 56, none⟩)]))
theorem ErrT.below {w w' : World} {B : Nat} (h : ErrT w) (hb : Below B w w') (hB : 0 < B) : ErrT w' := by
  unfold ErrT at h ⊢
  rw [hb.cell (p := ⟨0, 0, none⟩) hB]; exact h
theorem as_told (e : Addr) (w : World) (hg : ErrT w) : Calls Tryz.prog 69 #[.iface 112 (.pointer (some e)), .iface 156 (.pointer (some ⟨w.heap.size, 0, none⟩))] (w.alloc (.cells #[.pointer none] 112)) fun ev w' => ev = .returned (.bool true) ∧ w'.cell? ⟨w.heap.size, 0, none⟩ = some (.pointer (some e)) ∧ Below w.heap.size w w' := by
  have hlt : 0 < w.heap.size := World.block_lt_of_cell? _ _ hg
  refine (as_hit e ⟨w.heap.size, 0, none⟩ (.pointer none) (w.alloc (.cells #[.pointer none] 112)) (by rw [World.cell?_alloc_lt _ _ ⟨0, 0, none⟩ hlt]; exact hg) (by simp) (by simp)).mono ?_
  rintro ev w' ⟨rfl, rfl⟩
  refine ⟨rfl, ?_, ?_⟩
  · simp [go_sem]
  · refine Below.setCell (p := ⟨w.heap.size, 0, none⟩) ?_ (show w.heap.size ≤ w.heap.size from Nat.le_refl _) _
    exact (((((Below.refl _ w).alloc (Nat.le_refl _) _).alloc (by simp) _).alloc (by simp; omega) _).alloc (by simp; omega) _).alloc (by simp; omega) _
set_option maxHeartbeats 4000000 in
theorem reason_c (B : Nat) (op nm : ByteArray) (E : Nat) (ev : Value) (w : World) (hE : E ≠ 0) (h : ErrIs w B op nm E ev) (hg : ErrT w) : Calls Tryz.prog 47 #[ev] w fun r w' => r = .returned (.int .i64 E) ∧ Below w.heap.size w w' := by
  rcases h with ⟨h0, _⟩ | ⟨h0, b, hB, rfl, hb⟩
  · exact absurd h0 hE
  · have HA := hidK (as_told ⟨b, 0, none⟩ w hg)
    have c2 : w.cell? ⟨b, 2, none⟩ = some (.int .i64 E) := by rw [Lib.cell_of_heap hb]; rfl
    have hbl := World.block_lt_of_cell? _ _ c2
    have HC : Hid (∀ W, Below w.heap.size w W → W.cell? ⟨b, 2, none⟩ = some (.int .i64 E)) := fun W hb => (hb.cell (p := ⟨b, 2, none⟩) hbl).trans c2
    clear hb h0 hE hg c2 hB hbl
    go_enter Tryz.func47, Tryz.ntmps47
    go_upto_region 3 with (go_at_call 69; refine HA.out.mono ?_; rintro e w1 ⟨rfl, h1, h2⟩)
    have c2 := HC.out w1 h2
    go_wp2
    go_ret
    exact ⟨rfl, h2⟩
set_option maxHeartbeats 4000000 in
theorem cload_c (C : PC PS) (G : Nat → Prop) (q : Nat) (v : Vs) (nm : ByteArray) (w : World) (h : PV PS G q v w) (hw : Wf v.st) (hn : v.cnt ≤ 4194304) (hg : ErrT w) (hgG : ¬ G 0) :
    Calls Tryz.prog 19 #[.pointer (some ⟨q, 0, none⟩), .string nm] w fun e w' => ∃ ev G', e = .returned (.tuple #[.string (if (v.read nm).1.2 = 0 then (v.read nm).1.1 else ⟨#[]⟩), .bool (decide ((v.read nm).1.2 = 0)), ev]) ∧ ErrIs w' w.heap.size ⟨#[114, 101, 97, 100]⟩ nm (if (v.read nm).1.2 = 30 then 0 else (v.read nm).1.2) ev ∧ Bh PS G q (v.read nm).2 w G' w' := by
  obtain ⟨⟨⟨d, E⟩, v'⟩, hr⟩ : ∃ r, r = v.read nm := ⟨_, rfl⟩
  have HRD : Hid (Calls Tryz.prog 25 #[.pointer (some ⟨q, 0, none⟩), .string nm] w fun e w' => ∃ ev, e = .returned (.tuple #[.string d, ev]) ∧ ErrIs w' w.heap.size ⟨#[114, 101, 97, 100]⟩ nm E ev ∧ (∃ G', Bh PS G q v' w G' w') ∧ ErrT w') := by
    have hlt : 0 < w.heap.size := World.block_lt_of_cell? _ _ hg
    refine (fRead_c C G q v nm w h hw hn).mono ?_
    rintro e w' ⟨ev, rfl, he, hd⟩
    rw [← hr] at he hd ⊢
    refine ⟨ev, rfl, he, ⟨_, (Bh.refl h).did hd⟩, ?_⟩
    unfold ErrT at hg ⊢
    rw [World.cell?_of_block (a := ⟨0, 0, none⟩) (hd.2.block _ hlt hgG)]; exact hg
  have HRS : Hid (∀ W ev, E ≠ 0 → ErrIs W w.heap.size ⟨#[114, 101, 97, 100]⟩ nm E ev → ErrT W → Calls Tryz.prog 47 #[ev] W fun r w' => r = .returned (.int .i64 E) ∧ Below W.heap.size W w') := fun W ev h0 h1 h2 => reason_c _ _ nm E ev W h0 h1 h2
  rw [← hr]
  clear hr h hg hgG hw hn
  simp only
  by_cases h0 : E = 0
  · subst h0
    have HR0 : Hid (Calls Tryz.prog 25 #[.pointer (some ⟨q, 0, none⟩), .string nm] w fun e w' => e = .returned (.tuple #[.string d, .nilIface]) ∧ ∃ G', Bh PS G q v' w G' w') := by
      refine HRD.out.mono ?_
      rintro e w' ⟨ev, rfl, he, hb, _⟩
      rw [he.nil]; exact ⟨rfl, hb⟩
    clear HRD HRS
    go_enter Tryz.func19, Tryz.ntmps19
    go_wp2_with (go_at_call 25; refine HR0.out.mono ?_; rintro e w1 ⟨rfl, ⟨G', h1⟩⟩)
    go_returns
    exact ⟨.nilIface, rfl, .inl ⟨rfl, rfl⟩, G', h1⟩
  · have HR0 : Hid (Calls Tryz.prog 25 #[.pointer (some ⟨q, 0, none⟩), .string nm] w fun e w' => ∃ x, e = .returned (.tuple #[.string d, .iface 112 x]) ∧ ErrIs w' w.heap.size ⟨#[114, 101, 97, 100]⟩ nm E (.iface 112 x) ∧ (∃ G', Bh PS G q v' w G' w') ∧ ErrT w') := by
      refine HRD.out.mono ?_
      rintro e w' ⟨ev, rfl, he, hb, hg⟩
      have he2 := he
      rcases he with ⟨h', _⟩ | ⟨_, b, _, rfl, _⟩
      · exact absurd h' h0
      · exact ⟨_, rfl, he2, hb, hg⟩
    have HRS1 : Hid (∀ W ev, ErrIs W w.heap.size ⟨#[114, 101, 97, 100]⟩ nm E ev → ErrT W → Calls Tryz.prog 47 #[ev] W fun r w' => r = .returned (.int .i64 E) ∧ Below W.heap.size W w') := fun W ev h1 h2 => HRS.out W ev h0 h1 h2
    have HBC : Hid (∀ G' w1 w2, Bh PS G q v' w G' w1 → Below w1.heap.size w1 w2 → Bh PS G q v' w G' w2) := fun G' w1 w2 h hb => h.below C hb
    have hd0 : decide (E = 0) = false := decide_eq_false h0
    rw [hd0, if_neg h0]
    by_cases h3 : E = 30
    · subst h3
      clear HRD HRS h0 hd0
      go_enter Tryz.func19, Tryz.ntmps19
      go_wp2_with (first
        | (go_at_call 25; refine HR0.out.mono ?_; rintro e w1 ⟨x, rfl, he, ⟨G', h1⟩, hg⟩)
        | (go_at_call 47; refine (HRS1.out _ _ he hg).mono ?_; rintro e w2 ⟨rfl, hb2⟩))
      go_returns
      exact ⟨.nilIface, rfl, .inl ⟨by simp, rfl⟩, G', HBC.out _ _ _ h1 hb2⟩
    · have b3 : ((E : Int) == 30) = false := by simp; omega
      have b3' : ¬ ((E : Int) = 30) := by omega
      rw [if_neg h3]
      clear HRD HRS h0 hd0 h3
      go_enter Tryz.func19, Tryz.ntmps19
      go_wp2_with (first
        | (go_at_call 25; refine HR0.out.mono ?_; rintro e w1 ⟨x, rfl, he, ⟨G', h1⟩, hg⟩)
        | (go_at_call 47; refine (HRS1.out _ _ he hg).mono ?_; rintro e w2 ⟨rfl, hb2⟩))
      go_returns
      exact ⟨_, G', rfl, he.below hb2, HBC.out _ _ _ h1 hb2⟩
end Go.Proofs.YtggnjgmjfenibaaGreatDoor
