
-- pass, walked.
import Derived.Test.YtnnpdomfkedhpaaPA
namespace Go.Proofs.Ytnnpdomfkedhpaa
open Go.ChangeShapes Go.WideShapes Go.ChangeAt Go.RowKit Go.MapKept
set_option linter.unusedVariables false
set_option maxRecDepth 100000
theorem PgK.open {F : Nat → Prop} {g K M : Nat} {s : Lk} {w : World} (h : PgK F g K M s w) : ∃ ap cp bw bp, g < w.heap.size ∧ SetS w bw (setF s.w) ∧ SetP w bp (setF s.p) ∧ ∀ W, Below w.heap.size w W → W.cell? ⟨g, 2, none⟩ = some (.slice ap s.p.length cp) ∧ W.cell? ⟨g, 4, none⟩ = some (.map (some bw)) ∧ W.cell? ⟨g, 5, none⟩ = some (.map (some bp)) := by
  obtain ⟨⟨r, h1, h2, vd, vw, vp, bd, bw, bp, h3⟩, h4⟩ := h
  obtain ⟨ap, cp, e, _⟩ := h3.op.form
  subst e
  exact ⟨ap, cp, bw, bp, h3.glt, h3.sw, h3.sp, fun W hb => ⟨(h3.on hb).c2, (h3.on hb).c4, (h3.on hb).c5⟩⟩
theorem cat_cells {w : World} {b : Nat} {ve va vn vf vg : Value} {num : Int} {bm : Nat} (h : w.heap[b]? = some (.cells #[ve, va, vn, vf, vg, .int .i64 num, .map (some bm)] 69 (0, 0))) : w.cell? ⟨b, 0, none⟩ = some ve ∧ w.cell? ⟨b, 1, none⟩ = some va ∧ w.cell? ⟨b, 2, none⟩ = some vn ∧ w.cell? ⟨b, 3, none⟩ = some vf ∧ w.cell? ⟨b, 4, none⟩ = some vg ∧ w.cell? ⟨b, 5, none⟩ = some (.int .i64 num) ∧ w.cell? ⟨b, 6, none⟩ = some (.map (some bm)) :=
  ⟨cell_rowK h 0 _ rfl, cell_rowK h 1 _ rfl, cell_rowK h 2 _ rfl, cell_rowK h 3 _ rfl, cell_rowK h 4 _ rfl, cell_rowK h 5 _ rfl, cell_rowK h 6 _ rfl⟩
set_option maxHeartbeats 16000000 in
theorem pass_c (F : Nat → Prop) (g K M : Nat) (s : Lk) (ve va vn vf vg : Value) (num : Int) (bm : Nat) (L : Lb) (w : World) (h : PgK F g K M s w) (hF : ∀ b, w.heap.size ≤ b → F b) (hC : CatAt F w ve va vn vf vg bm L)
    (hM : (∀ l ∈ L.df, l.length ≤ M) ∧ ∀ l ∈ L.nd, l.length ≤ M) (hle : L.e.length ≤ 4398046511104) (Pm : Nat) (hP : ∀ k, ((L.e.take k).foldl (oneN L num) s).p.length ≤ Pm) (hPm : K + M * (Pm + 1) ≤ 4398046511104) (hPl : Pm ≤ 4398046511104) :
    Calls Try.prog 26 #[.pointer (some ⟨g, 0, none⟩), .agg #[ve, va, vn, vf, vg, .int .i64 num, .map (some bm)]] w fun e w' => e = .returned (.bool (decide (s.p.length < (passN L num s).p.length))) ∧ PgK F g K M (passN L num s) w' ∧ Kp F w w' := by
  obtain ⟨X, hX⟩ : ∃ X, X = Obj.cells #[ve, va, vn, vf, vg, .int .i64 num, .map (some bm)] 69 := ⟨_, rfl⟩
  have hbA : Below w.heap.size w (w.alloc X) := (Below.refl _ w).alloc (Nat.le_refl _) X
  obtain ⟨G, hG⟩ : ∃ G : Nat → Prop, G = fun b => F b ∧ b ≠ w.heap.size := ⟨_, rfl⟩
  have hsz : (w.alloc X).heap.size = w.heap.size + 1 := by simp
  have hFG : ∀ b, (w.alloc X).heap.size ≤ b → G b := fun b hb => by rw [hG]; exact ⟨hF b (by omega), by omega⟩
  have hGF : ∀ b, G b → F b := fun b hb => by rw [hG] at hb; exact hb.1
  have hnB : ¬ G w.heap.size := fun hb => by rw [hG] at hb; exact hb.2 rfl
  have h1 : PgK G g K M s (w.alloc X) := (h.into (fun b hb hf => by rw [hG]; exact ⟨hf, by omega⟩)).on hbA
  have hC1 : CatAt G (w.alloc X) ve va vn vf vg bm L := (hC.kp (Kp.of_below hbA)).weak (fun b _ hb => hGF b hb)
  have x0 : (w.alloc X).heap[w.heap.size]? = some (.cells #[ve, va, vn, vf, vg, .int .i64 num, .map (some bm)] 69 (0, 0)) := by rw [heap_alloc_new, hX]
  have HBX : Hid (∀ W, Kp G (w.alloc X) W → W.heap[w.heap.size]? = some (.cells #[ve, va, vn, vf, vg, .int .i64 num, .map (some bm)] 69 (0, 0))) := fun W hk => (hk.block _ (by omega) hnB).trans x0
  obtain ⟨x1, x2, x3, x4, x5, x6, x7⟩ := cat_cells x0
  obtain ⟨ap0, cp0, bw0, bp0, _, _, _, hcel0⟩ := h1.open
  obtain ⟨c2, c4, c5⟩ := hcel0 _ (Below.refl _ _)
  obtain ⟨ae, ce, ee, _, _⟩ := hC1.lib.e.row.form
  obtain ⟨ne, hne⟩ : ∃ ne, ne = L.e.length := ⟨_, rfl⟩
  have HNE := hidK hne
  rw [← hne] at ee hle
  subst ee
  obtain ⟨lp, hlp⟩ : ∃ lp, lp = s.p.length := ⟨_, rfl⟩
  have HLP := hidK hlp
  rw [← hlp] at c2
  have HH1 := hidK h1
  have HC1 := hidK hC1
  have HFG := hidK hFG
  have HGF := hidK hGF
  have HM := hidK hM
  have HPK := hidK hP
  have HPm := hidK (show K + M * (Pm + 1) ≤ 4398046511104 ∧ Pm ≤ 4398046511104 from ⟨hPm, hPl⟩)
  have HK0 : Hid (∀ W, Kp G (w.alloc X) W → Kp F w W) := fun W hk => ((Kp.refl F w).alloc X).trans (hk.weak hGF)
  have HPG : Hid (∀ t W, PgK G g K M t W → PgK F g K M t W) := fun t W hh => hh.into (fun b _ hb => hGF b hb)
  have HSZ := hidK hsz
  have HNB := hidK hnB
  clear h h1 hF hC hC1 hM hP hPm hPl hbA hFG hGF hnB hG x0 hne hlp hcel0 c4 c5 hsz
  subst hX
  go_enter Try.func26, Try.ntmps26
  go_wp2
  go_step3
  go_wp2
  go_step3
  go_wp2
  clear x1 x2 x3 x4 x5 x6 x7 c2
  go_loopw [19] (fun i wx => ∃ k : Nat, i = .int .i64 k ∧ k ≤ ne ∧ PgK G g K M ((L.e.take k).foldl (oneN L num) s) wx ∧ Kp G (w.alloc (.cells #[.slice ae ne ce, va, vn, vf, vg, .int .i64 num, .map (some bm)] 69)) wx) (fun i _ => ne - (intOf i).toNat)
  case atStart => exact ⟨0, rfl, Nat.zero_le _, HH1.out, Kp.refl _ _⟩
  case round =>
    obtain ⟨k, rfl, hkn, ho, hB⟩ := hrel
    have HO := hidK ho
    have HB0 := hidK hB
    by_cases hk : k < ne
    · have kI : (k : Int) < (ne : Int) := by omega
      have k0 : (0 : Int) ≤ (k : Int) := by omega
      have kw : IntKind.i64.wrap ((k : Int) + 1) = (k : Int) + 1 := by rw [IntKind.wrap_i64]; omega
      have hkl : k < L.e.length := by have := HNE.out; omega
      obtain ⟨⟨nm, at_⟩, hx⟩ : ∃ x, L.e[k]? = some x := ⟨_, List.getElem?_eq_getElem hkl⟩
      obtain ⟨b1, o1, p1, e1, d0, d1⟩ := (HC1.out.lib.e.kp hB).row.en hx
      injection e1 with e1 e1b e1c
      subst e1
      have HX : Hid (L.e.take (k + 1) = L.e.take k ++ [(nm, at_)]) := takeSucc hx
      obtain ⟨t, ht⟩ : ∃ t, t = (L.e.take k).foldl (oneN L num) s := ⟨_, rfl⟩
      have HT : Hid ((L.e.take (k + 1)).foldl (oneN L num) s = oneN L num t (nm, at_)) := by
        show _ = _
        rw [HX.out, List.foldl_append, ← ht]; rfl
      rw [← ht] at ho
      have htp : t.p.length ≤ Pm := by rw [ht]; exact HPK.out k
      have hxb := HBX.out _ hB
      obtain ⟨x1, x2, x3, x4, x5, x6, x7⟩ := cat_cells hxb
      obtain ⟨ap1, cp1, bw, bp, hgl, hsw, hsp, hcel⟩ := ho.open
      -- the two boxes
      obtain ⟨E, hE⟩ : ∃ E, E = Obj.cells #[.string nm, .int .i64 at_] 47 := ⟨_, rfl⟩
      obtain ⟨P, hP⟩ : ∃ P, P = Obj.cells #[.int .i64 num, .int .i64 at_] 56 := ⟨_, rfl⟩
      have bE : Below wr.heap.size wr (wr.alloc E) := (Below.refl _ wr).alloc (Nat.le_refl _) E
      have hxE := hkeepK bE hxb
      obtain ⟨y1, y2, y3, y4, y5, y6, y7⟩ := cat_cells hxE
      have eE : (wr.alloc E).heap[wr.heap.size]? = some (.cells #[.string nm, .int .i64 at_] 47 (0, 0)) := by rw [heap_alloc_new, hE]
      have f0 : (wr.alloc E).cell? ⟨wr.heap.size, 0, none⟩ = some (.string nm) := cell_rowK eE 0 _ rfl
      have f1 : (wr.alloc E).cell? ⟨wr.heap.size, 1, none⟩ = some (.int .i64 at_) := cell_rowK eE 1 _ rfl
      obtain ⟨W3, hW3⟩ : ∃ W3, W3 = (wr.alloc E).alloc P := ⟨_, rfl⟩
      have bP : Below wr.heap.size wr W3 := by rw [hW3]; exact bE.alloc (by simp) P
      have eP : W3.heap[wr.heap.size + 1]? = some (.cells #[.int .i64 num, .int .i64 at_] 56 (0, 0)) := by rw [hW3, heap_new2K, hP]
      have eE3 : W3.heap[wr.heap.size]? = some (.cells #[.string nm, .int .i64 at_] 47 (0, 0)) := by rw [hW3]; exact hupK eE P
      have HCEL : Hid (∀ W, Below W3.heap.size W3 W → (W.cell? ⟨w.heap.size, 0, none⟩ = some (.slice (some ⟨b1, o1, none⟩) ne ce) ∧ W.cell? ⟨w.heap.size, 1, none⟩ = some va ∧ W.cell? ⟨w.heap.size, 2, none⟩ = some vn ∧ W.cell? ⟨w.heap.size, 3, none⟩ = some vf ∧ W.cell? ⟨w.heap.size, 4, none⟩ = some vg ∧ W.cell? ⟨w.heap.size, 5, none⟩ = some (.int .i64 num) ∧ W.cell? ⟨w.heap.size, 6, none⟩ = some (.map (some bm))) ∧ (W.cell? ⟨wr.heap.size, 0, none⟩ = some (.string nm) ∧ W.cell? ⟨wr.heap.size, 1, none⟩ = some (.int .i64 at_) ∧ W.cell? ⟨wr.heap.size + 1, 0, none⟩ = some (.int .i64 num) ∧ W.cell? ⟨wr.heap.size + 1, 1, none⟩ = some (.int .i64 at_)) ∧ W.cell? ⟨g, 4, none⟩ = some (.map (some bw)) ∧ W.cell? ⟨g, 5, none⟩ = some (.map (some bp))) := fun W hb => by
        have hbw : Below wr.heap.size wr W := bP.trans (hb.mono bP.size)
        have q1 := hkeepK hb eE3
        have q2 := hkeepK hb eP
        exact ⟨cat_cells (hkeepK hbw hxb), ⟨cell_rowK q1 0 _ rfl, cell_rowK q1 1 _ rfl, cell_rowK q2 0 _ rfl, cell_rowK q2 1 _ rfl⟩, (hcel W hbw).2.1, (hcel W hbw).2.2⟩
      have HHW : Hid (∀ W, Below W3.heap.size W3 W → Calls Try.prog 22 #[.map (some bw), .string nm] W fun e w' => e = .returned (.bool (isIn t.w nm)) ∧ Below W3.heap.size W3 w') := fun W hb => (hasS_c bw t.w nm W (hsw.on (bP.trans (hb.mono bP.size)))).mono (by
        rintro e w' ⟨rfl, q⟩
        exact ⟨rfl, bel3K hb q⟩)
      have HHM : Hid (∀ W, Below W3.heap.size W3 W → Calls Try.prog 27 #[.agg #[.slice (some ⟨b1, o1, none⟩) ne ce, va, vn, vf, vg, .int .i64 num, .map (some bm)], .int .i64 at_] W fun e w' => e = .returned (.bool (idx L.a at_).isSome) ∧ Below W3.heap.size W3 w') := fun W hb => (hasMember_c _ va vn vf vg num at_ bm L.a W ((HC1.out.kp hB).mem.on (bP.trans (hb.mono bP.size)))).mono (by
        rintro e w' ⟨rfl, q⟩
        exact ⟨rfl, bel3K hb q⟩)
      have HHP : Hid (∀ W, Below W3.heap.size W3 W → Calls Try.prog 28 #[.map (some bp), .agg #[.int .i64 num, .int .i64 at_]] W fun e w' => e = .returned (.bool (isIn t.p (num, at_))) ∧ Below W3.heap.size W3 w') := fun W hb => (hasP_c bp t.p num at_ W (hsp.on (bP.trans (hb.mono bP.size)))).mono (by
        rintro e w' ⟨rfl, q⟩
        exact ⟨rfl, bel3K hb q⟩)
      have HSTAY : Hid (∀ W, Below W3.heap.size W3 W → PgK G g K M t W ∧ Kp G (w.alloc (.cells #[.slice (some ⟨b1, o1, none⟩) ne ce, va, vn, vf, vg, .int .i64 num, .map (some bm)] 69)) W) := fun W hb => by
        have hbw : Below wr.heap.size wr W := bP.trans (hb.mono bP.size)
        exact ⟨ho.on hbw, hB.trans (Kp.of_below hbw)⟩
      clear hx hkl e1b e1c hsw hsp hcel hxb hxE bE eE eP eE3 ht HX
      cases hi : isIn t.w nm with
      | false =>
        rw [hi] at HHW
        have HE : Hid (oneN L num t (nm, at_) = t) := by show _ = _; unfold oneN; rw [hi]; rfl
        clear HHM HHP hi
        subst hE hP
        go_wp2
        rw [← hW3]
        clear hW3 y1 y2 y3 y4 y5 y6 y7 x1 x2 x3 x4 x5 x6 x7 f0 f1 d0 d1
        have hc4 : ∀ W, Below W3.heap.size W3 W → W.cell? ⟨g, 4, none⟩ = some (.map (some bw)) := fun W hb => (HCEL.out W hb).2.2.1
        have hf0 : ∀ W, Below W3.heap.size W3 W → W.cell? ⟨wr.heap.size, 0, none⟩ = some (.string nm) := fun W hb => (HCEL.out W hb).2.1.1
        have hb3 : Below W3.heap.size W3 W3 := Below.refl _ _
        clear HCEL
        go_region_held3 (fun w' => Below W3.heap.size W3 w') (first | assumption | exact hb3.drew | exact hSw.drew) (first
          | (go_at_call 22; refine (HHW.out _ (by assumption)).mono ?_; rintro e w' ⟨rfl, hS'⟩))
        go_wp2
        go_roundw
        case rel => exact ⟨k + 1, by go_num, by omega, by rw [HT.out, HE.out]; exact (HSTAY.out _ hS').1, (HSTAY.out _ hS').2⟩
        case measure => simp [intOf]; omega
      | true =>
        rw [hi] at HHW
        cases hj : idx L.a at_ with
        | none =>
          rw [hj] at HHM
          have HE : Hid (oneN L num t (nm, at_) = t) := by show _ = _; unfold oneN; rw [hi]; simp only [if_true, hj]
          clear HHP hi hj
          subst hE hP
          go_wp2
          rw [← hW3]
          clear hW3 y1 y2 y3 y4 y5 y6 y7 x1 x2 x3 x4 x5 x6 x7 f0 f1 d0 d1
          have hc4 : ∀ W, Below W3.heap.size W3 W → W.cell? ⟨g, 4, none⟩ = some (.map (some bw)) := fun W hb => (HCEL.out W hb).2.2.1
          have hf0 : ∀ W, Below W3.heap.size W3 W → W.cell? ⟨wr.heap.size, 0, none⟩ = some (.string nm) := fun W hb => (HCEL.out W hb).2.1.1
          have hb3 : Below W3.heap.size W3 W3 := Below.refl _ _
          go_region_held3 (fun w' => Below W3.heap.size W3 w') (first | assumption | exact hb3.drew | exact hSw.drew) (first
            | (go_at_call 22; refine (HHW.out _ (by assumption)).mono ?_; rintro e w' ⟨rfl, hS'⟩))
          have HS1 := hidK hS'
          obtain ⟨⟨y1, y2, y3, y4, y5, y6, y7⟩, ⟨f0, f1, _, _⟩, _, _⟩ := HCEL.out _ hS'
          clear hc4 hf0 hS' HCEL
          go_wp2_with (go_at_call 27; refine (HHM.out _ HS1.out).mono ?_; rintro e w5 ⟨rfl, hS5⟩; have HS5 := hidK hS5; clear hS5)
          go_roundw
          case rel => exact ⟨k + 1, by go_num, by omega, by rw [HT.out, HE.out]; exact (HSTAY.out _ HS5.out).1, (HSTAY.out _ HS5.out).2⟩
          case measure => simp [intOf]; omega
        | some m =>
          rw [hj] at HHM
          cases hq : isIn t.p (num, at_) with
          | true =>
            rw [hq] at HHP
            have HE : Hid (oneN L num t (nm, at_) = t) := by show _ = _; unfold oneN; rw [hi]; simp only [if_true, hj, hq]
            clear hi hj hq
            subst hE hP
            go_wp2
            rw [← hW3]
            clear hW3 y1 y2 y3 y4 y5 y6 y7 x1 x2 x3 x4 x5 x6 x7 f0 f1 d0 d1
            have hc4 : ∀ W, Below W3.heap.size W3 W → W.cell? ⟨g, 4, none⟩ = some (.map (some bw)) := fun W hb => (HCEL.out W hb).2.2.1
            have hf0 : ∀ W, Below W3.heap.size W3 W → W.cell? ⟨wr.heap.size, 0, none⟩ = some (.string nm) := fun W hb => (HCEL.out W hb).2.1.1
            have hb3 : Below W3.heap.size W3 W3 := Below.refl _ _
            go_region_held3 (fun w' => Below W3.heap.size W3 w') (first | assumption | exact hb3.drew | exact hSw.drew) (first
              | (go_at_call 22; refine (HHW.out _ (by assumption)).mono ?_; rintro e w' ⟨rfl, hS'⟩))
            have HS1 := hidK hS'
            obtain ⟨⟨y1, y2, y3, y4, y5, y6, y7⟩, ⟨f0, f1, _, _⟩, _, _⟩ := HCEL.out _ hS'
            clear hc4 hf0 hS'
            go_wp2_with (go_at_call 27; refine (HHM.out _ HS1.out).mono ?_; rintro e w5 ⟨rfl, hS5⟩; have HS5 := hidK hS5; clear hS5)
            clear y1 y2 y3 y4 y5 y6 y7 f0 f1
            have hc5 : ∀ W, Below W3.heap.size W3 W → W.cell? ⟨g, 5, none⟩ = some (.map (some bp)) := fun W hb => (HCEL.out W hb).2.2.2
            have hg0 : ∀ W, Below W3.heap.size W3 W → W.cell? ⟨wr.heap.size + 1, 0, none⟩ = some (.int .i64 num) := fun W hb => (HCEL.out W hb).2.1.2.2.1
            have hg1 : ∀ W, Below W3.heap.size W3 W → W.cell? ⟨wr.heap.size + 1, 1, none⟩ = some (.int .i64 at_) := fun W hb => (HCEL.out W hb).2.1.2.2.2
            have hb5 := HS5.out
            clear HCEL
            go_region_held3 (fun w' => Below W3.heap.size W3 w') (first | assumption | exact hb5.drew | exact hSw.drew) (first
              | (go_at_call 28; refine (HHP.out _ (by assumption)).mono ?_; rintro e w' ⟨rfl, hS'⟩))
            go_wp2
            go_roundw
            case rel => exact ⟨k + 1, by go_num, by omega, by rw [HT.out, HE.out]; exact (HSTAY.out _ hS').1, (HSTAY.out _ hS').2⟩
            case measure => simp [intOf]; omega
          | false =>
            rw [hq] at HHP
            have HE : Hid (oneN L num t (nm, at_) = pullN t (num, at_) (L.df.getD m []) (L.nd.getD m [])) := by show _ = _; unfold oneN; rw [hi]; simp only [if_true, hj, hq]; rfl
            have HLK : Hid (∀ W, Below W3.heap.size W3 W → (Instr.lookup 67 (.map (some bm)) (.int .i64 at_) false).run Try.prog W = .ok (.int .i64 (m : Int)) W) := fun W hb => by
              have := MpAt.look false ((HC1.out.kp hB).mem.on (bP.trans (hb.mono bP.size))) mapN_u keyNm isNm injNm (zeroN W) at_
              rw [plcF0, hj] at this
              simpa using this
            obtain ⟨u1, r1, n1⟩ := names_k G vf L.df m wr (HC1.out.kp hB).lib.f
            obtain ⟨u2, r2, n2⟩ := names_k G vg L.nd m wr (HC1.out.kp hB).lib.g
            obtain ⟨G2, hG2⟩ : ∃ G2 : Nat → Prop, G2 = fun b => G b ∧ b ≠ wr.heap.size + 1 := ⟨_, rfl⟩
            have hs3 : W3.heap.size = wr.heap.size + 2 := by rw [hW3]; simp
            have hn2 : ¬ G2 (wr.heap.size + 1) := fun q => by rw [hG2] at q; exact q.2 rfl
            have h2G : ∀ b, G2 b → G b := fun b q => by rw [hG2] at q; exact q.1
            have hkk : Kp G (w.alloc (.cells #[.slice (some ⟨b1, o1, none⟩) ne ce, va, vn, vf, vg, .int .i64 num, .map (some bm)] 69)) W3 := hB.trans (Kp.of_below bP)
            have hNW : ∀ W, Kp G2 W3 W → Kp G wr W := fun W q => (Kp.of_below bP).trans (q.weak h2G)
            have HN1 : Hid (∀ W, Kp G2 W3 W → Calls Try.prog 30 #[vf, .int .i64 m] W fun e w' => e = .returned u1 ∧ w' = W) := fun W hb => n1 W (hNW W hb)
            have HN2 : Hid (∀ W, Kp G2 W3 W → Calls Try.prog 30 #[vg, .int .i64 m] W fun e w' => e = .returned u2 ∧ w' = W) := fun W hb => n2 W (hNW W hb)
            have HPU : Hid (∀ W, Below W3.heap.size W3 W → Calls Try.prog 29 #[.pointer (some ⟨g, 0, none⟩), .agg #[.int .i64 num, .int .i64 at_], u1, u2] W fun e w' => e = .returned (.tuple #[]) ∧ (PgK G g K M (pullN t (num, at_) (L.df.getD m []) (L.nd.getD m [])) w' ∧ Kp G (w.alloc (.cells #[.slice (some ⟨b1, o1, none⟩) ne ce, va, vn, vf, vg, .int .i64 num, .map (some bm)] 69)) w') ∧ Kp G2 W3 w') := fun W hb => by
              have hbw : Below wr.heap.size wr W := bP.trans (hb.mono bP.size)
              have hmm : M * (t.p.length + 1) ≤ M * (Pm + 1) := Nat.mul_le_mul_left M (by omega)
              have hpm := HPm.out
              have ho2 : PgK G2 g K M t W := (ho.into (fun b q1 q2 => by rw [hG2]; exact ⟨q2, by omega⟩)).on hbw
              refine (pullK num at_ ho2 (fun b hh => by rw [hG2]; exact ⟨HFG.out b (Nat.le_trans hB.size (Nat.le_trans hbw.size hh)), by have := hb.size; omega⟩) ((r1.kp (Kp.of_below hbw)).weak (fun b _ q => h2G b q) (by decide) txL_len) ((r2.kp (Kp.of_below hbw)).weak (fun b _ q => h2G b q) (by decide) txL_len) (getD_le HM.out.1 m) (getD_le HM.out.2 m) (by omega) (by omega)).mono ?_
              rintro e w' ⟨q1, q2, q3⟩
              have q4 : Kp G2 W3 w' := (Kp.of_below hb).trans q3
              exact ⟨q1, ⟨q2.into (fun b _ q => h2G b q), hkk.trans (q4.weak h2G)⟩, q4⟩
            have HC2 : Hid (∀ W, Kp G2 W3 W → W.cell? ⟨w.heap.size, 3, none⟩ = some vf ∧ W.cell? ⟨w.heap.size, 4, none⟩ = some vg ∧ W.cell? ⟨wr.heap.size + 1, 0, none⟩ = some (.int .i64 num) ∧ W.cell? ⟨wr.heap.size + 1, 1, none⟩ = some (.int .i64 at_)) := fun W q => by
              obtain ⟨⟨_, _, _, y4, y5, _, _⟩, ⟨_, _, g0, g1⟩, _, _⟩ := HCEL.out W3 (Below.refl _ _)
              have nb : ¬ G2 w.heap.size := fun z => HNB.out (h2G _ z)
              exact ⟨q.cell y4 nb, q.cell y5 nb, q.cell g0 hn2, q.cell g1 hn2⟩
            clear r1 r2 n1 n2 hs3 hn2 h2G hkk hNW hG2
            clear hi hj hq
            subst hE hP
            go_wp2
            rw [← hW3]
            clear hW3 y1 y2 y3 y4 y5 y6 y7 x1 x2 x3 x4 x5 x6 x7 f0 f1 d0 d1
            have hc4 : ∀ W, Below W3.heap.size W3 W → W.cell? ⟨g, 4, none⟩ = some (.map (some bw)) := fun W hb => (HCEL.out W hb).2.2.1
            have hf0 : ∀ W, Below W3.heap.size W3 W → W.cell? ⟨wr.heap.size, 0, none⟩ = some (.string nm) := fun W hb => (HCEL.out W hb).2.1.1
            have hb3 : Below W3.heap.size W3 W3 := Below.refl _ _
            go_region_held3 (fun w' => Below W3.heap.size W3 w') (first | assumption | exact hb3.drew | exact hSw.drew) (first
              | (go_at_call 22; refine (HHW.out _ (by assumption)).mono ?_; rintro e w' ⟨rfl, hS'⟩))
            have HS1 := hidK hS'
            obtain ⟨⟨y1, y2, y3, y4, y5, y6, y7⟩, ⟨f0, f1, _, _⟩, _, _⟩ := HCEL.out _ hS'
            clear hc4 hf0 hS'
            go_wp2_with (go_at_call 27; refine (HHM.out _ HS1.out).mono ?_; rintro e w5 ⟨rfl, hS5⟩; have HS5 := hidK hS5; clear hS5)
            clear y1 y2 y3 y4 y5 y6 y7 f0 f1
            have hc5 : ∀ W, Below W3.heap.size W3 W → W.cell? ⟨g, 5, none⟩ = some (.map (some bp)) := fun W hb => (HCEL.out W hb).2.2.2
            have hg0 : ∀ W, Below W3.heap.size W3 W → W.cell? ⟨wr.heap.size + 1, 0, none⟩ = some (.int .i64 num) := fun W hb => (HCEL.out W hb).2.1.2.2.1
            have hg1 : ∀ W, Below W3.heap.size W3 W → W.cell? ⟨wr.heap.size + 1, 1, none⟩ = some (.int .i64 at_) := fun W hb => (HCEL.out W hb).2.1.2.2.2
            have hb5 := HS5.out
            go_region_held3 (fun w' => Below W3.heap.size W3 w') (first | assumption | exact hb5.drew | exact hSw.drew) (first
              | (go_at_call 28; refine (HHP.out _ (by assumption)).mono ?_; rintro e w' ⟨rfl, hS'⟩))
            have HS7 := hidK hS'
            obtain ⟨⟨y1, y2, y3, y4, y5, y6, y7⟩, ⟨f0, f1, g0, g1⟩, _, _⟩ := HCEL.out _ hS'
            have hlk := HLK.out _ hS'
            clear hc5 hg0 hg1 hS' HCEL hb5 HLK HHP HHM HHW
            go_wp2_with (at_lookup; refine wp_look _ rfl _ _ 67 false rfl _ _ _ rfl rfl hlk ?_)
            clear hlk
            have hk7 : Kp G2 W3 _ := Kp.of_below HS7.out
            have hv3 : ∀ W, Kp G2 W3 W → W.cell? ⟨w.heap.size, 3, none⟩ = some vf := fun W q => (HC2.out W q).1
            have hv4 : ∀ W, Kp G2 W3 W → W.cell? ⟨w.heap.size, 4, none⟩ = some vg := fun W q => (HC2.out W q).2.1
            have hv5 : ∀ W, Kp G2 W3 W → W.cell? ⟨wr.heap.size + 1, 0, none⟩ = some (.int .i64 num) := fun W q => (HC2.out W q).2.2.1
            have hv6 : ∀ W, Kp G2 W3 W → W.cell? ⟨wr.heap.size + 1, 1, none⟩ = some (.int .i64 at_) := fun W q => (HC2.out W q).2.2.2
            clear HC2 y1 y2 y3 y4 y5 y6 y7 f0 f1 g0 g1
            go_region_held3 (fun w' => Kp G2 W3 w') (first | assumption | exact hk7.drew | exact hSw.drew) (first
              | (go_at_call_of 30 vf; refine (HN1.out _ (by assumption)).mono ?_; rintro e w8 ⟨rfl, hw8⟩; subst w8)
              | (go_at_call_of 30 vg; refine (HN2.out _ (by assumption)).mono ?_; rintro e w8 ⟨rfl, hw8⟩; subst w8)
              | (go_at_call 29; refine (HPU.out _ (by exact HS7.out.drew)).mono ?_; rintro e w9 ⟨rfl, q1, q2⟩; have HP9 := hidK q1.1; have HK9 := hidK q1.2; clear q1))
            all_goals
              go_wp2
              go_roundw
              case rel => exact ⟨k + 1, by go_num, by omega, by rw [HT.out, HE.out]; exact HP9.out, HK9.out⟩
              case measure => simp [intOf]; omega
    · obtain rfl : k = ne := by omega
      have hO : PgK G g K M (passN L num s) wr := by
        have := HO.out
        rw [HNE.out, List.take_length] at this
        exact this
      obtain ⟨ap1, cp1, bw, bp, hgl, hsw, hsp, hcel⟩ := hO.open
      have c2 := (hcel wr (Below.refl _ _)).1
      obtain ⟨l2, hl2⟩ : ∃ l2, l2 = (passN L num s).p.length := ⟨_, rfl⟩
      have HL2 := hidK hl2
      rw [← hl2] at c2
      have HD : Hid (decide (s.p.length < (passN L num s).p.length) = decide ((lp : Int) < (l2 : Int))) := by
        show _ = _
        rw [← HLP.out, ← hl2]
        simp
      have HPO := hidK hO
      clear hO hcel hsw hsp hl2 ho hB HO
      go_wp2
      rw [Exit.noGoto_ret]
      go_ret
      rw [HD.out]
      exact ⟨by simp, HPG.out _ _ HPO.out, HK0.out _ HB0.out⟩
end Go.Proofs.Ytnnpdomfkedhpaa
