
-- pull, whole.
import Derived.Test.YtnnpdomfkedhpaaPL
import Derived.Lib.FrozenHead2
namespace Go.Proofs.Ytnnpdomfkedhpaa
open Go.ChangeShapes Go.WideShapes Go.ChangeAt Go.RowKit Go.MapKept
set_option linter.unusedVariables false
set_option maxRecDepth 100000
set_option maxHeartbeats 8000000 in
theorem pull_c (F : Nat → Prop) (g : Nat) (s : Lk) (n : Nat) (x y : Int) (dv nv : Value) (ds ns : List ByteArray) (w : World) (h : PgR F g s n w) (hF : ∀ b, w.heap.size ≤ b → F b) (hd : RowN F txL w dv ds) (hn : RowN F txL w nv ns)
    (b1 : s.d.length + ds.length ≤ 4398046511104) (b2 : n + ns.length ≤ 4398046511104) (b3 : s.p.length ≤ 4398046511104) :
    Calls Try.prog 29 #[.pointer (some ⟨g, 0, none⟩), .agg #[.int .i64 x, .int .i64 y], dv, nv] w fun e w' => e = .returned (.tuple #[]) ∧ PgR F g (pullN s (x, y) ds ns) (n + ns.length) w' ∧ Kp F w w' := by
  obtain ⟨r, hr, h0, vd, vw, vp, bd, bw, bp, h1⟩ := h
  obtain ⟨X, hX⟩ : ∃ X, X = Obj.cells #[.int .i64 x, .int .i64 y] 56 := ⟨_, rfl⟩
  have hbA : Below w.heap.size w (w.alloc X) := (Below.refl _ w).alloc (Nat.le_refl _) X
  have h2 := h1.on hbA
  have HA := hidK h2
  have c2 := h2.c2
  have x0 : (w.alloc X).heap[w.heap.size]? = some (.cells #[.int .i64 x, .int .i64 y] 56 (0, 0)) := by rw [heap_alloc_new, hX]
  have y0 : (w.alloc X).cell? ⟨w.heap.size, 0, none⟩ = some (.int .i64 x) := cell_rowK x0 0 _ rfl
  have y1 : (w.alloc X).cell? ⟨w.heap.size, 1, none⟩ = some (.int .i64 y) := cell_rowK x0 1 _ rfl
  have HX0 := hidK x0
  obtain ⟨ap, cp, ep, _⟩ := h1.op.form
  obtain ⟨lp, hlp⟩ : ∃ lp, lp = s.p.length := ⟨_, rfl⟩
  have HLP := hidK hlp
  rw [← hlp] at ep
  subst ep
  obtain ⟨ad, cd, ed, _, _⟩ := hd.row.form
  obtain ⟨an, cn, en, _, _⟩ := hn.row.form
  obtain ⟨ld, hld⟩ : ∃ ld, ld = ds.length := ⟨_, rfl⟩
  obtain ⟨l2, hl2⟩ : ∃ l2, l2 = ns.length := ⟨_, rfl⟩
  have HLD := hidK hld
  have HLN := hidK hl2
  rw [← hld] at ed b1
  rw [← hl2] at en b2
  rw [← hlp] at b3
  subst ed
  subst en
  have HD := hidK hd
  have HN := hidK hn
  have HF := hidK hF
  have HR0 := hidK h0
  have HR := hidK hr
  have HB := hidK (show s.d.length + ld ≤ 4398046511104 ∧ n + l2 ≤ 4398046511104 from ⟨b1, b2⟩)
  have hgl := h2.glt
  have hbC : Below (w.alloc X).heap.size (w.alloc X) ((w.alloc X).alloc X) := (Below.refl _ _).alloc (Nat.le_refl _) X
  have h3 := h2.on hbC
  have HO2 : Hid (OwnF F paL 2 56 ((w.alloc X).alloc X) (.slice ap lp cp) s.p) := h3.op
  have HR2 : Hid (RowG paL ((w.alloc X).alloc X) (.slice (some ⟨w.heap.size + 1, 0, none⟩) 1 1) [(x, y)]) := by
    have := rowG_new elP (w.alloc X) (x, y) #[.int .i64 x, .int .i64 y] rfl
    rw [← hX, World.size_alloc] at this
    exact this
  have HF2 : Hid (∀ b, ((w.alloc X).alloc X).heap.size ≤ b → F b) := fun b hb => hF b (by simp at hb; omega)
  have HG2 : Hid (∀ w4, Kp (fun k => (Value.slice ap lp cp).ownBlock = some k) ((w.alloc X).alloc X) w4 → w4.heap[g]? = some (.cells #[vd, vw, .slice ap lp cp, .map (some bd), .map (some bw), .map (some bp)] 66 (0, 0))) := fun w4 k4 => (k4.block g h3.glt (fun e => (h3.ntp _ e).1 rfl)).trans h3.blk
  have HX3 := hidK h3
  have HVP : Hid (∀ k, (Value.slice ap lp cp).ownBlock = some k → k < w.heap.size) := fun k hk => h1.op.lt k hk
  have c2b := h3.c2
  clear h1 h2 h3 h0 hd hn hF hr hlp hld hl2 b1 b2 hbA hbC x0
  subst hX
  go_enter Try.func29, Try.ntmps29
  go_wp2
  go_region_law (refine stepG_all (F := F) elP rfl (.tmp 16) (.tmp 18) rfl (.slice ap lp cp) s.p (x, y) (w.heap.size + 1) 1 (by simp [Act.eval]) (by simp [Act.eval]) (by exact HO2.out) (by exact HR2.out) (paL_one _) (by have := HLP.out; omega) (by exact HF2.out) ?_; intro v4 w4 o4 k4 l4; obtain ⟨a4, p4, e4, _⟩ := o4.form; obtain ⟨m4, hm4⟩ : ∃ m, m = (s.p ++ [(x, y)]).length := ⟨_, rfl⟩; rw [← hm4] at e4; clear hm4; subst e4; have hb2 := HG2.out _ (Kp.undrew k4); have d2 : w4.cell? ⟨g, 2, none⟩ = some (.slice ap lp cp) := cell_rowK hb2 2 _ rfl; have f2 := Lib.frozen_of_heap hb2 2)
  all_goals
    have HK5 : Hid (∀ W, W = w4.setCell ⟨g, 2, none⟩ (.slice a4 m4 p4) → PgX F g s.d r (s.p ++ [(x, y)]) s.d s.w s.p W vd vw (.slice a4 m4 p4) bd bw bp ∧ Kp F w W ∧ W.cell? ⟨w.heap.size, 0, none⟩ = some (.int .i64 x) ∧ W.cell? ⟨w.heap.size, 1, none⟩ = some (.int .i64 y)) := by
      rintro W rfl
      have k5 := Kp.undrew k4
      have q5 := kq_set w4 g 2 (.slice a4 m4 p4)
      have X5 := HX3.out.putP k5 o4 (fun k hk => l4 k hk) (blk_set hb2 _) q5
      have kk : Kp F w (w4.setCell ⟨g, 2, none⟩ (.slice a4 m4 p4)) := (((Kp.refl F w).alloc _).alloc _).trans ((k5.weak (fun k hk => HX3.out.op.2 k hk)).trans (Kp.kq q5 HX3.out.fg))
      have hne : w.heap.size ≠ g := fun e => cells_typ HX0.out HA.out.blk (by decide) e
      have hbx : (w4.setCell ⟨g, 2, none⟩ (.slice a4 m4 p4)).heap[w.heap.size]? = some (.cells #[.int .i64 x, .int .i64 y] 56 (0, 0)) := by
        rw [q5.block _ hne (by have := k5.size; simp at this; omega), k5.block _ (by simp; omega) (fun e => by have := HVP.out _ e; omega)]
        exact hupK HX0.out _
      exact ⟨X5, kk, cell_rowK hbx 0 _ rfl, cell_rowK hbx 1 _ rfl⟩
    obtain ⟨X5, K5, z0, z1⟩ := HK5.out _ rfl
    generalize w4.setCell ⟨g, 2, none⟩ (.slice a4 m4 p4) = W5 at X5 K5 z0 z1 ⊢
    have HAD : Hid (∀ W, Below W5.heap.size W5 W → Calls Try.prog 24 #[.map (some bp), .agg #[.int .i64 x, .int .i64 y]] W fun e w' => e = .returned (.tuple #[]) ∧ PgR F g ⟨s.d, s.w, s.p ++ [(x, y)]⟩ n w' ∧ Kp F w w') := fun W hb => (addP_c bp s.p x y W (X5.sp.on hb)).mono (by
      rintro e w' ⟨rfl, q1, q2⟩
      exact ⟨rfl, ⟨r, HR.out, HR0.out, _, _, _, _, _, _, (X5.on hb).setP q2 q1⟩, (K5.trans (Kp.of_below hb)).trans (q2.weak (fun k e => e ▸ X5.fp))⟩)
    have c5 := X5.c5
    clear o4 k4 l4 HO2 HR2 HG2 HX3 HA HX0 hb2 HK5 HVP d2 f2 c2b c2 y0 y1 X5 K5 hgl HR0 HR HF2 HLP b3
    clear w4
    go_wp2
    go_region_with (go_at_call 24; refine (HAD.out _ (by first | exact Below.refl _ _ | exact (Below.refl _ _).drew)).mono ?_; rintro e w6 ⟨rfl, q1, q2⟩; have HP6 := hidK q1; have HK6 := hidK q2; clear q1 q2)
    all_goals
      clear HAD z0 z1 c5
      go_wp2
      go_loopw [30] (fun i wx => ∃ k : Nat, i = .int .i64 k ∧ k ≤ ld ∧ PgR F g ((ds.take k).foldl defN ⟨s.d, s.w, s.p ++ [(x, y)]⟩) n wx ∧ Kp F w wx) (fun i _ => ld - (intOf i).toNat)
      case atStart => exact ⟨0, rfl, Nat.zero_le _, HP6.out, HK6.out⟩
      case round =>
        obtain ⟨k, rfl, hkn, ho, hB⟩ := hrel
        have HO := hidK ho
        have HB0 := hidK hB
        clear ho hB HP6 HK6
        by_cases hk : k < ld
        · have kI : (k : Int) < (ld : Int) := by omega
          have k0 : (0 : Int) ≤ (k : Int) := by omega
          have kw : IntKind.i64.wrap ((k : Int) + 1) = (k : Int) + 1 := by have := HB.out.1; rw [IntKind.wrap_i64]; omega
          have hkl : k < ds.length := by have := HLD.out; omega
          obtain ⟨x1, hx⟩ : ∃ x, ds[k]? = some x := ⟨_, List.getElem?_eq_getElem hkl⟩
          obtain ⟨b1, o1, p1, e1, d0⟩ := (HD.out.kp HB0.out).row.tx hx
          have HX := hidK hx
          injection e1 with e1 e1b e1c
          subst e1
          have HA := hidK (definR x1 HO.out (fun b hb => HF.out b (Nat.le_trans HB0.out.size hb)) (by
            have h1 := foldD_len (ds.take k) ⟨s.d, s.w, s.p ++ [(x, y)]⟩
            have h2 : (ds.take k).length ≤ ld := by rw [List.length_take]; omega
            have h3 := HB.out.1
            simp only at h1
            omega))
          clear hx hkl e1b e1c HD
          go_wp2_with (go_at_call 31; refine HA.out.mono ?_; rintro e w1 ⟨rfl, hs1, hk1⟩; have HS := hidK hs1; have HB1 := hidK (HB0.out.trans hk1); clear hs1 hk1)
          go_roundw
          case rel => exact ⟨k + 1, by go_num, by omega, by rw [takeSucc HX.out, List.foldl_append]; exact HS.out, HB1.out⟩
          case measure => simp [intOf]; omega
        · obtain rfl : k = ld := by omega
          have HO2 : Hid (PgR F g (ds.foldl defN ⟨s.d, s.w, s.p ++ [(x, y)]⟩) n wr) := by
            have := HO.out
            rw [HLD.out, List.take_length] at this
            exact this
          clear HD HO
          go_wp2
          go_loopw [40] (fun i wx => ∃ k : Nat, i = .int .i64 k ∧ k ≤ l2 ∧ PgR F g ((ns.take k).foldl wantN (ds.foldl defN ⟨s.d, s.w, s.p ++ [(x, y)]⟩)) (n + k) wx ∧ Kp F w wx) (fun i _ => l2 - (intOf i).toNat)
          case atStart => exact ⟨0, rfl, Nat.zero_le _, HO2.out, HB0.out⟩
          case round =>
            obtain ⟨k, rfl, hkn, ho, hB⟩ := hrel
            have HO := hidK ho
            have HB9 := hidK hB
            clear ho hB HO2 HB0
            by_cases hk : k < l2
            · have kI : (k : Int) < (l2 : Int) := by omega
              have k0 : (0 : Int) ≤ (k : Int) := by omega
              have kw : IntKind.i64.wrap ((k : Int) + 1) = (k : Int) + 1 := by have := HB.out.2; rw [IntKind.wrap_i64]; omega
              have hkl : k < ns.length := by have := HLN.out; omega
              obtain ⟨x1, hx⟩ : ∃ x, ns[k]? = some x := ⟨_, List.getElem?_eq_getElem hkl⟩
              obtain ⟨b1, o1, p1, e1, d0⟩ := (HN.out.kp HB9.out).row.tx hx
              have HX := hidK hx
              injection e1 with e1 e1b e1c
              subst e1
              have HA := hidK (wantcR x1 HO.out (fun b hb => HF.out b (Nat.le_trans HB9.out.size hb)) (by have := HB.out.2; omega))
              clear hx hkl e1b e1c HN
              go_wp2_with (go_at_call 32; refine HA.out.mono ?_; rintro e w1 ⟨rfl, hs1, hk1⟩; have HS := hidK hs1; have HB1 := hidK (HB9.out.trans hk1); clear hs1 hk1)
              go_roundw
              case rel => exact ⟨k + 1, by go_num, by omega, by rw [takeSucc HX.out, List.foldl_append]; exact HS.out, HB1.out⟩
              case measure => simp [intOf]; omega
            · obtain rfl : k = l2 := by omega
              clear HN
              go_wp2
              go_end0
              refine ⟨rfl, ?_, HB9.out⟩
              have := HO.out
              rw [HLN.out, List.take_length] at this
              exact this
end Go.Proofs.Ytnnpdomfkedhpaa
