
-- link.
import Derived.Test.YtnnpdomfkedhpaaRD
import Derived.Test.YtnnpdomfkedhpaaBG
import Derived.Deep.Cut
namespace Go.Proofs.Ytnnpdomfkedhpaa
open Go.ChangeShapes Go.WideShapes Go.ChangeAt Go.RowKit Go.MapKept
set_option linter.unusedVariables false
set_option maxRecDepth 100000
theorem three_set {w : World} {b : Nat} {c0 c1 c2 : Value} {t : TypeId} (h : w.heap[b]? = some (.cells #[c0, c1, c2] t (0, 0))) (v0 v1 v2 : Value) :
    (((w.setCell ⟨b, 0, none⟩ v0).setCell ⟨b, 1, none⟩ v1).setCell ⟨b, 2, none⟩ v2).heap[b]? = some (.cells #[v0, v1, v2] t (0, 0)) ∧ Kq b w (((w.setCell ⟨b, 0, none⟩ v0).setCell ⟨b, 1, none⟩ v1).setCell ⟨b, 2, none⟩ v2) := by
  have q0 : Kq b w w := ⟨rfl, rfl, rfl, Nat.le_refl _, fun _ _ _ => rfl⟩
  have q1 := q0.trans (kq_set w b 0 v0)
  have h1 : (w.setCell ⟨b, 0, none⟩ v0).heap[b]? = some (.cells #[v0, c1, c2] t (0, 0)) := (blk_set h v0).trans rfl
  generalize w.setCell ⟨b, 0, none⟩ v0 = w1 at q1 h1 ⊢
  have q2 := q1.trans (kq_set w1 b 1 v1)
  have h2 : (w1.setCell ⟨b, 1, none⟩ v1).heap[b]? = some (.cells #[v0, v1, c2] t (0, 0)) := (blk_set h1 v1).trans rfl
  generalize w1.setCell ⟨b, 1, none⟩ v1 = w2 at q2 h2 ⊢
  have q3 := q2.trans (kq_set w2 b 2 v2)
  have h3 : (w2.setCell ⟨b, 2, none⟩ v2).heap[b]? = some (.cells #[v0, v1, v2] t (0, 0)) := (blk_set h2 v2).trans rfl
  generalize w2.setCell ⟨b, 2, none⟩ v2 = w3 at q3 h3 ⊢
  exact ⟨h3, q3⟩
theorem sizeLink : (Try.prog.info? 32).map (·.size) = some 3 := by kernel_rfl
theorem filter_take {r : List ByteArray} {k : Nat} {x : ByteArray} {f : ByteArray → Bool} (h : r[k]? = some x) : (r.take (k + 1)).filter f = (r.take k).filter f ++ (if f x then [x] else []) := by
  rw [takeSucc h, List.filter_append]
  congr 1
  cases hf : f x <;> simp [hf]
set_option maxHeartbeats 8000000 in
theorem link_c (F : Nat → Prop) (g : Nat) (s : Lk) (r : List ByteArray) (w : World) (h : PgAt F g s r w) (hn : r.length ≤ 4398046511104) :
    Calls Try.prog 14 #[.pointer (some ⟨g, 0, none⟩)] w fun e w' => ∃ vd u vp, e = .returned (.agg #[vd, u, vp]) ∧ OwnF F txL 1 9 w' vd s.d ∧ OwnF (fun b => w.heap.size + 1 ≤ b) txL 1 9 w' u s.w ∧ OwnF F paL 2 56 w' vp s.p ∧ (∀ k, vd.ownBlock = some k → k < w.heap.size) ∧ (∀ k, vp.ownBlock = some k → k < w.heap.size) ∧ Below w.heap.size w w' := by
  obtain ⟨h0, vd, vw, vp, bd, bw, bp, h1⟩ := h
  obtain ⟨Z, hZ⟩ : ∃ Z, Z = Obj.cells #[.slice none 0 0, .slice none 0 0, .slice none 0 0] 32 := ⟨_, rfl⟩
  obtain ⟨w1, hw1⟩ : ∃ w1, w1 = w.alloc Z := ⟨_, rfl⟩
  have hb1 : Below w.heap.size w w1 := by rw [hw1]; exact (Below.refl _ w).alloc (Nat.le_refl _) Z
  have hs1 : w1.heap.size = w.heap.size + 1 := by rw [hw1]; simp
  have hz1 : w1.heap[w.heap.size]? = some (.cells #[.slice none 0 0, .slice none 0 0, .slice none 0 0] 32 (0, 0)) := by rw [hw1, heap_alloc_new, hZ]
  have h2 := h1.on hb1
  obtain ⟨ao, cap, ev, _⟩ := h2.ow.form
  obtain ⟨n, hnn⟩ : ∃ n, n = r.length := ⟨_, rfl⟩
  rw [← hnn] at ev hn
  subst ev
  obtain ⟨ad, cd, ed, _⟩ := h2.od.form
  obtain ⟨ld, hld⟩ : ∃ l, l = s.d.length := ⟨_, rfl⟩
  rw [← hld] at ed
  subst ed
  obtain ⟨ap, cp, ep, _⟩ := h2.op.form
  obtain ⟨lp, hlp⟩ : ∃ l, l = s.p.length := ⟨_, rfl⟩
  rw [← hlp] at ep
  subst ep
  have c1 := h2.c1
  have HRW : Hid (r.filter (isIn s.w) = s.w) := h0.1
  have HN := hidK hnn
  have HX := hidK h2
  have HB1 := hidK hb1
  have HS1 := hidK hs1
  have HZ1 := hidK hz1
  have HLT : Hid ((∀ k, (Value.slice ad ld cd).ownBlock = some k → k < w.heap.size) ∧ ∀ k, (Value.slice ap lp cp).ownBlock = some k → k < w.heap.size) := ⟨h1.od.lt, h1.op.lt⟩
  clear h0 h1 h2 hnn hb1 hs1 hz1 hld hlp
  subst hZ
  go_enter Try.func14, Try.ntmps14
  go_upto_region 1 with fail
  rw [← hw1]
  clear hw1
  go_wp2
  clear c1
  go_loopw [3, 11] (fun o i wx => ∃ k : Nat, i = .int .i64 k ∧ k ≤ n ∧ OwnF (fun b => w1.heap.size ≤ b) txL 1 9 wx o ((r.take k).filter (isIn s.w)) ∧ Below w1.heap.size w1 wx) (fun _ i _ => n - (intOf i).toNat)
  case atStart => exact ⟨0, rfl, Nat.zero_le _, OwnF.nil, Below.refl _ _⟩
  case round =>
    obtain ⟨k, rfl, hkn, ho, hB⟩ := hrel
    have HO := hidK ho
    have HB0 := hidK hB
    clear ho
    by_cases hk : k < n
    · have kI : (k : Int) < (n : Int) := by omega
      have k0 : (0 : Int) ≤ (k : Int) := by omega
      have kw : IntKind.i64.wrap ((k : Int) + 1) = (k : Int) + 1 := by rw [IntKind.wrap_i64]; omega
      obtain ⟨x, hx⟩ : ∃ x, r[k]? = some x := ⟨_, List.getElem?_eq_getElem (by have := HN.out; omega)⟩
      have hX := HX.out.on hB
      obtain ⟨b1, o1, p1, e1, d0⟩ := (OwnF.row elT hX.ow).tx hx
      injection e1 with e1 e1b e1c
      subst e1
      have c4 := hX.c4
      have HH := hidK (hasS_c bw s.w x wr hX.sw)
      have HT : Hid ((r.take (k + 1)).filter (isIn s.w) = (r.take k).filter (isIn s.w) ++ (if isIn s.w x then [x] else [])) := filter_take hx
      have HLE : Hid (((r.take k).filter (isIn s.w)).length ≤ k) := Nat.le_trans (List.length_filter_le _ _) (by rw [List.length_take]; omega)
      clear hx hX e1b e1c hB
      cases hi : isIn s.w x with
      | true =>
        rw [hi] at HH HT
        clear hi
        go_wp2_with (first
          | (go_at_call 22; refine HH.out.mono ?_; rintro e w2 ⟨rfl, hb2⟩; have HB2 := hidK hb2; clear hb2)
          | (refine wpG_one elT rfl (.tmp 21) (.tmp 23) rfl _ ((r.take k).filter (isIn s.w)) x #[.string x] rfl rfl rfl (HO.out.on HB2.out) (txL_one x) (by have := HLE.out; omega) (fun b hb => Nat.le_trans HB0.out.size (Nat.le_trans HB2.out.size hb)) ?_; intro v4 w4 o4 k4 l4; have HO4 := hidK o4; have HK4 := hidK k4; clear o4 k4 l4))
        go_roundw
        case rel => exact ⟨k + 1, by go_num, by omega, by rw [HT.out]; exact HO4.out, (HB0.out.trans (HB2.out.mono HB0.out.size)).trans (HK4.out.below (fun b hb => HO.out.2 b hb) (Nat.le_trans HB0.out.size HB2.out.size))⟩
        case measure => simp [intOf]; omega
      | false =>
        rw [hi] at HH HT
        clear hi
        go_wp2_with (go_at_call 22; refine HH.out.mono ?_; rintro e w2 ⟨rfl, hb2⟩; have HB2 := hidK hb2; clear hb2)
        go_roundw
        case rel => exact ⟨k + 1, by go_num, by omega, by rw [HT.out]; simpa using HO.out.on HB2.out, HB0.out.trans (HB2.out.mono HB0.out.size)⟩
        case measure => simp [intOf]; omega
    · obtain rfl : k = n := by omega
      have hO : OwnF (fun b => w1.heap.size ≤ b) txL 1 9 wr u3 s.w := by
        have := HO.out
        rw [HN.out, List.take_length, HRW.out] at this
        exact this
      obtain ⟨a3, p3, e3, _⟩ := hO.form
      obtain ⟨l3, hl3⟩ : ∃ l, l = s.w.length := ⟨_, rfl⟩
      rw [← hl3] at e3
      subst e3
      have hX := HX.out.on hB
      have d0 := hX.c0
      have d2 := hX.c2
      have hz := hkeepK hB HZ1.out
      have z0 := cell_rowK hz 0 _ rfl
      have z1 := cell_rowK hz 1 _ rfl
      have z2 := cell_rowK hz 2 _ rfl
      have f0 := Lib.frozen_of_heap hz 0
      have f1 := Lib.frozen_of_heap hz 1
      have f2 := Lib.frozen_of_heap hz 2
      have HX2 := hidK hX
      have HO2 := hidK hO
      have HZ := hidK hz
      clear hX hO hz hl3 HO
      go_wp2
      go_region
      all_goals
        obtain ⟨g7, k7⟩ := three_set (w := wr) HZ.out (.slice ad ld cd) (.slice a3 l3 p3) (.slice ap lp cp)
        generalize ((wr.setCell ⟨w.heap.size, 0, none⟩ (.slice ad ld cd)).setCell ⟨w.heap.size, 1, none⟩ (.slice a3 l3 p3)).setCell ⟨w.heap.size, 2, none⟩ (.slice ap lp cp) = W7 at g7 k7 ⊢
        have HG7 := hidK g7
        have HK7 := hidK k7
        clear g7 k7 z0 z1 z2 f0 f1 f2 d0 d2
        go_wp2
        refine bodyPost_ret (results_cell_row rfl _ _ w.heap.size _ _ _ _ rfl HG7.out Try.underlying32 rfl sizeLink) rfl ?_
        have hk : ∀ j, j ≠ w.heap.size → j < wr.heap.size → W7.drew.heap[j]? = wr.heap[j]? := fun j hj hl => HK7.out.block j hj hl
        have hs := HS1.out
        refine ⟨_, _, _, rfl, HX2.out.od.keep fun j hj => hk j ?_ (HX2.out.od.lt j hj), (HO2.out.keep fun j hj => hk j ?_ (HO2.out.lt j hj)).weak fun j hj => ?_, HX2.out.op.keep fun j hj => hk j ?_ (HX2.out.op.lt j hj), HLT.out.1, HLT.out.2, ?_⟩
        · have := HLT.out.1 j hj; omega
        · have := HO2.out.2 j hj; omega
        · omega
        · have := HLT.out.2 j hj; omega
        · have hb := HB1.out.trans (HB0.out.mono (by omega))
          exact (hb.trans (HK7.out.below (Nat.le_refl _) hb.size)).drew
end Go.Proofs.Ytnnpdomfkedhpaa
