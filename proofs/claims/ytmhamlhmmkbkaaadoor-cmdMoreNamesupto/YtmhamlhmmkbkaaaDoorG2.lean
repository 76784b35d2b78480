
-- CmdMoreNames' walk, over any Decode that answers so.
import Derived.Test.YtmhamlhmmkbkaaaDoorG0
import Derived.Great.BuildSlice
import Derived.Deep.Cut
namespace Go.Proofs.YtmhamlhmmkbkaaaDoor
open Go.ChangeShapes Go.WideShapes Go.ChangeAt Go.RowKit
set_option linter.unusedVariables false
set_option maxRecDepth 100000
set_option linter.unusedSimpArgs false
theorem own_oneT {B : Nat} {w : World} {v : Value} {x : ByteArray} (h : OwnT B w v [x]) : ∃ g k, v = .slice (some ⟨g, 0, none⟩) 1 k ∧ w.cell? ⟨g, 0, none⟩ = some (.string x) := by
  obtain ⟨b, off, cap, e, hc⟩ := RowG.tx (k := 0) (OwnT.row h) rfl
  rcases h.2 with ⟨h1, h2⟩ | ⟨g, cap', cur, h1, _⟩
  · simp at h2
  · rw [h1] at e
    injection e with e1 e2 e3
    injection e1 with e1
    injection e1 with e4 e5
    subst e4; subst e5
    exact ⟨g, cap', h1, hc⟩
/-- an own row's slice: nil, or from a block's beginning -/
theorem own_formT {B : Nat} {w : World} {v : Value} {L : List ByteArray} (h : OwnT B w v L) : (v = .slice none 0 0 ∧ L = []) ∨ ∃ g cap, v = .slice (some ⟨g, 0, none⟩) L.length cap ∧ L.length ≤ cap ∧ cap ≤ maxLen := by
  obtain ⟨ao, c, e, h1, h2⟩ := RowG.form (OwnT.row h)
  rcases h.2 with ⟨h1', h2'⟩ | ⟨g, cap', cur, h1', _⟩
  · exact .inl ⟨h1', List.eq_nil_of_length_eq_zero h2'⟩
  · right
    rw [h1'] at e
    injection e with e1 e2 e3
    subst e1; subst e3
    exact ⟨g, cap', h1', h1, h2⟩
theorem rowT_drop {w : World} {b cap n : Nat} {L : List ByteArray} (h : RowT w (.slice (some ⟨b, 0, none⟩) L.length cap) L) (hn : n ≤ L.length) : RowT w (.slice (some ⟨b, n, none⟩) (L.length - n) (cap - n)) (L.drop n) := by
  obtain ⟨ao, c, e, h1, h2, h3, h4⟩ := h
  injection e with e1 e2 e3
  subst e1; subst e3
  have hl : (L.drop n).length = L.length - n := List.length_drop
  refine ⟨some ⟨b, n, none⟩, cap - n, by rw [hl], by omega, by omega, by simp, ?_⟩
  intro hp
  obtain ⟨b', off, e, hc⟩ := h4 (by rw [hl] at hp; omega)
  injection e with e
  injection e with e4 e5
  subst e4; subst e5
  refine ⟨b, n, rfl, fun j u hu => ?_⟩
  have e5 : (L.drop n).flatMap txL = (L.flatMap txL).drop n := by have := flatG_drop txL 1 txL_len L n; rw [Nat.mul_one] at this; exact this.symm
  rw [e5, List.getElem?_drop] at hu
  have := hc (n + j) u hu
  rw [Nat.zero_add] at this
  exact this
set_option maxHeartbeats 8000000 in
theorem more_no (HD : DecodeOkT 8) (v0 v1 : Value) (L : List ByteArray) (w : World) (hTab : TabU w) (h0 : RowT w v0 L) (hl : L.length ≤ 1048576) (ht : totT L ≤ 1048576) (x : ByteArray) (n : Int) (hd : decC L = .inl (x, n)) :
    Calls Tryd.prog 5 #[v0, v1] w fun e w' => e = .returned (.bool true) ∧ Below w.heap.size w w' := by
  have hn0 : n ≠ 0 := dec_e hd
  have hz : (n == 0) = false := by simp [hn0]
  have H1 : Hid (Calls Tryd.prog 8 #[.slice (some ⟨w.heap.size, 0, none⟩) 4 4] (w.alloc (.cells #[.string ⟨#[97, 114]⟩, .string ⟨#[116]⟩, .string ⟨#[97]⟩, .string ⟨#[45, 110]⟩] 9)) fun e w' => ∃ u, e = .returned (.tuple #[.agg #[.int .i64 0, .int .u8 116, .bool false, .bool false, .bool false, .bool false, .bool false, .bool false, .bool false, .int .i64 0, .int .i64 0, .string ⟨#[]⟩, .string ⟨#[97]⟩, u], .string ⟨#[]⟩, .int .i64 0]) ∧ OwnT (w.alloc (.cells #[.string ⟨#[97, 114]⟩, .string ⟨#[116]⟩, .string ⟨#[97]⟩, .string ⟨#[45, 110]⟩] 9)).heap.size w' u [⟨#[45, 110]⟩] ∧ Below (w.alloc (.cells #[.string ⟨#[97, 114]⟩, .string ⟨#[116]⟩, .string ⟨#[97]⟩, .string ⟨#[45, 110]⟩] 9)).heap.size (w.alloc (.cells #[.string ⟨#[97, 114]⟩, .string ⟨#[116]⟩, .string ⟨#[97]⟩, .string ⟨#[45, 110]⟩] 9)) w') :=
    DecodeOkT.yes HD (hTab.on (bupK (Below.refl _ _) _)) (rowT_new [⟨#[97, 114]⟩, ⟨#[116]⟩, ⟨#[97]⟩, ⟨#[45, 110]⟩] _ _ (heap_alloc_new w _) (by simp)) (by simp) (by decide) probe2
  have hB0 : Below w.heap.size w (w.alloc (.cells #[.string ⟨#[97, 114]⟩, .string ⟨#[116]⟩, .string ⟨#[97]⟩, .string ⟨#[45, 110]⟩] 9)) := bupK (Below.refl _ _) _
  have HA : Hid (∀ W, Below w.heap.size w W → Calls Tryd.prog 8 #[v0] W fun e w' => ∃ u, e = .returned (.tuple #[.agg #[.int .i64 0, .int .u8 0, .bool false, .bool false, .bool false, .bool false, .bool false, .bool false, .bool false, .int .i64 0, .int .i64 0, .string ⟨#[]⟩, .string ⟨#[]⟩, u], .string x, .int .i64 n]) ∧ OwnT W.heap.size w' u [] ∧ Below W.heap.size W w') := fun W hb => DecodeOkT.no HD (hTab.on hb) (h0.on hb) (by omega) (by omega) hd
  clear HD h0 hd hn0
  go_enter Tryd.func5, Tryd.ntmps5
  go_upto_region 2 with (first
    | (go_at_call 8; refine H1.out.mono ?_; rintro e w1 ⟨u1, rfl, o1, b1⟩; obtain ⟨g1, k1, rfl, c1⟩ := own_oneT o1)
    | (refine wpList_store_kz rfl rfl _ _ _ rfl w1.heap.size 0 (.agg #[.int .i64 0, .int .u8 116, .bool false, .bool false, .bool false, .bool false, .bool false, .bool false, .bool false, .int .i64 0, .int .i64 0, .string ⟨#[]⟩, .string ⟨#[97]⟩, .slice (some ⟨g1, 0, none⟩) 1 k1]) rfl rfl _ _ #[.int .i64 0, .int .u8 116, .bool false, .bool false, .bool false, .bool false, .bool false, .bool false, .bool false, .int .i64 0, .int .i64 0, .string ⟨#[]⟩, .string ⟨#[97]⟩, .slice (some ⟨g1, 0, none⟩) 1 k1] (heap_alloc_new _ _) (by kernel_rfl) rfl rfl rfl ?_; intro W2 S2 q2; have b2 := q2.belowN (bupK (Below.refl _ w1) _) (Nat.le_refl _) (Nat.le_refl _); clear q2))
  have hB2 := bel3K (bel3K hB0 b1) b2
  have c2 := cell_onG c1 b2
  have x0 := cell_rowK S2 0 _ rfl
  have x1 := cell_rowK S2 1 _ rfl
  have x2 := cell_rowK S2 2 _ rfl
  have x3 := cell_rowK S2 3 _ rfl
  have x4 := cell_rowK S2 4 _ rfl
  have x5 := cell_rowK S2 5 _ rfl
  have x6 := cell_rowK S2 6 _ rfl
  have x7 := cell_rowK S2 7 _ rfl
  have x8 := cell_rowK S2 8 _ rfl
  have x9 := cell_rowK S2 9 _ rfl
  have x10 := cell_rowK S2 10 _ rfl
  have x11 := cell_rowK S2 11 _ rfl
  have x12 := cell_rowK S2 12 _ rfl
  have x13 := cell_rowK S2 13 _ rfl
  clear S2 b2 b1 hB0 H1 o1 c1
  go_upto_region 4 with (go_at_call 9; refine (num_c _ _).mono ?_; rintro e wn ⟨rfl, hwn⟩; rw [hwn]; clear hwn)
  clear x0 x1 x2 x3 x4 x5 x6 x7 x8 x9 x10 x11 x12 x13 c2
  go_upto_region 5 with (first
    | (go_at_call 8; refine (HA.out _ hB2).mono ?_; rintro e w3 ⟨u3, rfl, o3, b3⟩; obtain ⟨a3, k3, rfl⟩ := OwnT.form o3)
    | (refine wpList_store_kz rfl rfl _ _ _ rfl w3.heap.size 0 (.agg #[.int .i64 0, .int .u8 0, .bool false, .bool false, .bool false, .bool false, .bool false, .bool false, .bool false, .int .i64 0, .int .i64 0, .string ⟨#[]⟩, .string ⟨#[]⟩, .slice a3 0 k3]) rfl rfl _ _ #[.int .i64 0, .int .u8 0, .bool false, .bool false, .bool false, .bool false, .bool false, .bool false, .bool false, .int .i64 0, .int .i64 0, .string ⟨#[]⟩, .string ⟨#[]⟩, .slice a3 0 k3] (heap_alloc_new _ _) (by kernel_rfl) rfl rfl rfl ?_; intro W4 S4 q4; have b4 := q4.belowN (bupK (Below.refl _ w3) _) (Nat.le_refl _) (Nat.le_refl _); clear q4))
  have hB4 := bel3K (bel3K hB2 b3) b4
  clear S4 b4 b3 HA o3 hB2
  go_wp2_with (go_at_call 9; refine (num_c _ _).mono ?_; rintro e wn ⟨rfl, hwn⟩; rw [hwn]; clear hwn)
  go_ret
  exact ⟨rfl, hB4⟩
set_option maxHeartbeats 8000000 in
theorem more_yes (HD : DecodeOkT 8) (v0 v1 : Value) (L M : List ByteArray) (w : World) (hTab : TabU w) (h0 : RowT w v0 L) (h1 : RowT w v1 M) (hl : L.length ≤ 1048576) (ht : totT L ≤ 1048576) (hm : M.length ≤ 1048576) (hmt : totT M ≤ 1048576) (c : Cm) (hd : decC L = .inr c) :
    Calls Tryd.prog 5 #[v0, v1] w fun e w' => e = .returned (.bool true) ∧ Below w.heap.size w w' := by
  have hmo := more (m := M) hd
  obtain ⟨z1, z2⟩ := dec_size hd
  obtain ⟨am, cm, qm, _, _⟩ := h1.form
  subst qm
  have H1 : Hid (Calls Tryd.prog 8 #[.slice (some ⟨w.heap.size, 0, none⟩) 4 4] (w.alloc (.cells #[.string ⟨#[97, 114]⟩, .string ⟨#[116]⟩, .string ⟨#[97]⟩, .string ⟨#[45, 110]⟩] 9)) fun e w' => ∃ u, e = .returned (.tuple #[.agg #[.int .i64 0, .int .u8 116, .bool false, .bool false, .bool false, .bool false, .bool false, .bool false, .bool false, .int .i64 0, .int .i64 0, .string ⟨#[]⟩, .string ⟨#[97]⟩, u], .string ⟨#[]⟩, .int .i64 0]) ∧ OwnT (w.alloc (.cells #[.string ⟨#[97, 114]⟩, .string ⟨#[116]⟩, .string ⟨#[97]⟩, .string ⟨#[45, 110]⟩] 9)).heap.size w' u [⟨#[45, 110]⟩] ∧ Below (w.alloc (.cells #[.string ⟨#[97, 114]⟩, .string ⟨#[116]⟩, .string ⟨#[97]⟩, .string ⟨#[45, 110]⟩] 9)).heap.size (w.alloc (.cells #[.string ⟨#[97, 114]⟩, .string ⟨#[116]⟩, .string ⟨#[97]⟩, .string ⟨#[45, 110]⟩] 9)) w') :=
    DecodeOkT.yes HD (hTab.on (bupK (Below.refl _ _) _)) (rowT_new [⟨#[97, 114]⟩, ⟨#[116]⟩, ⟨#[97]⟩, ⟨#[45, 110]⟩] _ _ (heap_alloc_new w _) (by simp)) (by simp) (by decide) probe2
  have hB0 : Below w.heap.size w (w.alloc (.cells #[.string ⟨#[97, 114]⟩, .string ⟨#[116]⟩, .string ⟨#[97]⟩, .string ⟨#[45, 110]⟩] 9)) := bupK (Below.refl _ _) _
  have HA : Hid (∀ W, Below w.heap.size w W → Calls Tryd.prog 8 #[v0] W fun e w' => ∃ u, e = .returned (.tuple #[.agg #[.int .i64 c.prog, .int .u8 (c.op.toNat : Int), .bool c.vb, .bool c.up, .bool c.qu, .bool c.det, .bool c.dat, .bool c.bare, .bool c.thin, .int .i64 c.kind, .int .i64 c.wh, .string c.anc, .string c.arc, u], .string ⟨#[]⟩, .int .i64 0]) ∧ OwnT W.heap.size w' u c.nms ∧ Below W.heap.size W w') := fun W hb => DecodeOkT.yes HD (hTab.on hb) (h0.on hb) (by omega) (by omega) hd
  have HB : Hid (∀ W v, Below w.heap.size w W → RowT W v (L ++ M) → Calls Tryd.prog 8 #[v] W fun e w' => ∃ u, e = .returned (.tuple #[.agg #[.int .i64 c.prog, .int .u8 (c.op.toNat : Int), .bool c.vb, .bool c.up, .bool c.qu, .bool c.det, .bool c.dat, .bool c.bare, .bool c.thin, .int .i64 c.kind, .int .i64 c.wh, .string c.anc, .string c.arc, u], .string ⟨#[]⟩, .int .i64 0]) ∧ OwnT W.heap.size w' u (c.nms ++ M) ∧ Below W.heap.size W w') := fun W v hbT hv => DecodeOkT.yes HD (hTab.on hbT) hv (by rw [List.length_append]; omega) (by rw [totT_app]; omega) hmo
  have HS : Hid (∀ W u v, RowT W u c.nms → RowT W v c.nms → Calls Tryd.prog 11 #[.agg #[.int .i64 c.prog, .int .u8 (c.op.toNat : Int), .bool c.vb, .bool c.up, .bool c.qu, .bool c.det, .bool c.dat, .bool c.bare, .bool c.thin, .int .i64 c.kind, .int .i64 c.wh, .string c.anc, .string c.arc, u], .agg #[.int .i64 c.prog, .int .u8 (c.op.toNat : Int), .bool c.vb, .bool c.up, .bool c.qu, .bool c.det, .bool c.dat, .bool c.bare, .bool c.thin, .int .i64 c.kind, .int .i64 c.wh, .string c.anc, .string c.arc, v]] W fun e w' => e = .returned (.bool true) ∧ Below W.heap.size W w') := fun W u v hu hv => same15_c c u v W hu hv (by omega)
  have HSW : Hid (∀ W u, RowT W u M → RowT W (.slice am M.length cm) M → Calls Tryd.prog 10 #[u, .slice am M.length cm] W fun e w' => e = .returned (.bool true) ∧ Below W.heap.size W w') := fun W u hu hv => sameW_c u _ M W hu hv (by omega)
  have HV := hidK h0
  have HV1 := hidK h1
  have HLN := hidK (And.intro hl hm)
  have hw1 : IntKind.i64.wrap ((c.nms.length : Int) + (M.length : Int)) = (c.nms.length : Int) + (M.length : Int) := by rw [IntKind.wrap_i64]; omega
  have hi1 : (0 : Int) ≤ (c.nms.length : Int) := by omega
  have hi2 : (c.nms.length : Int) ≤ (c.nms.length : Int) + (M.length : Int) := by omega
  have HLC := hidK (show c.nms.length ≤ 1048576 by omega)
  clear HD h0 h1 hd hmo z1 z2 hl ht hm hmt
  go_enter Tryd.func5, Tryd.ntmps5
  go_upto_region 2 with (first
    | (go_at_call 8; refine H1.out.mono ?_; rintro e w1 ⟨u1, rfl, o1, b1⟩; obtain ⟨g1, k1, rfl, c1⟩ := own_oneT o1)
    | (refine wpList_store_kz rfl rfl _ _ _ rfl w1.heap.size 0 (.agg #[.int .i64 0, .int .u8 116, .bool false, .bool false, .bool false, .bool false, .bool false, .bool false, .bool false, .int .i64 0, .int .i64 0, .string ⟨#[]⟩, .string ⟨#[97]⟩, .slice (some ⟨g1, 0, none⟩) 1 k1]) rfl rfl _ _ #[.int .i64 0, .int .u8 116, .bool false, .bool false, .bool false, .bool false, .bool false, .bool false, .bool false, .int .i64 0, .int .i64 0, .string ⟨#[]⟩, .string ⟨#[97]⟩, .slice (some ⟨g1, 0, none⟩) 1 k1] (heap_alloc_new _ _) (by kernel_rfl) rfl rfl rfl ?_; intro W2 S2 q2; have b2 := q2.belowN (bupK (Below.refl _ w1) _) (Nat.le_refl _) (Nat.le_refl _); clear q2))
  have hB2 := bel3K (bel3K hB0 b1) b2
  have c2 := cell_onG c1 b2
  have x0 := cell_rowK S2 0 _ rfl
  have x1 := cell_rowK S2 1 _ rfl
  have x2 := cell_rowK S2 2 _ rfl
  have x3 := cell_rowK S2 3 _ rfl
  have x4 := cell_rowK S2 4 _ rfl
  have x5 := cell_rowK S2 5 _ rfl
  have x6 := cell_rowK S2 6 _ rfl
  have x7 := cell_rowK S2 7 _ rfl
  have x8 := cell_rowK S2 8 _ rfl
  have x9 := cell_rowK S2 9 _ rfl
  have x10 := cell_rowK S2 10 _ rfl
  have x11 := cell_rowK S2 11 _ rfl
  have x12 := cell_rowK S2 12 _ rfl
  have x13 := cell_rowK S2 13 _ rfl
  clear S2 b2 b1 hB0 H1 o1 c1
  go_upto_region 4 with (go_at_call 9; refine (num_c _ _).mono ?_; rintro e wn ⟨rfl, hwn⟩; rw [hwn]; clear hwn)
  clear x0 x1 x2 x3 x4 x5 x6 x7 x8 x9 x10 x11 x12 x13 c2
  go_upto_region 5 with (first
    | (go_at_call 8; refine (HA.out _ hB2).mono ?_; rintro e w3 ⟨u3, rfl, o3, b3⟩; obtain ⟨a3, k3, rfl⟩ := OwnT.form o3)
    | (refine wpList_store_kz rfl rfl _ _ _ rfl w3.heap.size 0 (.agg #[.int .i64 c.prog, .int .u8 (c.op.toNat : Int), .bool c.vb, .bool c.up, .bool c.qu, .bool c.det, .bool c.dat, .bool c.bare, .bool c.thin, .int .i64 c.kind, .int .i64 c.wh, .string c.anc, .string c.arc, .slice a3 c.nms.length k3]) rfl rfl _ _ #[.int .i64 c.prog, .int .u8 (c.op.toNat : Int), .bool c.vb, .bool c.up, .bool c.qu, .bool c.det, .bool c.dat, .bool c.bare, .bool c.thin, .int .i64 c.kind, .int .i64 c.wh, .string c.anc, .string c.arc, .slice a3 c.nms.length k3] (heap_alloc_new _ _) (by kernel_rfl) rfl rfl rfl ?_; intro W4 S4 q4; have b4 := q4.belowN (bupK (Below.refl _ w3) _) (Nat.le_refl _) (Nat.le_refl _); clear q4))
  have hB4 := bel3K (bel3K hB2 b3) b4
  have r4 := (OwnT.row o3).on b4
  clear b4 b3 HA o3 hB2
  go_upto_region 8 with (go_at_call 9; refine (num_c _ _).mono ?_; rintro e wn ⟨rfl, hwn⟩; rw [hwn]; clear hwn)
  have o5 := ownT_nil W4.heap.size W4
  go_upto_region 9 with (refine wpT_all rfl (.tmp 48) (.tmp 49) rfl W4 W4.heap.size (.slice none 0 0) v0 [] L rfl rfl o5 (HV.out.on hB4) (by simp) (by have := HLN.out.1; omega) (Nat.le_refl _) (Below.refl _ _) ?_; intro v6 w6 o6 b6)
  rw [List.nil_append] at o6
  clear o5
  go_upto_region 10 with (refine wpT_all rfl (.tmp 51) (.tmp 52) rfl W4 W4.heap.size _ _ L M rfl rfl o6 (HV1.out.on (bel3K hB4 b6)) (by have := HLN.out.1; omega) (by have := HLN.out.2; omega) (Nat.le_refl _) b6 ?_; intro v7 w7 o7 b7)
  have r7 := r4.on b7
  have S7 := hkeepK b7 S4
  have hB7 := bel3K hB4 b7
  clear o6 b6 b7 r4 S4 hB4
  obtain ⟨N, hN⟩ : ∃ N, N = (c.nms ++ M).length := ⟨_, rfl⟩
  have hNI : (N : Int) = (c.nms.length : Int) + (M.length : Int) := by rw [hN, List.length_append]; omega
  have hNle : c.nms.length ≤ N := by rw [hN, List.length_append]; omega
  have hNl2 : N - c.nms.length = M.length := by rw [hN, List.length_append]; omega
  have HNN := hidK hN
  have HB2 : Hid (∀ W v, Below w.heap.size w W → RowT W v (L ++ M) → Calls Tryd.prog 8 #[v] W fun e w' => ∃ a k, e = .returned (.tuple #[.agg #[.int .i64 c.prog, .int .u8 (c.op.toNat : Int), .bool c.vb, .bool c.up, .bool c.qu, .bool c.det, .bool c.dat, .bool c.bare, .bool c.thin, .int .i64 c.kind, .int .i64 c.wh, .string c.anc, .string c.arc, .slice a N k], .string ⟨#[]⟩, .int .i64 0]) ∧ OwnT W.heap.size w' (.slice a N k) (c.nms ++ M) ∧ Below W.heap.size W w') := fun W v hbT hv => by
    refine (HB.out W v hbT hv).mono ?_
    rintro e w' ⟨u, he, ho, hb⟩
    obtain ⟨a, k, rfl⟩ := OwnT.form ho
    rw [← hN] at he ho
    exact ⟨a, k, he, ho, hb⟩
  clear hN HB
  go_upto_region 11 with (first
    | (go_at_call 8; refine (HB2.out _ _ hB7 (OwnT.row o7)).mono ?_; rintro e w8 ⟨a8, k8, rfl, o8, b8⟩)
    | (refine wpList_store_kz rfl rfl _ _ _ rfl w8.heap.size 0 (.agg #[.int .i64 c.prog, .int .u8 (c.op.toNat : Int), .bool c.vb, .bool c.up, .bool c.qu, .bool c.det, .bool c.dat, .bool c.bare, .bool c.thin, .int .i64 c.kind, .int .i64 c.wh, .string c.anc, .string c.arc, .slice a8 N k8]) rfl rfl _ _ #[.int .i64 c.prog, .int .u8 (c.op.toNat : Int), .bool c.vb, .bool c.up, .bool c.qu, .bool c.det, .bool c.dat, .bool c.bare, .bool c.thin, .int .i64 c.kind, .int .i64 c.wh, .string c.anc, .string c.arc, .slice a8 N k8] (heap_alloc_new _ _) (by kernel_rfl) rfl rfl rfl ?_; intro W9 S9 q9; have b9 := q9.belowN (bupK (Below.refl _ w8) _) (Nat.le_refl _) (Nat.le_refl _); clear q9))
  have hB9 := bel3K (bel3K hB7 b8) b9
  have T9 := hkeepK b9 (hkeepK b8 S7)
  have t9 := (r7.on b8).on b9
  have r9 := OwnT.on o8 b9
  have s9 := HV1.out.on hB9
  have x13 := cell_rowK T9 13 _ rfl
  have y13 := cell_rowK S9 13 _ rfl
  have HW8 := hidK (show w.heap.size ≤ w8.heap.size from Nat.le_trans hB7.size b8.size)
  have hne : w3.heap.size ≠ w8.heap.size := Nat.ne_of_lt (Nat.lt_of_lt_of_le (Array.getElem?_eq_some_iff.1 S7).1 b8.size)
  have t8 := r7.on b8
  have b89 := b9
  clear b8 b9 o7 r7 S7 hB7 HB2 t9
  rcases own_formT r9 with ⟨q9, qe⟩ | ⟨g9, cap9, q9, qc, qm⟩
  · have hc0 : c.nms = [] := (List.append_eq_nil_iff.1 qe).1
    have hm0 : M = [] := (List.append_eq_nil_iff.1 qe).2
    injection q9 with q1 q2 q3
    subst q1
    subst q3
    have hr : RowT W9 (.slice none 0 0) M := by rw [hm0]; exact OwnT.row (ownT_nil 0 W9)
    subst q2
    have hcl0 : c.nms.length = 0 := by rw [hc0]; rfl
    have hml0 : M.length = 0 := by rw [hm0]; rfl
    have t8b : RowT w8 (.slice a3 0 k3) c.nms := by have h5 := t8; rw [hcl0] at h5; exact h5
    have hp : ∀ W, RowT W (.slice none 0 0) c.nms := fun W => by rw [hc0]; exact OwnT.row (ownT_nil 0 W)
    have HSW0 : Hid (∀ W u, RowT W u M → RowT W (.slice am 0 cm) M → Calls Tryd.prog 10 #[u, .slice am 0 cm] W fun e w' => e = .returned (.bool true) ∧ Below W.heap.size W w') := by have h5 := HSW.out; rw [hml0] at h5; exact h5
    have s9b : RowT W9 (.slice am 0 cm) M := by have h5 := s9; rw [hml0] at h5; exact h5
    have S9b : W9.heap[w8.heap.size]? = some (.cells #[.int .i64 c.prog, .int .u8 (c.op.toNat : Int), .bool c.vb, .bool c.up, .bool c.qu, .bool c.det, .bool c.dat, .bool c.bare, .bool c.thin, .int .i64 c.kind, .int .i64 c.wh, .string c.anc, .string c.arc, .slice none 0 0] 27 (0, 0)) := S9
    have T9b : W9.heap[w3.heap.size]? = some (.cells #[.int .i64 c.prog, .int .u8 (c.op.toNat : Int), .bool c.vb, .bool c.up, .bool c.qu, .bool c.det, .bool c.dat, .bool c.bare, .bool c.thin, .int .i64 c.kind, .int .i64 c.wh, .string c.anc, .string c.arc, .slice a3 0 k3] 27 (0, 0)) := by have h5 := T9; rw [hcl0] at h5; exact h5
    have HP := hidK hp
    clear hc0 hm0 qe r9 o8 t8 s9 S9 T9 hp HSW x13 y13 hNI hNle hNl2 hw1 hi1 hi2 HNN
    have x13 := cell_rowK T9b 13 _ rfl
    have y13 := cell_rowK S9b 13 _ rfl
    go_upto_region 12 with fail
    go_upto_region 14 with (go_at_call 9; refine (num_c _ _).mono ?_; rintro e wn ⟨rfl, hwn⟩; rw [hwn]; clear hwn)
    go_upto_region 15 with (go_at_call 10; refine (HSW0.out _ _ hr s9b).mono ?_; rintro e w10 ⟨rfl, b10⟩)
    have hB10 := bel3K hB9 b10
    have T10 := hkeepK b10 T9b
    have S10 := hkeepK b10 S9b
    have b810 := bel3K b89 b10
    clear x13 y13 T9b S9b hr s9b b10 hB9 HSW0 b89
    have y13 := cell_rowK S10 13 _ rfl
    go_upto_region 16 with (refine wpList_store_kz rfl rfl _ _ _ rfl w8.heap.size 13 (.slice none 0 0) rfl rfl _ _ #[.int .i64 c.prog, .int .u8 (c.op.toNat : Int), .bool c.vb, .bool c.up, .bool c.qu, .bool c.det, .bool c.dat, .bool c.bare, .bool c.thin, .int .i64 c.kind, .int .i64 c.wh, .string c.anc, .string c.arc, .slice none 0 0] S10 (by kernel_rfl) rfl rfl rfl ?_; intro W11 S11 q11)
    have T11 := q11.keeps hne T10
    have b811 := q11.belowN b810 (Nat.le_refl _) (Nat.le_refl _)
    have t11 := t8b.on b811
    have hB11 : Below w.heap.size w W11 := q11.belowN hB10 HW8.out (Nat.le_refl _)
    clear y13 S10 T10 q11 b810 b811 t8b hB10
    have x0 := cell_rowK T11 0 _ rfl
    have x1 := cell_rowK T11 1 _ rfl
    have x2 := cell_rowK T11 2 _ rfl
    have x3 := cell_rowK T11 3 _ rfl
    have x4 := cell_rowK T11 4 _ rfl
    have x5 := cell_rowK T11 5 _ rfl
    have x6 := cell_rowK T11 6 _ rfl
    have x7 := cell_rowK T11 7 _ rfl
    have x8 := cell_rowK T11 8 _ rfl
    have x9 := cell_rowK T11 9 _ rfl
    have x10 := cell_rowK T11 10 _ rfl
    have x11 := cell_rowK T11 11 _ rfl
    have x12 := cell_rowK T11 12 _ rfl
    have x13 := cell_rowK T11 13 _ rfl
    have y0 := cell_rowK S11 0 _ rfl
    have y1 := cell_rowK S11 1 _ rfl
    have y2 := cell_rowK S11 2 _ rfl
    have y3 := cell_rowK S11 3 _ rfl
    have y4 := cell_rowK S11 4 _ rfl
    have y5 := cell_rowK S11 5 _ rfl
    have y6 := cell_rowK S11 6 _ rfl
    have y7 := cell_rowK S11 7 _ rfl
    have y8 := cell_rowK S11 8 _ rfl
    have y9 := cell_rowK S11 9 _ rfl
    have y10 := cell_rowK S11 10 _ rfl
    have y11 := cell_rowK S11 11 _ rfl
    have y12 := cell_rowK S11 12 _ rfl
    have y13 := cell_rowK S11 13 _ rfl
    clear S11 T11
    go_wp2_with (go_at_call 11; refine (HS.out _ _ _ t11 (HP.out _)).mono ?_; rintro e w12 ⟨rfl, b12⟩)
    all_goals
      go_ret
      exact ⟨by simp, bel3K hB11 b12⟩
  · injection q9 with q1 q2 q3
    subst q1
    subst q3
    have hNk : (N : Int) ≤ (k8 : Int) := by have := HNN.out; omega
    have hNk2 : N ≤ k8 := by have := HNN.out; omega
    have hr : RowT W9 (.slice (if k8 = c.nms.length then some ⟨g9, 0, none⟩ else some ⟨g9, c.nms.length, none⟩) M.length (k8 - c.nms.length)) M := by
      have h5 := rowT_drop (n := c.nms.length) (by have h6 := OwnT.row r9; rw [HNN.out] at h6; exact h6) (by rw [List.length_append]; omega)
      rw [List.drop_left, List.length_append, Nat.add_sub_cancel_left] at h5
      by_cases hk : k8 = c.nms.length
      · rw [if_pos hk]
        have hm0 : M = [] := List.eq_nil_of_length_eq_zero (by have := HNN.out; rw [List.length_append] at this; omega)
        subst hm0
        exact ⟨some ⟨g9, 0, none⟩, k8 - c.nms.length, rfl, Nat.zero_le _, by unfold maxLen at *; omega, by simp, by simp⟩
      · rw [if_neg hk]; exact h5
    have hp : RowT w8 (.slice (some ⟨g9, 0, none⟩) c.nms.length k8) c.nms := by
      have h5 := rowT_take (n := c.nms.length) (by have h6 := OwnT.row o8; rw [HNN.out] at h6; exact h6) (by rw [List.length_append]; omega)
      rw [List.take_left] at h5
      exact h5
    have hi3 : (c.nms.length : Int) ≤ (N : Int) := by omega
    have hi4 : c.nms.length ≤ N := by omega
    clear q2 qc qm r9 o8
    go_upto_region 12 with fail
    go_upto_region 14 with (go_at_call 9; refine (num_c _ _).mono ?_; rintro e wn ⟨rfl, hwn⟩; rw [hwn]; clear hwn)
    go_upto_region 15 with (go_at_call 10; refine (HSW.out _ _ hr s9).mono ?_; rintro e w10 ⟨rfl, b10⟩)
    have hB10 := bel3K hB9 b10
    have T10 := hkeepK b10 T9
    have S10 := hkeepK b10 S9
    have b810 := bel3K b89 b10
    clear x13 y13 T9 S9 hr s9 b10 hB9 HSW b89
    have y13 := cell_rowK S10 13 _ rfl
    go_upto_region 16 with (refine wpList_store_kz rfl rfl _ _ _ rfl w8.heap.size 13 (.slice (some ⟨g9, 0, none⟩) c.nms.length k8) rfl rfl _ _ #[.int .i64 c.prog, .int .u8 (c.op.toNat : Int), .bool c.vb, .bool c.up, .bool c.qu, .bool c.det, .bool c.dat, .bool c.bare, .bool c.thin, .int .i64 c.kind, .int .i64 c.wh, .string c.anc, .string c.arc, .slice (some ⟨g9, 0, none⟩) c.nms.length k8] S10 (by kernel_rfl) rfl rfl rfl ?_; intro W11 S11 q11)
    have T11 := q11.keeps hne T10
    have b811 := q11.belowN b810 (Nat.le_refl _) (Nat.le_refl _)
    have t11 := t8.on b811
    have p11 := hp.on b811
    have hB11 : Below w.heap.size w W11 := q11.belowN hB10 HW8.out (Nat.le_refl _)
    clear y13 S10 T10 q11 b810 b811 t8 hp hB10
    have x0 := cell_rowK T11 0 _ rfl
    have x1 := cell_rowK T11 1 _ rfl
    have x2 := cell_rowK T11 2 _ rfl
    have x3 := cell_rowK T11 3 _ rfl
    have x4 := cell_rowK T11 4 _ rfl
    have x5 := cell_rowK T11 5 _ rfl
    have x6 := cell_rowK T11 6 _ rfl
    have x7 := cell_rowK T11 7 _ rfl
    have x8 := cell_rowK T11 8 _ rfl
    have x9 := cell_rowK T11 9 _ rfl
    have x10 := cell_rowK T11 10 _ rfl
    have x11 := cell_rowK T11 11 _ rfl
    have x12 := cell_rowK T11 12 _ rfl
    have x13 := cell_rowK T11 13 _ rfl
    have y0 := cell_rowK S11 0 _ rfl
    have y1 := cell_rowK S11 1 _ rfl
    have y2 := cell_rowK S11 2 _ rfl
    have y3 := cell_rowK S11 3 _ rfl
    have y4 := cell_rowK S11 4 _ rfl
    have y5 := cell_rowK S11 5 _ rfl
    have y6 := cell_rowK S11 6 _ rfl
    have y7 := cell_rowK S11 7 _ rfl
    have y8 := cell_rowK S11 8 _ rfl
    have y9 := cell_rowK S11 9 _ rfl
    have y10 := cell_rowK S11 10 _ rfl
    have y11 := cell_rowK S11 11 _ rfl
    have y12 := cell_rowK S11 12 _ rfl
    have y13 := cell_rowK S11 13 _ rfl
    clear S11 T11
    go_wp2_with (go_at_call 11; refine (HS.out _ _ _ t11 p11).mono ?_; rintro e w12 ⟨rfl, b12⟩)
    all_goals
      go_ret
      exact ⟨by simp, bel3K hB11 b12⟩
theorem cmdMore_w (HD : DecodeOkT 8) (v0 v1 : Value) (L M : List ByteArray) (w : World) (hTab : TabU w) (h0 : RowT w v0 L) (h1 : RowT w v1 M) (hl : L.length ≤ 1048576) (ht : totT L ≤ 1048576) (hm : M.length ≤ 1048576) (hmt : totT M ≤ 1048576) :
    Calls Tryd.prog 5 #[v0, v1] w fun e w' => e = .returned (.bool true) ∧ Below w.heap.size w w' := by
  cases hd : decC L with
  | inl x => obtain ⟨x, n⟩ := x; exact more_no HD v0 v1 L w hTab h0 hl ht x n hd
  | inr c => exact more_yes HD v0 v1 L M w hTab h0 h1 hl ht hm hmt c hd
end Go.Proofs.YtmhamlhmmkbkaaaDoor
