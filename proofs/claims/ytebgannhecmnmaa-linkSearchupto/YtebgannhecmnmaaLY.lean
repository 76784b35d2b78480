
-- library, libraries.
import Derived.Test.YtebgannhecmnmaaSS
import Derived.Test.YtebgannhecmnmaaSM
namespace Go.Proofs.Ytebgannhecmnmaa
open Go.ChangeShapes Go.WideShapes Go.ChangeAt Go.RowKit Go.MapKept
set_option linter.unusedVariables false
set_option maxRecDepth 100000
theorem five_set {w : World} {b : Nat} {c0 c1 c2 c3 c4 : Value} {t : TypeId} (h : w.heap[b]? = some (.cells #[c0, c1, c2, c3, c4] t (0, 0))) (v0 v1 v2 v3 v4 : Value) :
    (((((w.setCell ⟨b, 0, none⟩ v0).setCell ⟨b, 1, none⟩ v1).setCell ⟨b, 2, none⟩ v2).setCell ⟨b, 3, none⟩ v3).setCell ⟨b, 4, none⟩ v4).heap[b]? = some (.cells #[v0, v1, v2, v3, v4] t (0, 0)) ∧ Kq b w (((((w.setCell ⟨b, 0, none⟩ v0).setCell ⟨b, 1, none⟩ v1).setCell ⟨b, 2, none⟩ v2).setCell ⟨b, 3, none⟩ v3).setCell ⟨b, 4, none⟩ v4) := by
  obtain ⟨h3, q3⟩ : (((w.setCell ⟨b, 0, none⟩ v0).setCell ⟨b, 1, none⟩ v1).setCell ⟨b, 2, none⟩ v2).heap[b]? = some (.cells #[v0, v1, v2, c3, c4] t (0, 0)) ∧ Kq b w (((w.setCell ⟨b, 0, none⟩ v0).setCell ⟨b, 1, none⟩ v1).setCell ⟨b, 2, none⟩ v2) := by
    have q0 : Kq b w w := ⟨rfl, rfl, rfl, Nat.le_refl _, fun _ _ _ => rfl⟩
    have q1 := q0.trans (kq_set w b 0 v0)
    have h1 : (w.setCell ⟨b, 0, none⟩ v0).heap[b]? = some (.cells #[v0, c1, c2, c3, c4] t (0, 0)) := (blk_set h v0).trans rfl
    generalize w.setCell ⟨b, 0, none⟩ v0 = w1 at q1 h1 ⊢
    have q2 := q1.trans (kq_set w1 b 1 v1)
    have h2 : (w1.setCell ⟨b, 1, none⟩ v1).heap[b]? = some (.cells #[v0, v1, c2, c3, c4] t (0, 0)) := (blk_set h1 v1).trans rfl
    generalize w1.setCell ⟨b, 1, none⟩ v1 = w2 at q2 h2 ⊢
    exact ⟨(blk_set h2 v2).trans rfl, q2.trans (kq_set w2 b 2 v2)⟩
  generalize ((w.setCell ⟨b, 0, none⟩ v0).setCell ⟨b, 1, none⟩ v1).setCell ⟨b, 2, none⟩ v2 = w3 at h3 q3 ⊢
  have q4 := q3.trans (kq_set w3 b 3 v3)
  have h4 : (w3.setCell ⟨b, 3, none⟩ v3).heap[b]? = some (.cells #[v0, v1, v2, v3, c4] t (0, 0)) := (blk_set h3 v3).trans rfl
  generalize w3.setCell ⟨b, 3, none⟩ v3 = w4 at q4 h4 ⊢
  exact ⟨(blk_set h4 v4).trans rfl, q4.trans (kq_set w4 b 4 v4)⟩
theorem bel_set5 {w0 x : World} {q : Nat} {v0 v1 v2 v3 v4 : Value} (hb : Below w0.heap.size w0 x) (hq : w0.heap.size ≤ q) : Below w0.heap.size w0 (((((x.setCell ⟨q, 0, none⟩ v0).setCell ⟨q, 1, none⟩ v1).setCell ⟨q, 2, none⟩ v2).setCell ⟨q, 3, none⟩ v3).setCell ⟨q, 4, none⟩ v4) :=
  hb.trans (((((kq_set x q 0 v0).trans (kq_set _ q 1 v1)).trans (kq_set _ q 2 v2)).trans (kq_set _ q 3 v3)).trans (kq_set _ q 4 v4) |>.below hq hb.size)
/-- what keeps every row of a library's twin -/
def KeepL (w w' : World) : Prop := ∀ (k : Nat) (cs : Array Value) (t : TypeId), w.heap[k]? = some (.cells cs t (0, 0)) → t ≠ 37 → w'.heap[k]? = w.heap[k]?
theorem keepL_kq {w w' : World} {q : Nat} {cs : Array Value} (h : w.heap[q]? = some (.cells cs 37 (0, 0))) (hk : Kq q w w') : KeepL w w' := fun k _ _ hc ht => hk.block k (cells_typ hc h ht) (Array.getElem?_eq_some_iff.1 hc).1
/-- four lists of a library's twin -/
structure Lb4 (B : Nat) (w : World) (v1 v2 v3 v4 : Value) (L : Lb) : Prop where
  a : Tw nmL 1 3 B w v1 L.a (-7)
  n : Tw txL 1 9 B w v2 L.n slT
  f : TwLL B w v3 L.df
  g : TwLL B w v4 L.nd
theorem TwLL.keepL {B : Nat} {w w' : World} {v : Value} {LL : List (List ByteArray)} (h : TwLL B w v LL) (hk : KeepL w w') : TwLL B w' v LL := by
  obtain ⟨vs, h1, h2, h3⟩ := h
  refine ⟨vs, h1.keep fun k e => ?_, h2, fun i u l hu hl => (h3 i u l hu hl).keep fun k cs hc _ => hk k cs _ hc (by decide)⟩
  obtain ⟨cs, hc⟩ := h1.typed e
  exact hk k cs _ hc (by decide)
theorem Lb4.keepL {B : Nat} {w w' : World} {v1 v2 v3 v4 : Value} {L : Lb} (h : Lb4 B w v1 v2 v3 v4 L) (hk : KeepL w w') : Lb4 B w' v1 v2 v3 v4 L :=
  ⟨h.a.keep fun k cs hc _ => hk k cs _ hc (by decide), h.n.keep fun k cs hc _ => hk k cs _ hc (by decide), h.f.keepL hk, h.g.keepL hk⟩
theorem Lb4.on {B : Nat} {w w' : World} {v1 v2 v3 v4 : Value} {L : Lb} (h : Lb4 B w v1 v2 v3 v4 L) (hb : Below w.heap.size w w') : Lb4 B w' v1 v2 v3 v4 L := ⟨h.a.on hb, h.n.on hb, h.f.on hb, h.g.on hb⟩
theorem Lb4.le {B B' : Nat} {w : World} {v1 v2 v3 v4 : Value} {L : Lb} (h : Lb4 B w v1 v2 v3 v4 L) (hb : B' ≤ B) : Lb4 B' w v1 v2 v3 v4 L := ⟨h.a.le hb, h.n.le hb, h.f.le hb, h.g.le hb⟩
theorem lb_done {B q : Nat} {w0 x : World} {v1 v2 v3 v4 : Value} {L : Lb} (hz : x.heap[q]? = some (.cells #[.slice none 0 0, .slice none 0 0, .slice none 0 0, .slice none 0 0, .slice none 0 0] 37 (0, 0))) (h : Lb4 B x v1 v2 v3 v4 L) (hb : Below B w0 x) (hq : B ≤ q) :
    (((((x.setCell ⟨q, 0, none⟩ (.slice none 0 0)).setCell ⟨q, 1, none⟩ v1).setCell ⟨q, 2, none⟩ v2).setCell ⟨q, 3, none⟩ v3).setCell ⟨q, 4, none⟩ v4).heap[q]? = some (.cells #[.slice none 0 0, v1, v2, v3, v4] 37 (0, 0)) ∧ Lb4 B (((((x.setCell ⟨q, 0, none⟩ (.slice none 0 0)).setCell ⟨q, 1, none⟩ v1).setCell ⟨q, 2, none⟩ v2).setCell ⟨q, 3, none⟩ v3).setCell ⟨q, 4, none⟩ v4) v1 v2 v3 v4 L ∧ Below B w0 (((((x.setCell ⟨q, 0, none⟩ (.slice none 0 0)).setCell ⟨q, 1, none⟩ v1).setCell ⟨q, 2, none⟩ v2).setCell ⟨q, 3, none⟩ v3).setCell ⟨q, 4, none⟩ v4) := by
  obtain ⟨g7, k7⟩ := five_set hz (.slice none 0 0) v1 v2 v3 v4
  have hlt := (Array.getElem?_eq_some_iff.1 hz).1
  exact ⟨g7, h.keepL (keepL_kq hz k7), hb.trans (k7.below hq (by omega))⟩
theorem lb_done2 {B : Nat} {w0 x : World} {v1 v2 v3 v4 : Value} {L : Lb} (h : Lb4 B x v1 v2 v3 v4 L) (hb : Below B w0 x) (hB : B ≤ w0.heap.size) :
    (x.alloc (.cells #[.slice none 0 0, v1, v2, v3, v4] 37)).heap[x.heap.size]? = some (.cells #[.slice none 0 0, v1, v2, v3, v4] 37 (0, 0)) ∧ Lb4 B (x.alloc (.cells #[.slice none 0 0, v1, v2, v3, v4] 37)) v1 v2 v3 v4 L ∧ Below B w0 (x.alloc (.cells #[.slice none 0 0, v1, v2, v3, v4] 37)) := by
  have hb9 : Below x.heap.size x (x.alloc (.cells #[.slice none 0 0, v1, v2, v3, v4] 37)) := (Below.refl _ _).alloc (Nat.le_refl _) _
  exact ⟨heap_alloc_new _ _, h.on hb9, hb.trans (hb9.mono (Nat.le_trans hB hb.size))⟩
/-- a library's twin -/
structure LbTw (B : Nat) (w : World) (v0 v1 v2 v3 v4 : Value) (L : Lb) : Prop where
  e : Tw enL 2 41 B w v0 L.e (⟨#[]⟩, -7)
  r : Lb4 B w v1 v2 v3 v4 L
theorem LbTw.keepL {B : Nat} {w w' : World} {v0 v1 v2 v3 v4 : Value} {L : Lb} (h : LbTw B w v0 v1 v2 v3 v4 L) (hk : KeepL w w') : LbTw B w' v0 v1 v2 v3 v4 L := ⟨h.e.keep fun k cs hc _ => hk k cs _ hc (by decide), h.r.keepL hk⟩
theorem LbTw.on {B : Nat} {w w' : World} {v0 v1 v2 v3 v4 : Value} {L : Lb} (h : LbTw B w v0 v1 v2 v3 v4 L) (hb : Below w.heap.size w w') : LbTw B w' v0 v1 v2 v3 v4 L := ⟨h.e.on hb, h.r.on hb⟩
theorem LbTw.le {B B' : Nat} {w : World} {v0 v1 v2 v3 v4 : Value} {L : Lb} (h : LbTw B w v0 v1 v2 v3 v4 L) (hb : B' ≤ B) : LbTw B' w v0 v1 v2 v3 v4 L := ⟨h.e.le hb, h.r.le hb⟩
theorem LbTw.lib {B : Nat} {w : World} {v0 v1 v2 v3 v4 : Value} {L : Lb} {F : Nat → Prop} (h : LbTw B w v0 v1 v2 v3 v4 L) (hF : ∀ b, F b → w.heap.size ≤ b) : LibAt F w v0 v1 v2 v3 v4 L :=
  ⟨RowG.rowN (by decide) enL_len (h.e.row elE) hF, RowG.rowN (by decide) nmL_len (h.r.a.row elI) hF, RowG.rowN (by decide) txL_len (h.r.n.row elT) hF, h.r.f.row hF, h.r.g.row hF⟩
theorem sizeLib : (Try.prog.info? 37).map (·.size) = some 5 := by kernel_rfl
theorem sizeSlE : (Try.prog.info? 33).map (·.size) = some 1 := by kernel_rfl
set_option maxHeartbeats 16000000 in
theorem library_c (v0 v1 v2 v3 v4 : Value) (L : Lb) (w : World) (h : LibAt (fun b => w.heap.size ≤ b) w v0 v1 v2 v3 v4 L) (hL : LbOk L) :
    Calls Try.prog 21 #[.agg #[v0, v1, v2, v3, v4]] w fun e w' => ∃ a0 l0 c0 a1 l1 c1 a2 l2 c2 a3 l3 c3 a4 l4 c4, e = .returned (.agg #[.slice a0 l0 c0, .slice a1 l1 c1, .slice a2 l2 c2, .slice a3 l3 c3, .slice a4 l4 c4]) ∧ LbTw w.heap.size w' (.slice a0 l0 c0) (.slice a1 l1 c1) (.slice a2 l2 c2) (.slice a3 l3 c3) (.slice a4 l4 c4) L ∧ Below w.heap.size w w' := by
  obtain ⟨S, hS⟩ : ∃ S, S = Obj.cells #[v0, v1, v2, v3, v4] 37 := ⟨_, rfl⟩
  obtain ⟨Z, hZ⟩ : ∃ Z, Z = Obj.cells #[.slice none 0 0, .slice none 0 0, .slice none 0 0, .slice none 0 0, .slice none 0 0] 37 := ⟨_, rfl⟩
  obtain ⟨w1, hw1⟩ : ∃ w1, w1 = (w.alloc S).alloc Z := ⟨_, rfl⟩
  have hb1 : Below w.heap.size w w1 := by rw [hw1]; exact ((Below.refl _ w).alloc (Nat.le_refl _) S).alloc (by simp) Z
  have hs1 : w1.heap.size = w.heap.size + 2 := by rw [hw1]; simp
  have hx0 : w1.heap[w.heap.size]? = some (.cells #[v0, v1, v2, v3, v4] 37 (0, 0)) := by rw [hw1]; exact hupK (by rw [heap_alloc_new, hS]) Z
  have hz0 : w1.heap[w.heap.size + 1]? = some (.cells #[.slice none 0 0, .slice none 0 0, .slice none 0 0, .slice none 0 0, .slice none 0 0] 37 (0, 0)) := by rw [hw1, heap_new2K, hZ]
  have hv1 : ∀ W, Below w1.heap.size w1 W → W.cell? ⟨w.heap.size, 1, none⟩ = some v1 := fun W hb => (lib_cells (hkeepK hb hx0)).2.1
  have hv2 : ∀ W, Below w1.heap.size w1 W → W.cell? ⟨w.heap.size, 2, none⟩ = some v2 := fun W hb => (lib_cells (hkeepK hb hx0)).2.2.1
  have hv3 : ∀ W, Below w1.heap.size w1 W → W.cell? ⟨w.heap.size, 3, none⟩ = some v3 := fun W hb => (lib_cells (hkeepK hb hx0)).2.2.2.1
  have hv4 : ∀ W, Below w1.heap.size w1 W → W.cell? ⟨w.heap.size, 4, none⟩ = some v4 := fun W hb => (lib_cells (hkeepK hb hx0)).2.2.2.2
  have up : ∀ W, Below w1.heap.size w1 W → LibAt (fun b => W.heap.size ≤ b) W v0 v1 v2 v3 v4 L := fun W hb => by
    have hbw : Below w.heap.size w W := hb1.trans (hb.mono hb1.size)
    exact (h.kp (Kp.of_below hbw)).weak (fun b _ hh => Nat.le_trans hbw.size hh)
  have H1 : Hid (∀ W, Below w1.heap.size w1 W → Calls Try.prog 39 #[v1] W fun e w' => ∃ a l c, e = .returned (.slice a l c) ∧ (Tw nmL 1 3 w1.heap.size w' (.slice a l c) L.a (-7) ∧ Below W.heap.size W w') ∧ Below w1.heap.size w1 w') := fun W hb => (places_c v1 L.a W (up W hb).a.row (by have := hL.a; omega)).mono (by
    rintro e w' ⟨a, l, c, q1, q2, q3⟩
    exact ⟨a, l, c, q1, ⟨q2.le hb.size, q3⟩, bel3K hb q3⟩)
  have H2 : Hid (∀ W, Below w1.heap.size w1 W → Calls Try.prog 40 #[v2] W fun e w' => ∃ a l c, e = .returned (.slice a l c) ∧ (Tw txL 1 9 w1.heap.size w' (.slice a l c) L.n slT ∧ Below W.heap.size W w') ∧ Below w1.heap.size w1 w') := fun W hb => (texts_c v2 L.n W (up W hb).n.row (by have := hL.n; omega)).mono (by
    rintro e w' ⟨a, l, c, q1, q2, q3⟩
    exact ⟨a, l, c, q1, ⟨q2.le hb.size, q3⟩, bel3K hb q3⟩)
  have H3 : Hid (∀ W, Below w1.heap.size w1 W → Calls Try.prog 41 #[v3] W fun e w' => ∃ a l c, e = .returned (.slice a l c) ∧ (TwLL w1.heap.size w' (.slice a l c) L.df ∧ Below W.heap.size W w') ∧ Below w1.heap.size w1 w') := fun W hb => (lists_c v3 L.df W (up W hb).f (by have := hL.df; omega) (fun l hl => by have := hL.f l hl; omega)).mono (by
    rintro e w' ⟨a, l, c, q1, q2, q3⟩
    exact ⟨a, l, c, q1, ⟨q2.le hb.size, q3⟩, bel3K hb q3⟩)
  have H4 : Hid (∀ W, Below w1.heap.size w1 W → Calls Try.prog 41 #[v4] W fun e w' => ∃ a l c, e = .returned (.slice a l c) ∧ (TwLL w1.heap.size w' (.slice a l c) L.nd ∧ Below W.heap.size W w') ∧ Below w1.heap.size w1 w') := fun W hb => (lists_c v4 L.nd W (up W hb).g (by have := hL.nd; omega) (fun l hl => by have := hL.g l hl; omega)).mono (by
    rintro e w' ⟨a, l, c, q1, q2, q3⟩
    exact ⟨a, l, c, q1, ⟨q2.le hb.size, q3⟩, bel3K hb q3⟩)
  have hb0 : Below w1.heap.size w1 w1 := Below.refl _ _
  have HX0 := hidK hx0
  have HZ0 := hidK hz0
  have HB1 := hidK hb1
  have HS1 := hidK hs1
  have HP := hidK h.e.row
  obtain ⟨ap, cp, ep, _, _⟩ := h.e.row.form
  obtain ⟨lp, hlp⟩ : ∃ l, l = L.e.length := ⟨_, rfl⟩
  have n3 := hL.e
  rw [← hlp] at ep n3
  have HLP := hidK hlp
  subst ep
  clear h hb1 hs1 hx0 hz0 hlp up hL
  subst hS hZ
  go_enter Try.func21, Try.ntmps21
  go_upto_region 1 with fail
  rw [← hw1]
  clear hw1
  go_cut [3] from 4 to 16 (fun s3 wx => ∃ q a1 l1 c1 a2 l2 c2 a3 l3 c3 a4 l4 c4, s3 = .pointer (some ⟨q, 0, none⟩) ∧ w1.heap.size ≤ q ∧ wx.heap[q]? = some (.cells #[.slice none 0 0, .slice a1 l1 c1, .slice a2 l2 c2, .slice a3 l3 c3, .slice a4 l4 c4] 37 (0, 0)) ∧ Lb4 w1.heap.size wx (.slice a1 l1 c1) (.slice a2 l2 c2) (.slice a3 l3 c3) (.slice a4 l4 c4) L ∧ Below w1.heap.size w1 wx)
  case first =>
    have hbZ : Below w1.heap.size w1 (w1.alloc (.cells #[.slice none 0 0, .slice none 0 0, .slice none 0 0, .slice none 0 0, .slice none 0 0] 37)) := (Below.refl _ _).alloc (Nat.le_refl _) _
    have hzZ : (w1.alloc (.cells #[.slice none 0 0, .slice none 0 0, .slice none 0 0, .slice none 0 0, .slice none 0 0] 37)).heap[w1.heap.size]? = some (.cells #[.slice none 0 0, .slice none 0 0, .slice none 0 0, .slice none 0 0, .slice none 0 0] 37 (0, 0)) := heap_alloc_new _ _
    go_region_held3 (fun w' => Below w1.heap.size w1 w') (first | with_reducible assumption | with_reducible exact hb0.drew | with_reducible exact hSw.drew | with_reducible exact bupK hSw _ | with_reducible exact bupK (hb0.drew) _ | with_reducible exact bupK hb0 _ | with_reducible exact bupK hS1 _ | with_reducible exact bupK hS2 _ | with_reducible exact bupK hS3 _ | with_reducible exact bupK hS4 _ | with_reducible exact hbZ | with_reducible exact hbZ.drew | with_reducible exact (bupK hS1 _).drew | with_reducible exact hS1.drew | with_reducible exact (bupK hS2 _).drew | with_reducible exact hS2.drew | with_reducible exact (bupK hS3 _).drew | with_reducible exact hS3.drew | with_reducible exact (bupK hS4 _).drew | with_reducible exact hS4.drew | with_reducible exact bel_set5 hS4 (Nat.le_refl _) | with_reducible exact bel_set5 hS4 hS1.size | with_reducible exact bel_set5 hS4 hS2.size | with_reducible exact bel_set5 hS4 hS3.size) (first
      | (go_at_call_of 39 v1; refine (H1.out _ (by assumption)).mono ?_; rintro e x1 ⟨a1, l1, c1, rfl, hq1, hS1⟩; (try (have hz1 : x1.heap[w1.heap.size]? = some (.cells #[.slice none 0 0, .slice none 0 0, .slice none 0 0, .slice none 0 0, .slice none 0 0] 37 (0, 0)) := hkeepK hq1.2 hzZ)))
      | (go_at_call_of 40 v2; refine (H2.out _ (by assumption)).mono ?_; rintro e x2 ⟨a2, l2, c2, rfl, hq2, hS2⟩; (first | (have hz2 := hkeepK hq2.2 hz1) | (have hz2 : x2.heap[x1.heap.size]? = some (.cells #[.slice none 0 0, .slice none 0 0, .slice none 0 0, .slice none 0 0, .slice none 0 0] 37 (0, 0)) := hkeepK hq2.2 (heap_alloc_new x1 _)) | skip); have hc2 : Below x1.heap.size x1 x2 := (by first | exact hq2.2 | exact bel3K (bupK (Below.refl _ _) _) hq2.2))
      | (go_at_call_of 41 v3; refine (H3.out _ (by assumption)).mono ?_; rintro e x3 ⟨a3, l3, c3, rfl, hq3, hS3⟩; (first | (have hz3 := hkeepK hq3.2 hz2) | (have hz3 : x3.heap[x2.heap.size]? = some (.cells #[.slice none 0 0, .slice none 0 0, .slice none 0 0, .slice none 0 0, .slice none 0 0] 37 (0, 0)) := hkeepK hq3.2 (heap_alloc_new x2 _)) | skip); have hc3 : Below x2.heap.size x2 x3 := (by first | exact hq3.2 | exact bel3K (bupK (Below.refl _ _) _) hq3.2))
      | (go_at_call_of 41 v4; refine (H4.out _ (by assumption)).mono ?_; rintro e x4 ⟨a4, l4, c4, rfl, hq4, hS4⟩; (first | (have hz4 := hkeepK hq4.2 hz3) | (have hz4 : x4.heap[x3.heap.size]? = some (.cells #[.slice none 0 0, .slice none 0 0, .slice none 0 0, .slice none 0 0, .slice none 0 0] 37 (0, 0)) := hkeepK hq4.2 (heap_alloc_new x3 _)) | skip); have hc4 : Below x3.heap.size x3 x4 := (by first | exact hq4.2 | exact bel3K (bupK (Below.refl _ _) _) hq4.2); (try (obtain ⟨z0, z1, z2, z3, z4⟩ := lib_cells hz4; have f0 := Lib.frozen_of_heap hz4 0; have f1 := Lib.frozen_of_heap hz4 1; have f2 := Lib.frozen_of_heap hz4 2; have f3 := Lib.frozen_of_heap hz4 3; have f4 := Lib.frozen_of_heap hz4 4))))
    all_goals
      have hl4 : Lb4 w1.heap.size x4 (.slice a1 l1 c1) (.slice a2 l2 c2) (.slice a3 l3 c3) (.slice a4 l4 c4) L := ⟨((hq1.1.on hc2).on hc3).on hc4, (hq2.1.on hc3).on hc4, hq3.1.on hc4, hq4.1⟩
      clear hbZ hzZ H1 H2 H3 H4 hv1 hv2 hv3 hv4
    all_goals first
      | (have HD := hidK (lb_done (B := w1.heap.size) (w0 := w1) hz4 hl4 hS4 (Nat.le_refl _))
         clear z0 z1 z2 z3 z4 f0 f1 f2 f3 f4 hz4 hl4 hq1 hq2 hq3 hq4 hc2 hc3 hc4
         go_wp2
         go_meet
         case rel => exact ⟨_, _, _, _, _, _, _, _, _, _, _, _, _, rfl, Nat.le_refl _, HD.out.1, HD.out.2.1, HD.out.2.2⟩)
      | (have HD := hidK (lb_done (B := w1.heap.size) (w0 := w1) hz4 hl4 hS4 (hS1.size))
         clear z0 z1 z2 z3 z4 f0 f1 f2 f3 f4 hz4 hl4 hq1 hq2 hq3 hq4 hc2 hc3 hc4
         go_wp2
         go_meet
         case rel => exact ⟨_, _, _, _, _, _, _, _, _, _, _, _, _, rfl, hS1.size, HD.out.1, HD.out.2.1, HD.out.2.2⟩)
      | (have HD := hidK (lb_done (B := w1.heap.size) (w0 := w1) hz4 hl4 hS4 (hS2.size))
         clear z0 z1 z2 z3 z4 f0 f1 f2 f3 f4 hz4 hl4 hq1 hq2 hq3 hq4 hc2 hc3 hc4
         go_wp2
         go_meet
         case rel => exact ⟨_, _, _, _, _, _, _, _, _, _, _, _, _, rfl, hS2.size, HD.out.1, HD.out.2.1, HD.out.2.2⟩)
      | (have HD := hidK (lb_done (B := w1.heap.size) (w0 := w1) hz4 hl4 hS4 (hS3.size))
         clear z0 z1 z2 z3 z4 f0 f1 f2 f3 f4 hz4 hl4 hq1 hq2 hq3 hq4 hc2 hc3 hc4
         go_wp2
         go_meet
         case rel => exact ⟨_, _, _, _, _, _, _, _, _, _, _, _, _, rfl, hS3.size, HD.out.1, HD.out.2.1, HD.out.2.2⟩)
      | (have HD := hidK (lb_done2 (B := w1.heap.size) (w0 := w1) hl4 hS4 (Nat.le_refl _))
         clear hl4 hq1 hq2 hq3 hq4 hc2 hc3 hc4
         go_wp2
         go_meet
         case rel => exact ⟨_, _, _, _, _, _, _, _, _, _, _, _, _, rfl, hS4.size, HD.out.1, HD.out.2.1, HD.out.2.2⟩)
  case rest =>
    obtain ⟨q, a1, l1, c1, a2, l2, c2, a3, l3, c3, a4, l4, c4, rfl, hq, hg, ht, hbc⟩ := hcut
    clear H1 H2 H3 H4 hv1 hv2 hv3 hv4 hb0
    have HG := hidK hg
    have HT := hidK ht
    have HBC := hidK hbc
    obtain ⟨x0, x1, x2, x3, x4⟩ := lib_cells (hkeepK hbc HX0.out)
    obtain ⟨y0, y1, y2, y3, y4⟩ := lib_cells hg
    have hbw := HB1.out.trans (hbc.mono HB1.out.size)
    have HPW := hidK (HP.out.on hbw)
    clear hg ht hbc hbw
    go_upto_region 3 with (first
      | (refine wpG_all (F := fun b => w1.heap.size ≤ b) elE rfl (.tmp 18) (.tmp 20) rfl (.slice none 0 0) (.slice ap lp cp) [] L.e rfl rfl OwnF.nil HPW.out (fun m _ => enL_one m) (by have := HLP.out; simp; omega) (fun b hb => Nat.le_trans HBC.out.size hb) ?_; intro v5 w5 o5 k5 l5; rw [List.nil_append] at o5; obtain ⟨a5, c5, e5, _⟩ := o5.form; rw [← HLP.out] at e5; subst e5; have HO5 := hidK o5; have HK5 := hidK k5; clear o5 k5 l5; have HB5 : Hid (Below wc.heap.size wc w5) := HK5.out.below (fun k hk => by simp [Value.ownBlock] at hk) (Nat.le_refl _))
      | (refine wpList_store_kz rfl rfl 33 _ _ rfl q 0 (.slice a5 lp c5) rfl rfl 37 #[.slice none 0 0, .slice a1 l1 c1, .slice a2 l2 c2, .slice a3 l3 c3, .slice a4 l4 c4] #[.slice a5 lp c5, .slice a1 l1 c1, .slice a2 l2 c2, .slice a3 l3 c3, .slice a4 l4 c4] (hkeepK HB5.out HG.out) sizeSlE rfl rfl rfl ?_; intro W6 g6 q6; have HG6 := hidK g6; have HQ6 := hidK q6; clear g6 q6))
    have HKL6 : Hid (KeepL w5 W6) := keepL_kq (hkeepK HB5.out HG.out) HQ6.out
    have HO6 : Hid (OwnF (fun b => w1.heap.size ≤ b) enL 2 41 W6 (.slice a5 lp c5) L.e) := HO5.out.keep (fun k hk => by
      obtain ⟨cs, hc⟩ := HO5.out.typed hk
      exact HKL6.out k cs _ hc (by decide))
    have HT6 : Hid (Lb4 w1.heap.size W6 (.slice a1 l1 c1) (.slice a2 l2 c2) (.slice a3 l3 c3) (.slice a4 l4 c4) L) := (HT.out.on HB5.out).keepL HKL6.out
    have HB6 : Hid (Below w1.heap.size w1 W6) := by
      have h5 := HBC.out.trans (HB5.out.mono HBC.out.size)
      exact h5.trans (HQ6.out.below hq h5.size)
    clear x0 x1 x2 x3 x4 y0 y1 y2 y3 y4 HO5 HK5 HG HQ6 HT HB5 HBC HPW HKL6
    obtain ⟨x0, x1, x2, x3, x4⟩ := lib_cells (hkeepK HB6.out HX0.out)
    obtain ⟨y0, y1, y2, y3, y4⟩ := lib_cells HG6.out
    go_upto_region 4 with (first
      | (refine wpG_one (F := fun b => w1.heap.size ≤ b) elE rfl (.tmp 24) (.tmp 26) rfl (.slice a5 lp c5) L.e (⟨#[]⟩, -7) #[.string ⟨#[]⟩, .int .i64 (-7)] rfl rfl rfl HO6.out (enL_one _) (by have := HLP.out; omega) (fun b hb => Nat.le_trans HB6.out.size hb) ?_; intro v7 w7 o7 k7 l7; obtain ⟨g, cap, e7, hc1, hc2, htw⟩ := Tw.of o7; rw [← HLP.out] at e7 hc1; subst e7; have HT7 := hidK htw; have HK7 := hidK k7; have HG7 := hidK ((k7.block q (Array.getElem?_eq_some_iff.1 HG6.out).1 (fun e => by { obtain ⟨cs, hc⟩ := HO6.out.typed e; exact cells_typ hc HG6.out (by decide) rfl })).trans HG6.out); clear o7 k7 l7 htw)
      | (refine wpList_store_kz rfl rfl 33 _ _ rfl q 0 (.slice (some ⟨g, 0, none⟩) (lp + 1) cap) rfl rfl 37 #[.slice a5 lp c5, .slice a1 l1 c1, .slice a2 l2 c2, .slice a3 l3 c3, .slice a4 l4 c4] #[.slice (some ⟨g, 0, none⟩) (lp + 1) cap, .slice a1 l1 c1, .slice a2 l2 c2, .slice a3 l3 c3, .slice a4 l4 c4] HG7.out sizeSlE rfl rfl rfl ?_; intro W8 g8 q8; have HG8 := hidK g8; have HQ8 := hidK q8; clear g8 q8))
    have HT8 : Hid (LbTw w1.heap.size W8 (.slice (some ⟨g, 0, none⟩) lp cap) (.slice a1 l1 c1) (.slice a2 l2 c2) (.slice a3 l3 c3) (.slice a4 l4 c4) L) := by
      have hkl : KeepL w7 W8 := keepL_kq HG7.out HQ8.out
      have ne : ∀ (k : Nat) (cs : Array Value) (t : TypeId), W6.heap[k]? = some (.cells cs t (0, 0)) → t ≠ 41 → w7.heap[k]? = W6.heap[k]? := fun k cs t hc ht => HK7.out.block k (Array.getElem?_eq_some_iff.1 hc).1 (fun e => by
        obtain ⟨cs', hc'⟩ := HO6.out.typed e
        exact cells_typ hc hc' ht rfl)
      have h7 : Tw enL 2 41 w1.heap.size w7 (.slice (some ⟨g, 0, none⟩) lp cap) L.e (⟨#[]⟩, -7) := by have := HT7.out; rw [← HLP.out] at this; exact this
      have hLL : ∀ (v : Value) (LL : List (List ByteArray)), TwLL w1.heap.size W6 v LL → TwLL w1.heap.size w7 v LL := fun v LL ⟨vs, h1, h2, h3⟩ => ⟨vs, h1.keep (fun k e => by
          obtain ⟨cs, hc⟩ := h1.typed e
          exact ne k cs _ hc (by decide)), h2, fun i u l hu hl => (h3 i u l hu hl).keep fun k cs hc _ => ne k cs _ hc (by decide)⟩
      have h4 : Lb4 w1.heap.size w7 (.slice a1 l1 c1) (.slice a2 l2 c2) (.slice a3 l3 c3) (.slice a4 l4 c4) L := ⟨HT6.out.a.keep fun k cs hc _ => ne k cs _ hc (by decide), HT6.out.n.keep fun k cs hc _ => ne k cs _ hc (by decide), hLL _ _ HT6.out.f, hLL _ _ HT6.out.g⟩
      exact LbTw.keepL ⟨h7, h4⟩ hkl
    have HB8 : Hid (Below w1.heap.size w1 W8) := by
      have h7 := HB6.out.trans (HK7.out.below (fun b hb => HO6.out.2 b hb) HB6.out.size)
      exact h7.trans (HQ8.out.below hq h7.size)
    clear x0 x1 x2 x3 x4 y0 y1 y2 y3 y4 HO6 HK7 HG6 HG7 HQ8 HT6 HT7 HB6
    obtain ⟨x0, x1, x2, x3, x4⟩ := lib_cells (hkeepK HB8.out HX0.out)
    obtain ⟨y0, y1, y2, y3, y4⟩ := lib_cells HG8.out
    have i1 : (lp : Int) ≤ (cap : Int) := by omega
    have hc3 : cap ≤ 9223372036854775807 := by unfold maxLen at hc2; omega
    go_upto_region 5 with (refine wpList_store_kz rfl rfl 33 _ _ rfl q 0 (.slice (some ⟨g, 0, none⟩) lp cap) rfl rfl 37 #[.slice (some ⟨g, 0, none⟩) (lp + 1) cap, .slice a1 l1 c1, .slice a2 l2 c2, .slice a3 l3 c3, .slice a4 l4 c4] #[.slice (some ⟨g, 0, none⟩) lp cap, .slice a1 l1 c1, .slice a2 l2 c2, .slice a3 l3 c3, .slice a4 l4 c4] HG8.out sizeSlE rfl rfl rfl ?_; intro W9 g9 q9; have HG9 := hidK g9; have HQ9 := hidK q9; clear g9 q9)
    have HT9 : Hid (LbTw w1.heap.size W9 (.slice (some ⟨g, 0, none⟩) lp cap) (.slice a1 l1 c1) (.slice a2 l2 c2) (.slice a3 l3 c3) (.slice a4 l4 c4) L) := HT8.out.keepL (keepL_kq HG8.out HQ9.out)
    have HB9 : Hid (Below w1.heap.size w1 W9) := HB8.out.trans (HQ9.out.below hq HB8.out.size)
    clear x0 x1 x2 x3 x4 y0 y1 y2 y3 y4 HG8 HQ9 HT8 HB8
    obtain ⟨y0, y1, y2, y3, y4⟩ := lib_cells HG9.out
    have HZ9 := hidK (hkeepK HB9.out HZ0.out)
    go_wp2_with (refine wpList_store_kz rfl rfl 37 _ _ rfl (w.heap.size + 1) 0 (.agg #[.slice (some ⟨g, 0, none⟩) lp cap, .slice a1 l1 c1, .slice a2 l2 c2, .slice a3 l3 c3, .slice a4 l4 c4]) rfl rfl 37 #[.slice none 0 0, .slice none 0 0, .slice none 0 0, .slice none 0 0, .slice none 0 0] #[.slice (some ⟨g, 0, none⟩) lp cap, .slice a1 l1 c1, .slice a2 l2 c2, .slice a3 l3 c3, .slice a4 l4 c4] HZ9.out sizeLib rfl rfl rfl ?_; intro WA gA qA; have HGA := hidK gA; have HQA := hidK qA; clear gA qA)
    refine bodyPost_ret (results_cell_row rfl _ _ (w.heap.size + 1) _ _ _ _ rfl HGA.out Try.underlying37 rfl sizeLib) rfl ?_
    have hb9 := HB1.out.trans (HB9.out.mono HB1.out.size)
    have hl := HB1.out.size
    exact ⟨_, _, _, _, _, _, _, _, _, _, _, _, _, _, _, rfl, (HT9.out.keepL (keepL_kq HZ9.out HQA.out)).le hl, hb9.trans (HQA.out.below (by omega) hb9.size)⟩
end Go.Proofs.Ytebgannhecmnmaa
