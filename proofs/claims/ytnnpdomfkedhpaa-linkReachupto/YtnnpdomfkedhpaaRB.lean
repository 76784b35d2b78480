
-- A link in a box, and how its lists are put there; the document's fresh.
import Derived.Test.YtnnpdomfkedhpaaRA
import Derived.Test.YtnnpdomfkedhpaaWF
import Derived.Lib.FrozenHead2
namespace Go.Proofs.Ytnnpdomfkedhpaa
open Go.ChangeShapes Go.WideShapes Go.ChangeAt Go.RowKit Go.MapKept
set_option linter.unusedVariables false
set_option maxRecDepth 100000
/-- a link in a box -/
structure LkBox (B g : Nat) (w : World) (vd vw vp : Value) (x : Lk) : Prop where
  blk : w.heap[g]? = some (.cells #[vd, vw, vp] 32 (0, 0))
  own : LkOwn B w vd vw vp x
theorem LkOwn.keep {B : Nat} {w w' : World} {a b c : Value} {x : Lk} (h : LkOwn B w a b c x) (h1 : ∀ k, a.ownBlock = some k → w'.heap[k]? = w.heap[k]?) (h2 : ∀ k, b.ownBlock = some k → w'.heap[k]? = w.heap[k]?) (h3 : ∀ k, c.ownBlock = some k → w'.heap[k]? = w.heap[k]?) : LkOwn B w' a b c x :=
  ⟨h.d.keep h1, h.wt.keep h2, h.p.keep h3, h.n⟩
/-- a link beside a box that is written -/
theorem LkOwn.store {B g : Nat} {w w' : World} {a b c : Value} {x : Lk} {cs : Array Value} (h : LkOwn B w a b c x) (hg : w.heap[g]? = some (.cells cs 32 (0, 0))) (hq : Kq g w w') : LkOwn B w' a b c x :=
  h.keep (fun k hk => hq.block k (by obtain ⟨c1, e1⟩ := h.d.typed hk; exact cells_typ e1 hg (by decide)) (h.d.lt k hk)) (fun k hk => hq.block k (by obtain ⟨c1, e1⟩ := h.wt.typed hk; exact cells_typ e1 hg (by decide)) (h.wt.lt k hk)) (fun k hk => hq.block k (by obtain ⟨c1, e1⟩ := h.p.typed hk; exact cells_typ e1 hg (by decide)) (h.p.lt k hk))
section
variable {B g : Nat} {w w4 W5 : World} {vd vw vp : Value} {x : Lk}
theorem LkBox.glt (h : LkBox B g w vd vw vp x) : g < w.heap.size := (Array.getElem?_eq_some_iff.1 h.blk).1
theorem LkBox.on (h : LkBox B g w vd vw vp x) (hb : Below w.heap.size w w4) : LkBox B g w4 vd vw vp x := ⟨hkeepK hb h.blk, h.own.on hb⟩
theorem LkBox.cells (h : LkBox B g w vd vw vp x) : w.cell? ⟨g, 0, none⟩ = some vd ∧ w.cell? ⟨g, 1, none⟩ = some vw ∧ w.cell? ⟨g, 2, none⟩ = some vp := lk_cells h.blk
theorem LkBox.nd (h : LkBox B g w vd vw vp x) : ∀ k, vd.ownBlock = some k → k ≠ g ∧ vw.ownBlock ≠ some k ∧ vp.ownBlock ≠ some k := fun k hk => by
  obtain ⟨c1, e1⟩ := h.own.d.typed hk
  refine ⟨cells_typ e1 h.blk (by decide), h.own.n k hk, fun e => ?_⟩
  obtain ⟨c2, e2⟩ := h.own.p.typed e
  exact cells_typ e1 e2 (by decide) rfl
theorem LkBox.nw (h : LkBox B g w vd vw vp x) : ∀ k, vw.ownBlock = some k → k ≠ g ∧ vd.ownBlock ≠ some k ∧ vp.ownBlock ≠ some k := fun k hk => by
  obtain ⟨c1, e1⟩ := h.own.wt.typed hk
  refine ⟨cells_typ e1 h.blk (by decide), fun e => h.own.n k e hk, fun e => ?_⟩
  obtain ⟨c2, e2⟩ := h.own.p.typed e
  exact cells_typ e1 e2 (by decide) rfl
theorem LkBox.np (h : LkBox B g w vd vw vp x) : ∀ k, vp.ownBlock = some k → k ≠ g ∧ vd.ownBlock ≠ some k ∧ vw.ownBlock ≠ some k := fun k hk =>
  ⟨by obtain ⟨c1, e1⟩ := h.own.p.typed hk; exact cells_typ e1 h.blk (by decide), fun e => (h.nd k e).2.2 hk, fun e => (h.nw k e).2.2 hk⟩
theorem LkBox.putD {vd' : Value} {d' : List ByteArray} (h : LkBox B g w vd vw vp x) (hk : Kp (fun k => vd.ownBlock = some k) w w4) (ho : OwnF (fun b => B ≤ b) txL 1 9 w4 vd' d') (hl : ∀ k, vd'.ownBlock = some k → vd.ownBlock = some k ∨ w.heap.size ≤ k)
    (hg : W5.heap[g]? = some (.cells #[vd', vw, vp] 32 (0, 0))) (hq : Kq g w4 W5) : LkBox B g W5 vd' vw vp ⟨d', x.w, x.p⟩ := by
  have up : ∀ k, k < w.heap.size → vd.ownBlock ≠ some k → k ≠ g → W5.heap[k]? = w.heap[k]? := fun k h1 h2 h3 => (hq.block k h3 (Nat.lt_of_lt_of_le h1 hk.size)).trans (hk.block k h1 h2)
  have hg4 := (hk.block g h.glt (fun e => (h.nd g e).1 rfl)).trans h.blk
  refine ⟨hg, ⟨ho.keep fun k e => hq.block k ?_ (ho.lt k e), h.own.wt.keep fun k e => up k (h.own.wt.lt k e) (h.nw k e).2.1 (h.nw k e).1, h.own.p.keep fun k e => up k (h.own.p.lt k e) (h.np k e).2.1 (h.np k e).1, fun k e e2 => ?_⟩⟩
  · obtain ⟨c1, e1⟩ := ho.typed e
    exact cells_typ e1 hg4 (by decide)
  · rcases hl k e with q | q
    · exact h.own.n k q e2
    · have := h.own.wt.lt k e2; omega
theorem LkBox.putW {vw' : Value} {d' : List ByteArray} (h : LkBox B g w vd vw vp x) (hk : Kp (fun k => vw.ownBlock = some k) w w4) (ho : OwnF (fun b => B ≤ b) txL 1 9 w4 vw' d') (hl : ∀ k, vw'.ownBlock = some k → vw.ownBlock = some k ∨ w.heap.size ≤ k)
    (hg : W5.heap[g]? = some (.cells #[vd, vw', vp] 32 (0, 0))) (hq : Kq g w4 W5) : LkBox B g W5 vd vw' vp ⟨x.d, d', x.p⟩ := by
  have up : ∀ k, k < w.heap.size → vw.ownBlock ≠ some k → k ≠ g → W5.heap[k]? = w.heap[k]? := fun k h1 h2 h3 => (hq.block k h3 (Nat.lt_of_lt_of_le h1 hk.size)).trans (hk.block k h1 h2)
  have hg4 := (hk.block g h.glt (fun e => (h.nw g e).1 rfl)).trans h.blk
  refine ⟨hg, ⟨h.own.d.keep fun k e => up k (h.own.d.lt k e) (h.nd k e).2.1 (h.nd k e).1, ho.keep fun k e => hq.block k ?_ (ho.lt k e), h.own.p.keep fun k e => up k (h.own.p.lt k e) (h.np k e).2.2 (h.np k e).1, fun k e e2 => ?_⟩⟩
  · obtain ⟨c1, e1⟩ := ho.typed e
    exact cells_typ e1 hg4 (by decide)
  · rcases hl k e2 with q | q
    · exact h.own.n k e q
    · have := h.own.d.lt k e; omega
theorem LkBox.putP {vp' : Value} {d' : List (Int × Int)} (h : LkBox B g w vd vw vp x) (hk : Kp (fun k => vp.ownBlock = some k) w w4) (ho : OwnF (fun b => B ≤ b) paL 2 56 w4 vp' d')
    (hg : W5.heap[g]? = some (.cells #[vd, vw, vp'] 32 (0, 0))) (hq : Kq g w4 W5) : LkBox B g W5 vd vw vp' ⟨x.d, x.w, d'⟩ := by
  have up : ∀ k, k < w.heap.size → vp.ownBlock ≠ some k → k ≠ g → W5.heap[k]? = w.heap[k]? := fun k h1 h2 h3 => (hq.block k h3 (Nat.lt_of_lt_of_le h1 hk.size)).trans (hk.block k h1 h2)
  have hg4 := (hk.block g h.glt (fun e => (h.np g e).1 rfl)).trans h.blk
  refine ⟨hg, ⟨h.own.d.keep fun k e => up k (h.own.d.lt k e) (h.nd k e).2.2 (h.nd k e).1, h.own.wt.keep fun k e => up k (h.own.wt.lt k e) (h.nw k e).2.2 (h.nw k e).1, ho.keep fun k e => hq.block k ?_ (ho.lt k e), h.own.n⟩⟩
  obtain ⟨c1, e1⟩ := ho.typed e
  exact cells_typ e1 hg4 (by decide)
/-- a list that is quite new -/
theorem LkBox.newD {vd' : Value} {d' : List ByteArray} (h : LkBox B g w vd vw vp x) (hb : Below w.heap.size w w4) (ho : OwnF (fun b => w.heap.size ≤ b) txL 1 9 w4 vd' d') (hB : B ≤ w.heap.size)
    (hg : W5.heap[g]? = some (.cells #[vd', vw, vp] 32 (0, 0))) (hq : Kq g w4 W5) : LkBox B g W5 vd' vw vp ⟨d', x.w, x.p⟩ :=
  h.putD (w4 := w4) (Kp.of_below hb) (ho.weak fun b hb => Nat.le_trans hB hb) (fun k hk => .inr (ho.2 k hk)) hg hq
theorem LkBox.newW {vw' : Value} {d' : List ByteArray} (h : LkBox B g w vd vw vp x) (hb : Below w.heap.size w w4) (ho : OwnF (fun b => w.heap.size ≤ b) txL 1 9 w4 vw' d') (hB : B ≤ w.heap.size)
    (hg : W5.heap[g]? = some (.cells #[vd, vw', vp] 32 (0, 0))) (hq : Kq g w4 W5) : LkBox B g W5 vd vw' vp ⟨x.d, d', x.p⟩ :=
  h.putW (w4 := w4) (Kp.of_below hb) (ho.weak fun b hb => Nat.le_trans hB hb) (fun k hk => .inr (ho.2 k hk)) hg hq
end
end Go.Proofs.Ytnnpdomfkedhpaa
