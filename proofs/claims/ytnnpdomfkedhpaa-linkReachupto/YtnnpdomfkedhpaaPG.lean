
-- A link on its way, in memory.
import Derived.Test.YtnnpdomfkedhpaaSC
namespace Go.Proofs.Ytnnpdomfkedhpaa
open Go.ChangeShapes Go.WideShapes Go.ChangeAt Go.RowKit Go.MapKept
set_option linter.unusedVariables false
set_option maxRecDepth 100000
structure PgX (F : Nat → Prop) (g : Nat) (d r : List ByteArray) (p : List (Int × Int)) (D W : List ByteArray) (P : List (Int × Int)) (w : World) (vd vw vp : Value) (bd bw bp : Nat) : Prop where
  blk : w.heap[g]? = some (.cells #[vd, vw, vp, .map (some bd), .map (some bw), .map (some bp)] 66 (0, 0))
  fg : F g
  fd : F bd
  fw : F bw
  fp : F bp
  od : OwnF F txL 1 9 w vd d
  ow : OwnF F txL 1 9 w vw r
  op : OwnF F paL 2 56 w vp p
  sd : SetS w bd (setF D)
  sw : SetS w bw (setF W)
  sp : SetP w bp (setF P)
  n1 : bd ≠ bw
  n2 : bd ≠ bp
  n3 : bw ≠ bp
  nv : ∀ k, vd.ownBlock = some k → vw.ownBlock ≠ some k
section
variable {F : Nat → Prop} {g : Nat} {d r : List ByteArray} {p : List (Int × Int)} {D W : List ByteArray} {P : List (Int × Int)} {w w' : World} {vd vw vp : Value} {bd bw bp : Nat}
theorem PgX.glt (h : PgX F g d r p D W P w vd vw vp bd bw bp) : g < w.heap.size := (Array.getElem?_eq_some_iff.1 h.blk).1
theorem PgX.keep (h : PgX F g d r p D W P w vd vw vp bd bw bp) (h0 : w'.heap[g]? = w.heap[g]?) (h1 : w'.heap[bd]? = w.heap[bd]?) (h2 : w'.heap[bw]? = w.heap[bw]?) (h3 : w'.heap[bp]? = w.heap[bp]?)
    (k1 : ∀ k, vd.ownBlock = some k → w'.heap[k]? = w.heap[k]?) (k2 : ∀ k, vw.ownBlock = some k → w'.heap[k]? = w.heap[k]?) (k3 : ∀ k, vp.ownBlock = some k → w'.heap[k]? = w.heap[k]?) : PgX F g d r p D W P w' vd vw vp bd bw bp :=
  { h with blk := h0.trans h.blk, od := h.od.keep k1, ow := h.ow.keep k2, op := h.op.keep k3, sd := h.sd.keep h1, sw := h.sw.keep h2, sp := h.sp.keep h3 }
theorem PgX.on (h : PgX F g d r p D W P w vd vw vp bd bw bp) (hb : Below w.heap.size w w') : PgX F g d r p D W P w' vd vw vp bd bw bp :=
  h.keep (hb.block _ h.glt) (hb.block _ h.sd.lt) (hb.block _ h.sw.lt) (hb.block _ h.sp.lt) (fun k hk => hb.block k (h.od.lt k hk)) (fun k hk => hb.block k (h.ow.lt k hk)) (fun k hk => hb.block k (h.op.lt k hk))
theorem cells_typ {w : World} {a b : Nat} {c1 c2 : Array Value} {t1 t2 : TypeId} {f1 f2 : Nat × Nat} (h1 : w.heap[a]? = some (.cells c1 t1 f1)) (h2 : w.heap[b]? = some (.cells c2 t2 f2)) (hne : t1 ≠ t2) : a ≠ b := by
  intro e; subst e; rw [h1] at h2; injection h2 with h2; injection h2 with _ h2 _; exact hne h2
theorem PgX.ntd (h : PgX F g d r p D W P w vd vw vp bd bw bp) : ∀ k, vd.ownBlock = some k → k ≠ g ∧ k ≠ bd ∧ k ≠ bw ∧ k ≠ bp ∧ vp.ownBlock ≠ some k := fun k hk => by
  obtain ⟨cur, hc⟩ := h.od.typed hk
  refine ⟨cells_typ hc h.blk (by decide), (h.sd.ne_cells hc).symm, (h.sw.ne_cells hc).symm, (h.sp.ne_cells hc).symm, fun e => ?_⟩
  obtain ⟨c2, hc2⟩ := h.op.typed e
  exact cells_typ hc hc2 (by decide) rfl
theorem PgX.ntw (h : PgX F g d r p D W P w vd vw vp bd bw bp) : ∀ k, vw.ownBlock = some k → k ≠ g ∧ k ≠ bd ∧ k ≠ bw ∧ k ≠ bp ∧ vp.ownBlock ≠ some k := fun k hk => by
  obtain ⟨cur, hc⟩ := h.ow.typed hk
  refine ⟨cells_typ hc h.blk (by decide), (h.sd.ne_cells hc).symm, (h.sw.ne_cells hc).symm, (h.sp.ne_cells hc).symm, fun e => ?_⟩
  obtain ⟨c2, hc2⟩ := h.op.typed e
  exact cells_typ hc hc2 (by decide) rfl
theorem PgX.ntp (h : PgX F g d r p D W P w vd vw vp bd bw bp) : ∀ k, vp.ownBlock = some k → k ≠ g ∧ k ≠ bd ∧ k ≠ bw ∧ k ≠ bp := fun k hk => by
  obtain ⟨cur, hc⟩ := h.op.typed hk
  exact ⟨cells_typ hc h.blk (by decide), (h.sd.ne_cells hc).symm, (h.sw.ne_cells hc).symm, (h.sp.ne_cells hc).symm⟩
theorem PgX.ngm (h : PgX F g d r p D W P w vd vw vp bd bw bp) : g ≠ bd ∧ g ≠ bw ∧ g ≠ bp := ⟨(h.sd.ne_cells h.blk).symm, (h.sw.ne_cells h.blk).symm, (h.sp.ne_cells h.blk).symm⟩
theorem PgX.setW {W' : List ByteArray} (h : PgX F g d r p D W P w vd vw vp bd bw bp) (hk : Kp (fun k => k = bw) w w') (hs : SetS w' bw (setF W')) : PgX F g d r p D W' P w' vd vw vp bd bw bp :=
  { h with blk := (hk.block _ h.glt h.ngm.2.1).trans h.blk, od := h.od.kp hk (fun k hh => (h.ntd k hh).2.2.1), ow := h.ow.kp hk (fun k hh => (h.ntw k hh).2.2.1), op := h.op.kp hk (fun k hh => (h.ntp k hh).2.2.1), sd := h.sd.kp hk h.n1, sw := hs, sp := h.sp.kp hk h.n3.symm }
theorem PgX.setD {D' : List ByteArray} (h : PgX F g d r p D W P w vd vw vp bd bw bp) (hk : Kp (fun k => k = bd) w w') (hs : SetS w' bd (setF D')) : PgX F g d r p D' W P w' vd vw vp bd bw bp :=
  { h with blk := (hk.block _ h.glt h.ngm.1).trans h.blk, od := h.od.kp hk (fun k hh => (h.ntd k hh).2.1), ow := h.ow.kp hk (fun k hh => (h.ntw k hh).2.1), op := h.op.kp hk (fun k hh => (h.ntp k hh).2.1), sd := hs, sw := h.sw.kp hk h.n1.symm, sp := h.sp.kp hk h.n2.symm }
theorem PgX.setP {P' : List (Int × Int)} (h : PgX F g d r p D W P w vd vw vp bd bw bp) (hk : Kp (fun k => k = bp) w w') (hs : SetP w' bp (setF P')) : PgX F g d r p D W P' w' vd vw vp bd bw bp :=
  { h with blk := (hk.block _ h.glt h.ngm.2.2).trans h.blk, od := h.od.kp hk (fun k hh => (h.ntd k hh).2.2.2.1), ow := h.ow.kp hk (fun k hh => (h.ntw k hh).2.2.2.1), op := h.op.kp hk (fun k hh => (h.ntp k hh).2.2.2), sd := h.sd.kp hk h.n2, sw := h.sw.kp hk h.n3, sp := hs }
/-- a row's own block, grown -/
theorem PgX.putD {w1 : World} {vd' : Value} {d' : List ByteArray} (h : PgX F g d r p D W P w vd vw vp bd bw bp) (hk : Kp (fun k => vd.ownBlock = some k) w w1) (ho : OwnF F txL 1 9 w1 vd' d') (hl : ∀ k, vd'.ownBlock = some k → vd.ownBlock = some k ∨ w.heap.size ≤ k)
    (hg : w'.heap[g]? = some (.cells #[vd', vw, vp, .map (some bd), .map (some bw), .map (some bp)] 66 (0, 0))) (hq : Kq g w1 w') : PgX F g d' r p D W P w' vd' vw vp bd bw bp := by
  have hg1 : g < w1.heap.size := Nat.lt_of_lt_of_le h.glt hk.size
  have up : ∀ k, k < w.heap.size → vd.ownBlock ≠ some k → k ≠ g → w'.heap[k]? = w.heap[k]? := fun k h1 h2 h3 => (hq.block k h3 (Nat.lt_of_lt_of_le h1 hk.size)).trans (hk.block k h1 h2)
  have nb : ∀ b, b < w.heap.size → (∀ k, vd.ownBlock = some k → k ≠ b) → b ≠ g → w'.heap[b]? = w.heap[b]? := fun b h1 h2 h3 => up b h1 (fun e => h2 b e rfl) h3
  refine { h with blk := hg, od := ho.keep fun k hh => hq.block k ?_ (ho.lt k hh), ow := h.ow.keep fun k hh => nb k (h.ow.lt k hh) (fun j hj e => h.nv j hj (e ▸ hh)) (h.ntw k hh).1, op := h.op.keep fun k hh => nb k (h.op.lt k hh) (fun j hj e => (h.ntd j hj).2.2.2.2 (e ▸ hh)) (h.ntp k hh).1, sd := h.sd.keep (nb _ h.sd.lt (fun k hh => (h.ntd k hh).2.1) h.ngm.1.symm), sw := h.sw.keep (nb _ h.sw.lt (fun k hh => (h.ntd k hh).2.2.1) h.ngm.2.1.symm), sp := h.sp.keep (nb _ h.sp.lt (fun k hh => (h.ntd k hh).2.2.2.1) h.ngm.2.2.symm), nv := fun k hh e => ?_ }
  · rcases hl k hh with q | q
    · exact (h.ntd k q).1
    · have := h.glt; omega
  · rcases hl k hh with q | q
    · exact h.nv k q e
    · have := h.ow.lt k e; omega
theorem PgX.putW {w1 : World} {vw' : Value} {r' : List ByteArray} (h : PgX F g d r p D W P w vd vw vp bd bw bp) (hk : Kp (fun k => vw.ownBlock = some k) w w1) (ho : OwnF F txL 1 9 w1 vw' r') (hl : ∀ k, vw'.ownBlock = some k → vw.ownBlock = some k ∨ w.heap.size ≤ k)
    (hg : w'.heap[g]? = some (.cells #[vd, vw', vp, .map (some bd), .map (some bw), .map (some bp)] 66 (0, 0))) (hq : Kq g w1 w') : PgX F g d r' p D W P w' vd vw' vp bd bw bp := by
  have up : ∀ k, k < w.heap.size → vw.ownBlock ≠ some k → k ≠ g → w'.heap[k]? = w.heap[k]? := fun k h1 h2 h3 => (hq.block k h3 (Nat.lt_of_lt_of_le h1 hk.size)).trans (hk.block k h1 h2)
  have nb : ∀ b, b < w.heap.size → (∀ k, vw.ownBlock = some k → k ≠ b) → b ≠ g → w'.heap[b]? = w.heap[b]? := fun b h1 h2 h3 => up b h1 (fun e => h2 b e rfl) h3
  refine { h with blk := hg, ow := ho.keep fun k hh => hq.block k ?_ (ho.lt k hh), od := h.od.keep fun k hh => nb k (h.od.lt k hh) (fun j hj e => h.nv k hh (e ▸ hj)) (h.ntd k hh).1, op := h.op.keep fun k hh => nb k (h.op.lt k hh) (fun j hj e => (h.ntw j hj).2.2.2.2 (e ▸ hh)) (h.ntp k hh).1, sd := h.sd.keep (nb _ h.sd.lt (fun k hh => (h.ntw k hh).2.1) h.ngm.1.symm), sw := h.sw.keep (nb _ h.sw.lt (fun k hh => (h.ntw k hh).2.2.1) h.ngm.2.1.symm), sp := h.sp.keep (nb _ h.sp.lt (fun k hh => (h.ntw k hh).2.2.2.1) h.ngm.2.2.symm), nv := fun k hh e => ?_ }
  · rcases hl k hh with q | q
    · exact (h.ntw k q).1
    · have := h.glt; omega
  · rcases hl k e with q | q
    · exact h.nv k hh q
    · have := h.od.lt k hh; omega
theorem PgX.putP {w1 : World} {vp' : Value} {p' : List (Int × Int)} (h : PgX F g d r p D W P w vd vw vp bd bw bp) (hk : Kp (fun k => vp.ownBlock = some k) w w1) (ho : OwnF F paL 2 56 w1 vp' p') (hl : ∀ k, vp'.ownBlock = some k → vp.ownBlock = some k ∨ w.heap.size ≤ k)
    (hg : w'.heap[g]? = some (.cells #[vd, vw, vp', .map (some bd), .map (some bw), .map (some bp)] 66 (0, 0))) (hq : Kq g w1 w') : PgX F g d r p' D W P w' vd vw vp' bd bw bp := by
  have up : ∀ k, k < w.heap.size → vp.ownBlock ≠ some k → k ≠ g → w'.heap[k]? = w.heap[k]? := fun k h1 h2 h3 => (hq.block k h3 (Nat.lt_of_lt_of_le h1 hk.size)).trans (hk.block k h1 h2)
  have nb : ∀ b, b < w.heap.size → (∀ k, vp.ownBlock = some k → k ≠ b) → b ≠ g → w'.heap[b]? = w.heap[b]? := fun b h1 h2 h3 => up b h1 (fun e => h2 b e rfl) h3
  refine { h with blk := hg, op := ho.keep fun k hh => hq.block k ?_ (ho.lt k hh), od := h.od.keep fun k hh => nb k (h.od.lt k hh) (fun j hj e => (h.ntd k hh).2.2.2.2 (e ▸ hj)) (h.ntd k hh).1, ow := h.ow.keep fun k hh => nb k (h.ow.lt k hh) (fun j hj e => (h.ntw k hh).2.2.2.2 (e ▸ hj)) (h.ntw k hh).1, sd := h.sd.keep (nb _ h.sd.lt (fun k hh => (h.ntp k hh).2.1) h.ngm.1.symm), sw := h.sw.keep (nb _ h.sw.lt (fun k hh => (h.ntp k hh).2.2.1) h.ngm.2.1.symm), sp := h.sp.keep (nb _ h.sp.lt (fun k hh => (h.ntp k hh).2.2.2) h.ngm.2.2.symm) }
  · rcases hl k hh with q | q
    · exact (h.ntp k q).1
    · have := h.glt; omega
end
end Go.Proofs.Ytnnpdomfkedhpaa
