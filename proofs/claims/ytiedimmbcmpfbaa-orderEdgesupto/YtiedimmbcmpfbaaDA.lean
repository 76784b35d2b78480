
-- A list without a thing twice, with its map, in memory.
import Derived.Test.YtiedimmbcmpfbaaEK
import Derived.Deep.Cut
namespace Go.Proofs.Ytiedimmbcmpfbaa
open Go.ChangeShapes Go.WideShapes Go.ChangeAt Go.RowKit Go.MapKept
set_option linter.unusedVariables false
set_option maxRecDepth 100000
/-- a thing put behind the others, unless it is there -/
def addD {α : Type} [DecidableEq α] (L : List α) (x : α) : List α := if isIn L x then L else L ++ [x]
theorem cells_typD {w : World} {a b : Nat} {c1 c2 : Array Value} {t1 t2 : TypeId} {f1 f2 : Nat × Nat} (h1 : w.heap[a]? = some (.cells c1 t1 f1)) (h2 : w.heap[b]? = some (.cells c2 t2 f2)) (hne : t1 ≠ t2) : a ≠ b := by
  intro e; subst e; rw [h1] at h2; injection h2 with h2; injection h2 with _ h2 _; exact hne h2
structure DsX {α : Type} [DecidableEq α] (c : α → List Value) (z e T : Nat) (K : Value → Prop) (kf : α → Value) (F : Nat → Prop) (g : Nat) (L D : List α) (w : World) (vl : Value) (bm : Nat) : Prop where
  blk : w.heap[g]? = some (.cells #[vl, .map (some bm)] T (0, 0))
  fg : F g
  fm : F bm
  own : OwnF F c z e w vl L
  mp : MpAt K kf w bm (setF D)
  ne : e ≠ T
section
variable {α : Type} [DecidableEq α] {c : α → List Value} {z e T : Nat} {K : Value → Prop} {kf : α → Value} {F : Nat → Prop} {g : Nat} {L D : List α} {w w' : World} {vl : Value} {bm : Nat}
theorem DsX.glt (h : DsX c z e T K kf F g L D w vl bm) : g < w.heap.size := (Array.getElem?_eq_some_iff.1 h.blk).1
theorem DsX.ngm (h : DsX c z e T K kf F g L D w vl bm) : g ≠ bm := (h.mp.ne_cells h.blk).symm
theorem DsX.nl (h : DsX c z e T K kf F g L D w vl bm) : ∀ k, vl.ownBlock = some k → k ≠ g ∧ k ≠ bm := fun k hk => by
  obtain ⟨cur, hc⟩ := h.own.typed hk
  exact ⟨cells_typD hc h.blk h.ne, (h.mp.ne_cells hc).symm⟩
theorem DsX.keep (h : DsX c z e T K kf F g L D w vl bm) (h0 : w'.heap[g]? = w.heap[g]?) (h1 : w'.heap[bm]? = w.heap[bm]?) (k1 : ∀ k, vl.ownBlock = some k → w'.heap[k]? = w.heap[k]?) : DsX c z e T K kf F g L D w' vl bm :=
  { h with blk := h0.trans h.blk, own := h.own.keep k1, mp := h.mp.keep h1 }
theorem DsX.on (h : DsX c z e T K kf F g L D w vl bm) (hb : Below w.heap.size w w') : DsX c z e T K kf F g L D w' vl bm :=
  h.keep (hb.block _ h.glt) (hb.block _ h.mp.lt) (fun k hk => hb.block k (h.own.lt k hk))
theorem DsX.into {G : Nat → Prop} (h : DsX c z e T K kf F g L D w vl bm) (hg : G g) (hm : G bm) (hl : ∀ k, vl.ownBlock = some k → G k) : DsX c z e T K kf G g L D w vl bm :=
  { h with fg := hg, fm := hm, own := ⟨h.own.1, hl⟩ }
theorem DsX.setM {D' : List α} (h : DsX c z e T K kf F g L D w vl bm) (hk : Kp (fun k => k = bm) w w') (hs : MpAt K kf w' bm (setF D')) : DsX c z e T K kf F g L D' w' vl bm :=
  { h with blk := (hk.block _ h.glt h.ngm).trans h.blk, own := h.own.kp hk (fun k hh => (h.nl k hh).2), mp := hs }
theorem DsX.putL {w1 : World} {vl' : Value} {L' : List α} (h : DsX c z e T K kf F g L D w vl bm) (hk : Kp (fun k => vl.ownBlock = some k) w w1) (ho : OwnF F c z e w1 vl' L')
    (hg : w'.heap[g]? = some (.cells #[vl', .map (some bm)] T (0, 0))) (hq : Kq g w1 w') : DsX c z e T K kf F g L' D w' vl' bm := by
  have hmp : w1.heap[bm]? = w.heap[bm]? := hk.block _ h.mp.lt (fun e => (h.nl _ e).2 rfl)
  have hg1 : w1.heap[g]? = w.heap[g]? := hk.block _ h.glt (fun e => (h.nl _ e).1 rfl)
  refine { h with blk := hg, own := ho.keep fun k hh => hq.block k ?_ (ho.lt k hh), mp := h.mp.keep ((hq.block _ h.ngm.symm ?_).trans hmp) }
  · obtain ⟨cs, hc⟩ := ho.typed hh
    exact cells_typD hc (hg1.trans h.blk) h.ne
  · exact Nat.lt_of_lt_of_le h.mp.lt hk.size
theorem DsX.c0 (h : DsX c z e T K kf F g L D w vl bm) : w.cell? ⟨g, 0, none⟩ = some vl ∧ w.cell? ⟨g, 1, none⟩ = some (.map (some bm)) := ⟨cell_rowK h.blk 0 _ rfl, cell_rowK h.blk 1 _ rfl⟩
end
abbrev DsT := DsX (α := ByteArray) txL 1 9 54 IsSt Value.string
abbrev DsE := DsX (α := Ed) edL 2 38 43 IsEd edV
theorem lookT {w : World} {b : Nat} {L : List ByteArray} (h : SetS w b (setF L)) (x : ByteArray) : (Instr.lookup 52 (.map (some b)) (.string x) true).run Try.prog w = .ok (.tuple #[.agg #[], .bool (isIn L x)]) w := by
  have := MpAt.look true h mapT_u keySt isSt injSt (zeroU w) x
  rw [setF_some, setF_getD] at this
  simpa using this
theorem lookE {w : World} {b : Nat} {L : List Ed} (h : SetE w b (setF L)) (x : Ed) : (Instr.lookup 41 (.map (some b)) (edV x) true).run Try.prog w = .ok (.tuple #[.agg #[], .bool (isIn L x)]) w := by
  have := MpAt.look true h mapE_u keyEd isEd injEd (zeroU w) x
  rw [setF_some, setF_getD] at this
  simpa using this
theorem sizeSlT : (Try.prog.info? 27).map (·.size) = some 1 := by kernel_rfl
theorem sizeSlE : (Try.prog.info? 24).map (·.size) = some 1 := by kernel_rfl
set_option maxHeartbeats 4000000 in
theorem addT_c (F : Nat → Prop) (g : Nat) (L : List ByteArray) (x : ByteArray) (vl : Value) (bm : Nat) (w : World) (h : DsT F g L L w vl bm) (hF : ∀ b, w.heap.size ≤ b → F b) (hn : L.length ≤ 4398046511104) :
    Calls Try.prog 18 #[.pointer (some ⟨g, 0, none⟩), .string x] w fun e w' => e = .returned (.tuple #[]) ∧ (∃ vl', DsT F g (addD L x) (addD L x) w' vl' bm) ∧ Kp F w w' := by
  have hl := lookT h.mp x
  obtain ⟨c0, c1⟩ := h.c0
  obtain ⟨a0, p0, q0, _⟩ := h.own.form
  obtain ⟨n, hnn⟩ : ∃ n, n = L.length := ⟨_, rfl⟩
  have HN := hidK hnn
  rw [← hnn] at q0 hn
  subst q0
  have HX := hidK h
  have HF := hidK hF
  obtain ⟨Z, hZ⟩ : ∃ Z, Z = Obj.cells #[] 47 := ⟨_, rfl⟩
  obtain ⟨w1, hw1⟩ : ∃ w1, w1 = w.alloc Z := ⟨_, rfl⟩
  have hb1 : Below w.heap.size w w1 := by rw [hw1]; exact (Below.refl _ w).alloc (Nat.le_refl _) Z
  clear h hnn hF
  cases hi : isIn L x with
  | true =>
    rw [hi] at hl
    have HA : Hid (addD L x = L) := by show _ = _; unfold addD; rw [hi]; rfl
    have HK1 : Hid (DsT F g L L w1 (.slice a0 n p0) bm ∧ Kp F w w1) := ⟨HX.out.on hb1, Kp.of_below hb1⟩
    clear hi HX HN hb1
    subst hZ
    go_enter Try.func18, Try.ntmps18
    go_wp2_with (at_lookup; refine wp_look _ rfl _ _ 52 true rfl _ _ _ rfl rfl hl ?_)
    rw [← hw1]
    refine bodyPost_ret (results_none rfl _ _ _) rfl ?_
    exact ⟨rfl, ⟨_, by rw [HA.out]; exact HK1.out.1⟩, HK1.out.2⟩
  | false =>
    rw [hi] at hl
    have HA : Hid (addD L x = L ++ [x]) := by show _ = _; unfold addD; rw [hi]; rfl
    have h1 := HX.out.on hb1
    obtain ⟨w2, hr2, h2, ht2⟩ := MpAt.store h1.mp mapT_u keySt isSt injSt x (.agg #[])
    have h3 : DsT F g L (L ++ [x]) w2 (.slice a0 n p0) bm := h1.setM (ht2.kp rfl) (h2.congr (setF_add L x))
    have hk2 : Kp F w w2 := (Kp.of_below hb1).trans ((ht2.kp (F := fun k => k = bm) rfl).weak (fun k e => e ▸ h1.fm))
    obtain ⟨d0, d1⟩ := h1.c0
    obtain ⟨e0, e1⟩ := h3.c0
    have HO := hidK h3.own
    have H3 := hidK h3
    have HK2 := hidK hk2
    have HLT : Hid (∀ k, (Value.slice a0 n p0).ownBlock = some k → k < w2.heap.size) := fun k hk => h3.own.lt k hk
    clear hi HX hb1 h1 h2 ht2 h3 hk2
    subst hZ
    go_enter Try.func18, Try.ntmps18
    go_upto_region 2 with (at_lookup; refine wp_look _ rfl _ _ 52 true rfl _ _ _ rfl rfl hl ?_)
    rw [← hw1]
    clear hw1 c0 c1 hl
    go_upto_region 3 with (at_mapUpdate; refine wp_store _ rfl _ _ _ 52 rfl _ _ _ rfl rfl rfl w2 hr2 ?_)
    clear d0 d1 hr2
    go_wp2_with (first
      | (refine wpG_one (F := F) elT rfl (.tmp 26) (.tmp 28) rfl (.slice a0 n p0) L x #[.string x] rfl rfl rfl HO.out (txL_one x) (by have := HN.out; omega) (fun b hb => HF.out b (Nat.le_trans HK2.out.size hb)) ?_; intro v4 w4 o4 k4 l4; have HO4 := hidK o4; have HK4 := hidK k4; obtain ⟨a4, p4, e4, _⟩ := o4.form; obtain ⟨m4, hm4⟩ : ∃ m, m = (L ++ [x]).length := ⟨_, rfl⟩; rw [← hm4] at e4; clear hm4 o4 k4 l4; subst e4; have HB4 : Hid (w4.heap[g]? = some (.cells #[.slice a0 n p0, .map (some bm)] 54 (0, 0))) := (HK4.out.block g H3.out.glt (fun e => (H3.out.nl _ e).1 rfl)).trans H3.out.blk)
      | (refine wpList_store_kz rfl rfl 27 _ _ rfl g 0 (.slice a4 m4 p4) rfl rfl 54 #[.slice a0 n p0, .map (some bm)] #[.slice a4 m4 p4, .map (some bm)] HB4.out sizeSlT rfl rfl rfl ?_; intro W6 g6 q6; have HG6 := hidK g6; have HQ6 := hidK q6; clear g6 q6))
    go_end0
    refine ⟨rfl, ⟨_, by rw [HA.out]; exact H3.out.putL HK4.out HO4.out HG6.out HQ6.out⟩, ?_⟩
    exact HK2.out.trans ((HK4.out.weak (fun k hk => H3.out.own.2 k hk)).trans (Kp.kq HQ6.out H3.out.fg))
end Go.Proofs.Ytiedimmbcmpfbaa
