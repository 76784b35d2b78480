
-- LinkFixed, walked.
import Derived.Test.YtnnpdomfkedhpaaHC
import Derived.Test.YtnnpdomfkedhpaaLF
namespace Go.Proofs.Ytnnpdomfkedhpaa
open Go.ChangeShapes Go.WideShapes Go.ChangeAt Go.RowKit Go.MapKept
set_option linter.unusedVariables false
set_option maxRecDepth 100000
/-- what comes in is small -/
structure Bulk (Ls : List Lb) (s : Lk) : Prop where
  l : Ls.length ≤ 1048576
  e : ∀ L ∈ Ls, L.e.length ≤ 1048576
  a : ∀ L ∈ Ls, L.a.length ≤ 1048576
  f : ∀ L ∈ Ls, ∀ x ∈ L.df, x.length ≤ 1048576
  g : ∀ L ∈ Ls, ∀ x ∈ L.nd, x.length ≤ 1048576
  p : sizesN (numL Ls) + s.p.length ≤ 1048576
  d : s.d.length ≤ 1048576
  w : s.w.length ≤ 1048576
theorem mem_numL {Ls : List Lb} {x : Int × Lb} (h : x ∈ numL Ls) : x.2 ∈ Ls := by
  obtain ⟨i, hi⟩ := List.getElem?_of_mem h
  rw [numL_get] at hi
  cases e : Ls[i]? with
  | none => rw [e] at hi; simp at hi
  | some L =>
    rw [e] at hi
    simp at hi
    subst hi
    exact List.mem_of_getElem? e
theorem Bulk.lim {Ls : List Lb} {s : Lk} (h : Bulk Ls s) {K Pm : Nat} (hK : K ≤ 1099512676352) (hP : Pm ≤ 2097152) : Lim K 1048576 Pm (numL Ls) :=
  ⟨fun x hx => ⟨h.f _ (mem_numL hx), h.g _ (mem_numL hx)⟩, fun x hx => Nat.le_trans (h.e _ (mem_numL hx)) (by decide), by omega, by omega⟩
theorem Bulk.aok {Ls : List Lb} {s : Lk} (h : Bulk Ls s) : ∀ L ∈ Ls, L.a.length < 4611686018427387904 := fun L hL => by have := h.a L hL; omega
/-- Group, of what is small; and again of what it gave -/
theorem group1 {v : Value} {lvs : List Lv} {Ls : List Lb} {vd vw vp : Value} {s : Lk} {w : World} (hB : Bulk Ls s) (hV : LibsAt (fun b => w.heap.size ≤ b) w v lvs Ls) (hd : RowT w vd s.d) (hw : RowT w vw s.w) (hp : RowP w vp s.p) :
    Calls Try.prog 7 #[v, .agg #[vd, vw, vp]] w fun e w' => ∃ a0 l0 c0 a1 l1 c1 a2 l2 c2, e = .returned (.agg #[.slice a0 l0 c0, .slice a1 l1 c1, .slice a2 l2 c2]) ∧ LkOwn w.heap.size w' (.slice a0 l0 c0) (.slice a1 l1 c1) (.slice a2 l2 c2) (groupN (numL Ls) s) ∧ Below w.heap.size w w' :=
  group_c v lvs Ls vd vw vp s w 1048576 1048576 hV hd hw hp 1048576 hB.d hB.w (by have := hB.l; omega) hB.aok (hB.lim (by decide) (by decide)) hB.p
theorem Bulk.siz {Ls : List Lb} {s : Lk} (h : Bulk Ls s) : (groupN (numL Ls) s).p.length ≤ 1048576 ∧ (groupN (numL Ls) s).d.length ≤ 1099512676352 ∧ (groupN (numL Ls) s).w.length ≤ 1099512676352 := by
  have g := (group_goes (numL Ls) s).mu
  have m := mu_le (numL Ls) s
  have hp := h.p
  have hs : Siz 1048576 1048576 (groupN (numL Ls) s) := group_siz (fun x hx => ⟨h.f _ (mem_numL hx), h.g _ (mem_numL hx)⟩) ⟨by have := h.d; omega, by have := h.w; omega⟩
  have hl : (groupN (numL Ls) s).p.length ≤ 1048576 := by omega
  obtain ⟨h1, h2⟩ := hs
  omega
theorem group2 {v : Value} {lvs : List Lv} {Ls : List Lb} {vd vw vp : Value} {s : Lk} {w : World} (hB : Bulk Ls s) (hV : LibsAt (fun b => w.heap.size ≤ b) w v lvs Ls) (hd : RowT w vd (groupN (numL Ls) s).d) (hw : RowT w vw (groupN (numL Ls) s).w) (hp : RowP w vp (groupN (numL Ls) s).p) :
    Calls Try.prog 7 #[v, .agg #[vd, vw, vp]] w fun e w' => ∃ a0 l0 c0 a1 l1 c1 a2 l2 c2, e = .returned (.agg #[.slice a0 l0 c0, .slice a1 l1 c1, .slice a2 l2 c2]) ∧ LkOwn w.heap.size w' (.slice a0 l0 c0) (.slice a1 l1 c1) (.slice a2 l2 c2) (groupN (numL Ls) s) ∧ Below w.heap.size w w' := by
  have hz := hB.siz
  have hp1 := hB.p
  have := group_c v lvs Ls vd vw vp (groupN (numL Ls) s) w 1048576 2097152 hV hd hw hp 1099512676352 hz.2.1 hz.2.2 (by have := hB.l; omega) hB.aok (hB.lim (by decide) (by decide)) (by omega)
  rw [group_again] at this
  exact this
theorem idxI_pos {A : List Int} {x : Int} (h : 0 ≤ idxI A x) : ∃ i, idx A x = some i := by
  unfold idxI at h
  cases e : idx A x with
  | none => rw [e] at h; simp at h
  | some i => exact ⟨i, rfl⟩
/-- a link answered, read -/
theorem LkOwn.on {B : Nat} {w w' : World} {a b c : Value} {x : Lk} (h : LkOwn B w a b c x) (hb : Below w.heap.size w w') : LkOwn B w' a b c x := ⟨h.d.on hb, h.wt.on hb, h.p.on hb, h.n⟩
end Go.Proofs.Ytnnpdomfkedhpaa
