import Derived.Test.YtnnpdomfkedhpaaM2
import Derived.Test.YtnnpdomfkedhpaaRL
import Derived.Test.YtnnpdomfkedhpaaRN
import Derived.Test.YtnnpdomfkedhpaaGP

-- what was made, as libraries; how long everything is.
namespace Go.Proofs.Ytnnpdomfkedhpaa
open Go.ChangeShapes Go.WideShapes Go.ChangeAt Go.RowKit Go.MapKept
set_option linter.unusedVariables false
set_option maxRecDepth 100000
theorem rowLL_of {B : Nat} {W : World} {v : Value} {fs : List Value} {D : List (List ByteArray)} (hB : B ≤ W.heap.size) (h : OwnF (fun b => B ≤ b) vaL 1 23 W v fs) (hl : fs.length = D.length) (hr : ∀ (i : Nat) (u : Value) (l : List ByteArray), fs[i]? = some u → D[i]? = some l → RowN (fun b => B ≤ b) txL W u l) : RowLL (fun b => W.heap.size ≤ b) W v D :=
  ⟨fs, RowG.rowN (by decide) vaL_len (OwnF.row elL h) (fun b hb => hb), hl, fun i u l hu hl => (hr i u l hu hl).weak (fun b _ hh => Nat.le_trans hB hh) (by decide) txL_len⟩
theorem LvO.lib {B : Nat} {W : World} {r : Sh} (h : LvO B W r) (hB : B ≤ W.heap.size) : LibAt (fun b => W.heap.size ≤ b) W r.v.e r.v.a r.v.n r.v.f r.v.g r.L :=
  ⟨RowG.rowN (by decide) enL_len (OwnF.row elE h.e) (fun b hb => hb), RowG.rowN (by decide) nmL_len (OwnF.row elI h.a) (fun b hb => hb), RowG.rowN (by decide) txL_len (OwnF.row elT h.n) (fun b hb => hb), rowLL_of hB h.f h.lf h.rf, rowLL_of hB h.g h.lg h.rg⟩
/-- the made row reads as libraries -/
theorem ShB.libs {B g : Nat} {W : World} {R : List Sh} (h : ShB B g W R) (h3 : R.length = 3) (hB : B ≤ W.heap.size) : LibsAt (fun b => W.heap.size ≤ b) W (.slice (some ⟨g, 0, none⟩) 3 3) (R.map (·.v)) (R.map (·.L)) := by
  refine ⟨⟨some ⟨g, 0, none⟩, 3, by rw [List.length_map, h3], by rw [List.length_map, h3]; exact Nat.le_refl _, by decide, (fun e => by cases e), fun _ => ⟨g, 0, rfl, ?_, fun j u hu => ?_⟩⟩, by rw [List.length_map, List.length_map], fun i x L hx hL => ?_⟩
  · have := (Array.getElem?_eq_some_iff.1 h.blk).1
    show ¬ _ ≤ _
    omega
  · rw [Nat.zero_add]
    refine cell_rowK h.blk j u ?_
    rw [List.getElem?_toArray, ← hu, List.flatMap_map]
  · rw [List.getElem?_map] at hx hL
    cases hr : R[i]? with
    | none => rw [hr] at hx; cases hx
    | some r =>
      rw [hr] at hx hL
      injection hx with hx
      injection hL with hL
      subst hx hL
      exact (h.ea i r hr).lib hB
/-- its lists of names are the objects' -/
def LbM (O : List Ob) (L : Lb) : Prop := (∀ l ∈ L.df, ∃ o ∈ O, l = o.df) ∧ ∀ l ∈ L.nd, ∃ o ∈ O, l = o.nd
theorem lbM_fold {O : List Ob} {kf : Nat → Int} (is : List Nat) : ∀ {Ls : List Lb}, (∀ L ∈ Ls, LbM O L) → ∀ L ∈ is.foldl (shN O kf) Ls, LbM O L := by
  induction is with
  | nil => intro Ls h L hL; exact h L hL
  | cons i t ih =>
    intro Ls h L hL
    rw [List.foldl_cons] at hL
    refine ih (fun L hL => ?_) L hL
    unfold shN at hL
    cases ho : O[i]? with
    | none => rw [ho] at hL; exact h L hL
    | some o =>
      rw [ho] at hL
      simp only at hL
      obtain ⟨j, hj⟩ := List.getElem?_of_mem hL
      rw [List.getElem?_modify] at hj
      cases hq : Ls[j]? with
      | none => rw [hq] at hj; cases hj
      | some L0 =>
        rw [hq] at hj
        have hL0 := h L0 (List.mem_of_getElem? hq)
        have hj' : (if (kf i).toNat = j then addO o i L0 else L0) = L := by injection hj
        by_cases hk : (kf i).toNat = j
        · rw [if_pos hk] at hj'
          subst hj'
          refine ⟨fun l hl => ?_, fun l hl => ?_⟩
          · rcases List.mem_append.1 hl with q | q
            · exact hL0.1 l q
            · rw [List.mem_singleton] at q; exact ⟨o, List.mem_of_getElem? ho, q⟩
          · rcases List.mem_append.1 hl with q | q
            · exact hL0.2 l q
            · rw [List.mem_singleton] at q; exact ⟨o, List.mem_of_getElem? ho, q⟩
        · rw [if_neg hk] at hj'
          subst hj'
          exact hL0
theorem lbM_start {O : List Ob} : ∀ L ∈ [noLb, noLb, noLb], LbM O L := fun L hL => by
  have : L = noLb := by simp at hL; exact hL
  subst this
  exact ⟨fun l hl => by simp [noLb] at hl, fun l hl => by simp [noLb] at hl⟩
theorem shN_len {O : List Ob} {kf : Nat → Int} (is : List Nat) : ∀ {Ls : List Lb}, (is.foldl (shN O kf) Ls).length = Ls.length := by
  induction is with
  | nil => intro Ls; rfl
  | cons i t ih =>
    intro Ls
    rw [List.foldl_cons, ih]
    unfold shN
    split
    · rw [List.length_modify]
    · rfl
theorem numL_mem2 {Ls : List Lb} {x : Int × Lb} (h : x ∈ numL Ls) : x.2 ∈ Ls := by
  obtain ⟨k, _, h2⟩ := numL_mem h
  exact List.mem_of_getElem? h2
structure ShLim (Ls : List Lb) : Prop where
  l : Ls.length = 3
  lim : Lim 1048576 1048576 3000 (numL Ls)
  a : ∀ L ∈ Ls, L.a.length < 4611686018427387904
  s : sizesN (numL Ls) ≤ 3000
theorem sizes_le (Ls : List Lb) (m : Nat) (h : ∀ L ∈ Ls, L.a.length ≤ m) : sizesN (numL Ls) ≤ m * Ls.length := by
  unfold sizesN
  have h2 : ∀ x ∈ numL Ls, x.2.a.length ≤ m := fun x hx => h _ (numL_mem2 hx)
  rw [← numL_len]
  generalize numL Ls = l at h2
  induction l with
  | nil => simp
  | cons x r ih =>
    rw [List.map_cons, List.sum_cons, List.length_cons, Nat.mul_add, Nat.mul_one]
    have := h2 x (.head _)
    have := ih (fun y hy => h2 y (.tail _ hy))
    omega
theorem sh_lim {O : List Ob} {kf : Nat → Int} (hM : ∀ o ∈ O, o.df.length ≤ 1048576 ∧ o.nd.length ≤ 1048576) {is : List Nat} (hn : is.length ≤ 1000) : ShLim (shelvesN O kf is) := by
  have hb : ∀ L ∈ shelvesN O kf is, Bnd (0 + is.length) L := bnd_fold (kf := kf) (fun o ho => (hM o ho).1) is bnd_start
  rw [Nat.zero_add] at hb
  have hm : ∀ L ∈ shelvesN O kf is, LbM O L := lbM_fold is lbM_start
  have hl : (shelvesN O kf is).length = 3 := shN_len is
  refine ⟨hl, ⟨fun x hx => ⟨fun l h => ?_, fun l h => ?_⟩, fun x hx => ?_, by omega, by omega⟩, fun L hL => ?_, ?_⟩
  · obtain ⟨o, h1, rfl⟩ := (hm _ (numL_mem2 hx)).1 l h
    exact (hM o h1).1
  · obtain ⟨o, h1, rfl⟩ := (hm _ (numL_mem2 hx)).2 l h
    exact (hM o h1).2
  · have h1 := (hb _ (numL_mem2 hx)).e
    have h2 : 1048576 * is.length ≤ 1048576 * 1000 := Nat.mul_le_mul_left _ hn
    omega
  · have := (hb L hL).a; omega
  · have := sizes_le (shelvesN O kf is) 1000 (fun L hL => Nat.le_trans (hb L hL).a hn)
    rw [hl] at this
    omega
theorem ShLim.siz {Ls : List Lb} (h : ShLim Ls) {roots : List ByteArray} (hr : roots.length ≤ 1048576) {n : Nat} (hp : (groupN (numL Ls) ⟨[], roots, []⟩).p.length ≤ n) (hn : n ≤ 1000) : (groupN (numL Ls) ⟨[], roots, []⟩).w.length ≤ 4398046511104 := by
  have h1 : Siz 1048576 1048576 (groupN (numL Ls) ⟨[], roots, []⟩) := group_siz h.lim.m ⟨by simp, by show roots.length ≤ _; omega⟩
  have h2 := h1.2
  have h3 : 1048576 * (groupN (numL Ls) ⟨[], roots, []⟩).p.length ≤ 1048576 * 1000 := Nat.mul_le_mul_left _ (Nat.le_trans hp hn)
  omega
theorem rok_iter {O : List Ob} {M R : Nat} (hM : ∀ o ∈ O, o.nd.length ≤ M) (k : Nat) : ∀ st, Rok O R M st → Rok O R M (riter O k st) := by
  induction k with
  | zero => intro st h; exact h
  | succ k ih => intro st h; exact ih _ (rok_fold O hM _ st h)
theorem rok_all {O : List Ob} {M : Nat} (hM : ∀ o ∈ O, o.nd.length ≤ M) (roots : List ByteArray) : Rok O roots.length M (rall O roots) :=
  rok_iter hM _ _ ⟨by simp, by simp only; omega⟩
theorem rall_al {O : List Ob} (hM : ∀ o ∈ O, o.nd.length ≤ 1048576) {roots : List ByteArray} (hr : roots.length ≤ 1048576) (hn : O.length ≤ 1000) : (rall O roots).2.length ≤ 4398046511104 := by
  have h1 := (rok_all hM roots).le
  have h2 : 1048576 * O.length ≤ 1048576 * 1000 := Nat.mul_le_mul_left _ hn
  omega
theorem rch_p {O : List Ob} {kf : Nat → Int} {fl : List Bool} {asked : List ByteArray} {x : Lk} (h : Rch O kf fl asked x) : x.p.length ≤ O.length := by
  rw [h.n]; exact insK_le _ _
end Go.Proofs.Ytnnpdomfkedhpaa
