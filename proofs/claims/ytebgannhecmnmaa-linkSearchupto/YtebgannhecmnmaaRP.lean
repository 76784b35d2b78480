
-- The document's Pulls.
import Derived.Test.YtebgannhecmnmaaRB
namespace Go.Proofs.Ytebgannhecmnmaa
open Go.ChangeShapes Go.WideShapes Go.ChangeAt Go.RowKit Go.MapKept
set_option linter.unusedVariables false
set_option maxRecDepth 100000
def pullsI (L : Lb) (num : Int) (s : Lk) (x : ByteArray × Int) : Int :=
  if isIn s.w x.1 then (match idx L.a x.2 with
    | none => -1
    | some i => if isIn s.p (num, x.2) then -1 else (i : Int)) else -1
theorem oneN_no {L : Lb} {num : Int} {s : Lk} {x : ByteArray × Int} (h : pullsI L num s x < 0) : oneN L num s x = s := by
  unfold pullsI at h
  unfold oneN
  split
  · rename_i hw
    rw [if_pos hw] at h
    cases hj : idx L.a x.2 with
    | none => rfl
    | some i =>
      rw [hj] at h
      simp only at h ⊢
      split
      · rfl
      · rename_i hq
        rw [if_neg hq] at h
        omega
  · rfl
theorem oneN_yes {L : Lb} {num : Int} {s : Lk} {x : ByteArray × Int} {i : Nat} (h : pullsI L num s x = (i : Int)) : L.a[i]? = some x.2 ∧ oneN L num s x = pullN s (num, x.2) (L.df.getD i []) (L.nd.getD i []) := by
  unfold pullsI at h
  unfold oneN
  by_cases hw : isIn s.w x.1 = true
  · rw [if_pos hw] at h ⊢
    cases hj : idx L.a x.2 with
    | none => rw [hj] at h; simp only at h; omega
    | some j =>
      rw [hj] at h
      simp only at h ⊢
      by_cases hq : isIn s.p (num, x.2) = true
      · rw [if_pos hq] at h; omega
      · rw [if_neg hq] at h ⊢
        have : j = i := by omega
        subst this
        exact ⟨mem_of_idx hj, rfl⟩
  · rw [if_neg hw] at h; omega
theorem pullsI_or (L : Lb) (num : Int) (s : Lk) (x : ByteArray × Int) : pullsI L num s x = -1 ∨ ∃ i : Nat, pullsI L num s x = (i : Int) := by
  unfold pullsI
  split
  · split
    · exact .inl rfl
    · split
      · exact .inl rfl
      · exact .inr ⟨_, rfl⟩
  · exact .inl rfl
set_option maxHeartbeats 8000000 in
theorem rpulls_c (ve va vn vf vg : Value) (L : Lb) (num : Int) (n : ByteArray) (y : Int) (vd vw vp : Value) (s : Lk) (w : World) (hA : RowI w va L.a) (hw : RowT w vw s.w) (hp : RowP w vp s.p) (n1 : s.w.length < 4611686018427387904) (n2 : L.a.length < 4611686018427387904) (n3 : s.p.length < 4611686018427387904) :
    Calls Try.prog 45 #[.agg #[ve, va, vn, vf, vg], .int .i64 num, .agg #[.string n, .int .i64 y], .agg #[vd, vw, vp]] w fun e w' => e = .returned (.int .i64 (pullsI L num s (n, y))) ∧ Below w.heap.size w w' := by
  obtain ⟨X, hX⟩ : ∃ X, X = Obj.cells #[ve, va, vn, vf, vg] 37 := ⟨_, rfl⟩
  obtain ⟨E, hE⟩ : ∃ E, E = Obj.cells #[.string n, .int .i64 y] 41 := ⟨_, rfl⟩
  obtain ⟨S, hS⟩ : ∃ S, S = Obj.cells #[vd, vw, vp] 26 := ⟨_, rfl⟩
  obtain ⟨w1, hw1⟩ : ∃ w1, w1 = ((w.alloc X).alloc E).alloc S := ⟨_, rfl⟩
  have hb1 : Below w.heap.size w w1 := by rw [hw1]; exact (((Below.refl _ w).alloc (Nat.le_refl _) X).alloc (by simp) E).alloc (by simp; omega) S
  have hx0 : w1.heap[w.heap.size]? = some (.cells #[ve, va, vn, vf, vg] 37 (0, 0)) := by rw [hw1]; exact hupK (hupK (by rw [heap_alloc_new, hX]) E) S
  have hq0 : w1.heap[w.heap.size + 1]? = some (.cells #[.string n, .int .i64 y] 41 (0, 0)) := by rw [hw1]; exact hupK (by rw [heap_new2K, hE]) S
  have hz0 : w1.heap[w.heap.size + 1 + 1]? = some (.cells #[vd, vw, vp] 26 (0, 0)) := by rw [hw1, heap_new3K, hS]
  have x1 : w1.cell? ⟨w.heap.size, 1, none⟩ = some va := cell_rowK hx0 1 _ rfl
  have e0 : w1.cell? ⟨w.heap.size + 1, 0, none⟩ = some (.string n) := cell_rowK hq0 0 _ rfl
  have e1 : w1.cell? ⟨w.heap.size + 1, 1, none⟩ = some (.int .i64 y) := cell_rowK hq0 1 _ rfl
  obtain ⟨z0, z1, z2⟩ := lk_cells hz0
  have HH := hidK (rhas_c vw s.w n w1 (hw.on hb1) n1)
  have HI := hidK (rindex_c va L.a y w1 (hA.on hb1) n2)
  have HT := hidK (rtaken_c vp s.p num y w1 (hp.on hb1) n3)
  have HB1 := hidK hb1
  obtain ⟨r, hr⟩ : ∃ r, r = pullsI L num s (n, y) := ⟨_, rfl⟩
  rw [← hr]
  unfold pullsI at hr
  simp only at hr
  clear hA hw hp hb1 hx0 hq0 hz0
  subst hX hE hS
  cases h1 : isIn s.w n with
  | false =>
    rw [h1] at HH hr
    simp only [Bool.false_eq_true, if_false] at hr
    subst hr
    go_enter Try.func45, Try.ntmps45
    go_upto_region 1 with fail
    rw [← hw1]
    clear hw1
    go_wp2_with (go_at_call 58; refine HH.out.mono ?_; rintro e w2 ⟨rfl, hw2⟩; subst w2)
    go_ret
    exact ⟨rfl, HB1.out⟩
  | true =>
    rw [h1] at HH hr
    simp only [if_true] at hr
    cases h2 : idx L.a y with
    | none =>
      rw [h2] at hr
      simp only at hr
      subst hr
      have hi : idxI L.a y = -1 := by unfold idxI; rw [h2]
      rw [hi] at HI
      go_enter Try.func45, Try.ntmps45
      go_upto_region 1 with fail
      rw [← hw1]
      clear hw1
      go_wp2_with (first
        | (go_at_call 58; refine HH.out.mono ?_; rintro e w2 ⟨rfl, hw2⟩; subst w2)
        | (go_at_call 59; refine HI.out.mono ?_; rintro e w2 ⟨rfl, hw2⟩; subst w2))
      go_ret
      exact ⟨rfl, HB1.out⟩
    | some i =>
      rw [h2] at hr
      simp only at hr
      have hi : idxI L.a y = (i : Int) := by unfold idxI; rw [h2]
      rw [hi] at HI
      have i0 : ¬ ((i : Int) < 0) := by omega
      cases h3 : isIn s.p (num, y) with
      | true =>
        rw [h3] at HT hr
        simp only [if_true] at hr
        subst hr
        clear h1 h2 h3 hi
        go_enter Try.func45, Try.ntmps45
        go_upto_region 1 with fail
        rw [← hw1]
        clear hw1
        go_wp2_with (first
          | (go_at_call 58; refine HH.out.mono ?_; rintro e w2 ⟨rfl, hw2⟩; subst w2)
          | (go_at_call 59; refine HI.out.mono ?_; rintro e w2 ⟨rfl, hw2⟩; subst w2)
          | (go_at_call 60; refine HT.out.mono ?_; rintro e w2 ⟨rfl, hw2⟩; have HB2 := hidK hw2; clear hw2))
        go_ret
        exact ⟨rfl, HB1.out.trans (HB2.out.mono HB1.out.size)⟩
      | false =>
        rw [h3] at HT hr
        simp only [Bool.false_eq_true, if_false] at hr
        have HR := hidK hr
        clear h1 h2 h3 hi hr
        go_enter Try.func45, Try.ntmps45
        go_upto_region 1 with fail
        rw [← hw1]
        clear hw1
        go_wp2_with (first
          | (go_at_call 58; refine HH.out.mono ?_; rintro e w2 ⟨rfl, hw2⟩; subst w2)
          | (go_at_call 59; refine HI.out.mono ?_; rintro e w2 ⟨rfl, hw2⟩; subst w2)
          | (go_at_call 60; refine HT.out.mono ?_; rintro e w2 ⟨rfl, hw2⟩; have HB2 := hidK hw2; clear hw2))
        go_ret
        rw [HR.out]
        exact ⟨rfl, HB1.out.trans (HB2.out.mono HB1.out.size)⟩
end Go.Proofs.Ytebgannhecmnmaa
