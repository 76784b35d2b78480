import Derived.Test.YtnnpdomfkedhpaaGP
import Derived.Test.YtnnpdomfkedhpaaHC
import Derived.Deep.QuietTactic
import Derived.Test.YtnnpdomfkedhpaaHB
import Derived.Test.YtnnpdomfkedhpaaCP
import Derived.Test.YtnnpdomfkedhpaaWF
import Derived.Test.YtnnpdomfkedhpaaRQ

-- Search.
namespace Go.Proofs.Ytnnpdomfkedhpaa
open Go.ChangeShapes Go.WideShapes Go.ChangeAt Go.RowKit Go.MapKept
set_option linter.unusedVariables false
set_option maxRecDepth 100000
end Go.Proofs.Ytnnpdomfkedhpaa

-- probe.
namespace Go.Proofs.Ytnnpdomfkedhpaa
open Go.ChangeShapes Go.WideShapes Go.ChangeAt Go.RowKit Go.MapKept
set_option linter.unusedVariables false
set_option maxRecDepth 100000
def pF : ByteArray := ⟨#[102]⟩
def pG : ByteArray := ⟨#[103]⟩
def pM : ByteArray := ⟨#[109]⟩
def pL : Lb := ⟨[(pF, 8)], [8], [pM], [[pF]], [[pG]]⟩
theorem pL_srch : srchN pL 3 ⟨[], [pF], []⟩ = ⟨[pF], [pG], [(3, 8)]⟩ := by kernel_rfl
theorem rowN_one {α : Type} {c : α → List Value} {F : Nat → Prop} {W : World} {b : Nat} {cs : Array Value} {t : TypeId} (x : α) (h : W.heap[b]? = some (.cells cs t (0, 0))) (hcs : cs.toList = c x) (hF : ¬ F b) : RowN F c W (.slice (some ⟨b, 0, none⟩) 1 1) [x] := by
  refine ⟨_, 1, rfl, by simp, by decide, by simp, fun _ => ⟨b, 0, rfl, hF, fun j u hu => ?_⟩⟩
  rw [Nat.zero_add]
  refine cell_rowK h j u ?_
  rw [List.flatMap_cons, List.flatMap_nil, List.append_nil, ← hcs] at hu
  simpa using hu
theorem nine_new (w : World) (o1 o2 o3 o4 o5 o6 o7 o8 o9 : Obj) : (((((((((w.alloc o1).alloc o2).alloc o3).alloc o4).alloc o5).alloc o6).alloc o7).alloc o8).alloc o9).heap[w.heap.size]? = some o1 ∧ (((((((((w.alloc o1).alloc o2).alloc o3).alloc o4).alloc o5).alloc o6).alloc o7).alloc o8).alloc o9).heap[w.heap.size + 1]? = some o2 ∧ (((((((((w.alloc o1).alloc o2).alloc o3).alloc o4).alloc o5).alloc o6).alloc o7).alloc o8).alloc o9).heap[w.heap.size + 1 + 1]? = some o3 ∧ (((((((((w.alloc o1).alloc o2).alloc o3).alloc o4).alloc o5).alloc o6).alloc o7).alloc o8).alloc o9).heap[w.heap.size + 1 + 1 + 1]? = some o4 ∧ (((((((((w.alloc o1).alloc o2).alloc o3).alloc o4).alloc o5).alloc o6).alloc o7).alloc o8).alloc o9).heap[w.heap.size + 1 + 1 + 1 + 1]? = some o5 ∧ (((((((((w.alloc o1).alloc o2).alloc o3).alloc o4).alloc o5).alloc o6).alloc o7).alloc o8).alloc o9).heap[w.heap.size + 1 + 1 + 1 + 1 + 1]? = some o6 ∧ (((((((((w.alloc o1).alloc o2).alloc o3).alloc o4).alloc o5).alloc o6).alloc o7).alloc o8).alloc o9).heap[w.heap.size + 1 + 1 + 1 + 1 + 1 + 1]? = some o7 ∧ (((((((((w.alloc o1).alloc o2).alloc o3).alloc o4).alloc o5).alloc o6).alloc o7).alloc o8).alloc o9).heap[w.heap.size + 1 + 1 + 1 + 1 + 1 + 1 + 1]? = some o8 ∧ (((((((((w.alloc o1).alloc o2).alloc o3).alloc o4).alloc o5).alloc o6).alloc o7).alloc o8).alloc o9).heap[w.heap.size + 1 + 1 + 1 + 1 + 1 + 1 + 1 + 1]? = some o9 ∧ (((((((((w.alloc o1).alloc o2).alloc o3).alloc o4).alloc o5).alloc o6).alloc o7).alloc o8).alloc o9).heap.size = w.heap.size + 9 ∧ Below w.heap.size w (((((((((w.alloc o1).alloc o2).alloc o3).alloc o4).alloc o5).alloc o6).alloc o7).alloc o8).alloc o9) := by
  have h1 := heap_alloc_new w o1
  have h2 := heap_alloc_new (w.alloc o1) o2
  rw [World.size_alloc] at h2
  have h3 := heap_alloc_new ((w.alloc o1).alloc o2) o3
  rw [World.size_alloc, World.size_alloc] at h3
  have h4 := heap_alloc_new (((w.alloc o1).alloc o2).alloc o3) o4
  rw [World.size_alloc, World.size_alloc, World.size_alloc] at h4
  have h5 := heap_alloc_new ((((w.alloc o1).alloc o2).alloc o3).alloc o4) o5
  rw [World.size_alloc, World.size_alloc, World.size_alloc, World.size_alloc] at h5
  have h6 := heap_alloc_new (((((w.alloc o1).alloc o2).alloc o3).alloc o4).alloc o5) o6
  rw [World.size_alloc, World.size_alloc, World.size_alloc, World.size_alloc, World.size_alloc] at h6
  have h7 := heap_alloc_new ((((((w.alloc o1).alloc o2).alloc o3).alloc o4).alloc o5).alloc o6) o7
  rw [World.size_alloc, World.size_alloc, World.size_alloc, World.size_alloc, World.size_alloc, World.size_alloc] at h7
  have h8 := heap_alloc_new (((((((w.alloc o1).alloc o2).alloc o3).alloc o4).alloc o5).alloc o6).alloc o7) o8
  rw [World.size_alloc, World.size_alloc, World.size_alloc, World.size_alloc, World.size_alloc, World.size_alloc, World.size_alloc] at h8
  have h9 := heap_alloc_new ((((((((w.alloc o1).alloc o2).alloc o3).alloc o4).alloc o5).alloc o6).alloc o7).alloc o8) o9
  rw [World.size_alloc, World.size_alloc, World.size_alloc, World.size_alloc, World.size_alloc, World.size_alloc, World.size_alloc, World.size_alloc] at h9
  exact ⟨hupK (hupK (hupK (hupK (hupK (hupK (hupK (hupK (h1) o2) o3) o4) o5) o6) o7) o8) o9, hupK (hupK (hupK (hupK (hupK (hupK (hupK (h2) o3) o4) o5) o6) o7) o8) o9, hupK (hupK (hupK (hupK (hupK (hupK (h3) o4) o5) o6) o7) o8) o9, hupK (hupK (hupK (hupK (hupK (h4) o5) o6) o7) o8) o9, hupK (hupK (hupK (hupK (h5) o6) o7) o8) o9, hupK (hupK (hupK (h6) o7) o8) o9, hupK (hupK (h7) o8) o9, hupK (h8) o9, h9, by simp only [World.size_alloc], (((((((((Below.refl _ w).alloc (by exact Nat.le_refl _) o1).alloc (by simp only [World.size_alloc]; omega) o2).alloc (by simp only [World.size_alloc]; omega) o3).alloc (by simp only [World.size_alloc]; omega) o4).alloc (by simp only [World.size_alloc]; omega) o5).alloc (by simp only [World.size_alloc]; omega) o6).alloc (by simp only [World.size_alloc]; omega) o7).alloc (by simp only [World.size_alloc]; omega) o8).alloc (by simp only [World.size_alloc]; omega) o9⟩
end Go.Proofs.Ytnnpdomfkedhpaa

-- called.
namespace Go.Proofs.Ytnnpdomfkedhpaa
open Go.ChangeShapes Go.WideShapes Go.ChangeAt Go.RowKit Go.MapKept
set_option linter.unusedVariables false
set_option maxRecDepth 100000
def cldB (E : List (ByteArray × Int)) (a : Int) (A : List ByteArray) : Bool := E.any fun x => decide (x.2 = a) && isIn A x.1
theorem cldB_yes {E : List (ByteArray × Int)} {a : Int} {A : List ByteArray} {n : ByteArray} (h : (n, a) ∈ E) (hn : n ∈ A) : cldB E a A = true := by
  unfold cldB
  rw [List.any_eq_true]
  exact ⟨_, h, by simp [isIn_iff.2 hn]⟩
theorem cldB_take {E : List (ByteArray × Int)} {a : Int} {A : List ByteArray} {k : Nat} {n : ByteArray} {b : Int} (h : E[k]? = some (n, b)) (h0 : cldB (E.take k) a A = false) (h1 : (decide (b = a) && isIn A n) = false) : cldB (E.take (k + 1)) a A = false := by
  rw [takeSucc h]
  unfold cldB at h0 ⊢
  rw [List.any_append, h0]
  simp [h1]
end Go.Proofs.Ytnnpdomfkedhpaa

-- LinkCalled: the walk.
namespace Go.Proofs.Ytnnpdomfkedhpaa
open Go.ChangeShapes Go.WideShapes Go.ChangeAt Go.RowKit Go.MapKept
set_option linter.unusedVariables false
set_option maxRecDepth 100000
theorem mem_numI {Ls : List Lb} {x : Int} {L : Lb} (h : (x, L) ∈ numL Ls) : ∃ i : Nat, x = (i : Int) ∧ Ls[i]? = some L := by
  obtain ⟨i, hi⟩ := List.getElem?_of_mem h
  rw [numL_get] at hi
  cases e : Ls[i]? with
  | none => rw [e] at hi; simp at hi
  | some L' =>
    rw [e] at hi
    simp at hi
    obtain ⟨h1, h2⟩ := hi
    subst h1 h2
    exact ⟨i, rfl, e⟩
theorem ndF_ok (Ls : List Lb) : ∀ x ∈ numL Ls, ∀ a i, idx x.2.a a = some i → ndF Ls (x.1, a) = x.2.nd.getD i [] := by
  rintro ⟨x, L⟩ hx a i hi
  obtain ⟨j, rfl, hj⟩ := mem_numI hx
  unfold ndF
  simp only [Int.toNat_natCast, hj]
  simp only at hi
  rw [hi]
theorem ndF_at {Ls : List Lb} {j : Nat} {L : Lb} {a : Int} {i : Nat} (hj : Ls[j]? = some L) (hi : idx L.a a = some i) : ndF Ls ((j : Int), a) = L.nd.getD i [] := by
  unfold ndF
  simp only [Int.toNat_natCast, hj, hi]
theorem idxI_at {A : List Int} {x : Int} {i : Nat} (h : idx A x = some i) : idxI A x = (i : Int) := by unfold idxI; rw [h]
theorem flat_le {q : List (Int × Int)} {nd : Int × Int → List ByteArray} (h : ∀ x ∈ q, (nd x).length ≤ 1048576) (k : Nat) : ((q.take k).flatMap nd).length ≤ 1048576 * q.length := by
  induction q generalizing k with
  | nil => simp
  | cons x r ih =>
    cases k with
    | zero => simp
    | succ k =>
      rw [List.take_succ_cons, List.flatMap_cons, List.length_append, List.length_cons, Nat.mul_add, Nat.mul_one]
      have := ih (fun y hy => h y (.tail _ hy)) k
      have := h x (.head _)
      omega
theorem ndF_len {Ls : List Lb} {s : Lk} (hB : Bulk Ls s) (x : Int × Int) : (ndF Ls x).length ≤ 1048576 := by
  unfold ndF
  split
  · simp
  · rename_i L hL
    split
    · simp
    · exact getD_len (hB.g L (List.mem_of_getElem? hL)) _
theorem LibAt.needs {F : Nat → Prop} {w : World} {ve va vn vf vg : Value} {L : Lb} (h : LibAt F w ve va vn vf vg L) : ∃ vs : List Value, RowG vaL w vg vs ∧ vs.length = L.nd.length ∧ ∀ (i : Nat) (u : Value), vs[i]? = some u → RowT w u (L.nd.getD i []) := by
  obtain ⟨vs, h1, h2, h3⟩ := h.g
  refine ⟨vs, h1.row, h2, fun i u hu => ?_⟩
  have hl : i < L.nd.length := by have := (List.getElem?_eq_some_iff.1 hu).1; omega
  have := (h3 i u _ hu (List.getElem?_eq_getElem hl)).row
  rwa [List.getD_eq_getElem?_getD, List.getElem?_eq_getElem hl]
end Go.Proofs.Ytnnpdomfkedhpaa

-- shelves, plainly.
namespace Go.Proofs.Ytnnpdomfkedhpaa
open Go.ChangeShapes Go.WideShapes Go.ChangeAt Go.RowKit Go.MapKept
set_option linter.unusedVariables false
set_option maxRecDepth 100000
def plI (i : Nat) : Int := 8 + 2 * (i : Int)
/-- an object put into a library -/
def addO (o : Ob) (i : Nat) (L : Lb) : Lb := ⟨L.e ++ o.df.map (fun n => (n, plI i)), L.a ++ [plI i], L.n ++ [⟨#[109]⟩], L.df ++ [o.df], L.nd ++ [o.nd]⟩
def shN (O : List Ob) (kf : Nat → Int) (Ls : List Lb) (i : Nat) : List Lb := match O[i]? with
  | some o => Ls.modify (kf i).toNat (addO o i)
  | none => Ls
def noLb : Lb := ⟨[], [], [], [], []⟩
def shelvesN (O : List Ob) (kf : Nat → Int) (is : List Nat) : List Lb := is.foldl (shN O kf) [noLb, noLb, noLb]
/-- what a library of them holds -/
structure LbI (O : List Ob) (kf : Nat → Int) (dn : List Nat) (k : Nat) (L : Lb) : Prop where
  e : ∀ x ∈ L.e, ∃ (i : Nat) (o : Ob), O[i]? = some o ∧ x.1 ∈ o.df ∧ ((k : Int), x.2) = plc kf i
  l1 : L.df.length = L.a.length
  l2 : L.nd.length = L.a.length
  a : ∀ (j : Nat) (y : Int), L.a[j]? = some y → ∃ (i : Nat) (o : Ob), O[i]? = some o ∧ ((k : Int), y) = plc kf i ∧ L.df[j]? = some o.df ∧ L.nd[j]? = some o.nd
  d : ∀ i ∈ dn, ∀ o, O[i]? = some o → kf i = (k : Int) → plI i ∈ L.a ∧ ∀ n ∈ o.df, (n, plI i) ∈ L.e
structure ShI (O : List Ob) (kf : Nat → Int) (dn : List Nat) (Ls : List Lb) : Prop where
  l : Ls.length = 3
  b : ∀ (k : Nat) (L : Lb), Ls[k]? = some L → LbI O kf dn k L
theorem lbI_add {O : List Ob} {kf : Nat → Int} {dn : List Nat} {k : Nat} {L : Lb} (h : LbI O kf dn k L) {i : Nat} {o : Ob} (ho : O[i]? = some o) (hk : kf i = (k : Int)) : LbI O kf (dn ++ [i]) k (addO o i L) := by
  have hp : ((k : Int), plI i) = plc kf i := by unfold plc plI; rw [hk]
  refine ⟨fun x hx => ?_, by simp [addO, h.l1], by simp [addO, h.l2], fun j y hy => ?_, fun i' hi' o' ho' hk' => ?_⟩
  · rcases List.mem_append.1 hx with q | q
    · exact h.e x q
    · obtain ⟨n, hn, rfl⟩ := List.mem_map.1 q
      exact ⟨i, o, ho, hn, hp⟩
  · have hy' : (L.a ++ [plI i])[j]? = some y := hy
    by_cases hj : j < L.a.length
    · rw [List.getElem?_append_left hj] at hy'
      obtain ⟨i', o', h1, h2, h3, h4⟩ := h.a j y hy'
      refine ⟨i', o', h1, h2, ?_, ?_⟩
      · show (L.df ++ [o.df])[j]? = _
        rw [List.getElem?_append_left (by rw [h.l1]; exact hj)]; exact h3
      · show (L.nd ++ [o.nd])[j]? = _
        rw [List.getElem?_append_left (by rw [h.l2]; exact hj)]; exact h4
    · have hje : j = L.a.length := by
        have h5 := (List.getElem?_eq_some_iff.1 hy').1
        rw [List.length_append, List.length_singleton] at h5
        omega
      subst hje
      rw [List.getElem?_append_right (Nat.le_refl _), Nat.sub_self] at hy'
      simp at hy'
      subst hy'
      refine ⟨i, o, ho, hp, ?_, ?_⟩
      · show (L.df ++ [o.df])[L.a.length]? = _
        rw [← h.l1, List.getElem?_append_right (Nat.le_refl _), Nat.sub_self]; rfl
      · show (L.nd ++ [o.nd])[L.a.length]? = _
        rw [← h.l2, List.getElem?_append_right (Nat.le_refl _), Nat.sub_self]; rfl
  · rcases List.mem_append.1 hi' with q | q
    · obtain ⟨h1, h2⟩ := h.d i' q o' ho' hk'
      exact ⟨List.mem_append_left _ h1, fun n hn => List.mem_append_left _ (h2 n hn)⟩
    · rw [List.mem_singleton] at q
      subst q
      rw [ho] at ho'
      injection ho' with ho'
      subst ho'
      exact ⟨List.mem_append_right _ (List.mem_singleton.2 rfl), fun n hn => List.mem_append_right _ (List.mem_map.2 ⟨n, hn, rfl⟩)⟩
theorem lbI_skip {O : List Ob} {kf : Nat → Int} {dn : List Nat} {k : Nat} {L : Lb} (h : LbI O kf dn k L) {i : Nat} (hk : ∀ o, O[i]? = some o → kf i ≠ (k : Int)) : LbI O kf (dn ++ [i]) k L :=
  ⟨h.e, h.l1, h.l2, h.a, fun i' hi' o' ho' hk' => by
    rcases List.mem_append.1 hi' with q | q
    · exact h.d i' q o' ho' hk'
    · rw [List.mem_singleton] at q
      subst q
      exact absurd hk' (hk o' ho')⟩
theorem sh_step {O : List Ob} {kf : Nat → Int} (hkf : ∀ (i : Nat) (o : Ob), O[i]? = some o → 0 ≤ kf i ∧ kf i ≤ 2) {dn : List Nat} {Ls : List Lb} (h : ShI O kf dn Ls) (i : Nat) : ShI O kf (dn ++ [i]) (shN O kf Ls i) := by
  unfold shN
  cases ho : O[i]? with
  | none => exact ⟨h.l, fun k L hL => lbI_skip (h.b k L hL) (fun o q => by rw [ho] at q; cases q)⟩
  | some o =>
    obtain ⟨k0, k2⟩ := hkf i o ho
    simp only
    refine ⟨by rw [List.length_modify]; exact h.l, fun k L hL => ?_⟩
    rw [List.getElem?_modify] at hL
    cases hq : Ls[k]? with
    | none => rw [hq] at hL; cases hL
    | some L0 =>
      rw [hq] at hL
      have hL' : (if (kf i).toNat = k then addO o i L0 else L0) = L := by injection hL
      by_cases hk : (kf i).toNat = k
      · rw [if_pos hk] at hL'
        subst hL'
        exact lbI_add (h.b k L0 hq) ho (by omega)
      · rw [if_neg hk] at hL'
        subst hL'
        exact lbI_skip (h.b k L0 hq) (fun _ _ e => hk (by omega))
theorem sh_fold {O : List Ob} {kf : Nat → Int} (hkf : ∀ (i : Nat) (o : Ob), O[i]? = some o → 0 ≤ kf i ∧ kf i ≤ 2) (is : List Nat) : ∀ {dn : List Nat} {Ls : List Lb}, ShI O kf dn Ls → ShI O kf (dn ++ is) (is.foldl (shN O kf) Ls) := by
  induction is with
  | nil => intro dn Ls h; rw [List.append_nil]; exact h
  | cons i r ih => intro dn Ls h; rw [List.foldl_cons, show dn ++ i :: r = (dn ++ [i]) ++ r by simp]; exact ih (sh_step hkf h i)
theorem sh_start {O : List Ob} {kf : Nat → Int} : ShI O kf [] [noLb, noLb, noLb] := by
  refine ⟨rfl, fun k L hL => ?_⟩
  have : L = noLb := by
    have := List.mem_of_getElem? hL
    simp at this
    exact this
  subst this
  exact ⟨fun x hx => by simp [noLb] at hx, rfl, rfl, fun j y hy => by simp [noLb] at hy, fun i hi => by simp at hi⟩
theorem numL_mem {Ls : List Lb} {x : Int × Lb} (h : x ∈ numL Ls) : ∃ k : Nat, x.1 = (k : Int) ∧ Ls[k]? = some x.2 := by
  unfold numL at h
  obtain ⟨⟨L, k⟩, h1, rfl⟩ := List.mem_map.1 h
  exact ⟨k, rfl, List.mem_zipIdx_iff_getElem?.1 h1⟩
theorem numL_of {Ls : List Lb} {k : Nat} {L : Lb} (h : Ls[k]? = some L) : ((k : Int), L) ∈ numL Ls := List.mem_map.2 ⟨(L, k), List.mem_zipIdx_iff_getElem?.2 h, rfl⟩
theorem idx_of {A : List Int} {x : Int} (h : x ∈ A) : ∃ j, idx A x = some j := by
  cases hi : idx A x with
  | some j => exact ⟨j, rfl⟩
  | none =>
    unfold idx at hi
    rw [List.findIdx?_eq_none_iff] at hi
    have := hi x h
    simp at this
/-- the shelves are libraries of the objects -/
theorem shelves_ok {O : List Ob} {kf : Nat → Int} (hkf : ∀ (i : Nat) (o : Ob), O[i]? = some o → 0 ≤ kf i ∧ kf i ≤ 2) (hu : (O.flatMap (·.df)).Nodup) {is : List Nat} (his : ∀ i, i < O.length → i ∈ is) : Shv O kf (numL (shelvesN O kf is)) := by
  have h : ShI O kf is (shelvesN O kf is) := by
    have := sh_fold hkf is (sh_start (O := O) (kf := kf))
    rw [List.nil_append] at this
    exact this
  refine ⟨flat_uq (·.df) hu, flat_nu (·.df) hu, fun x hx e he => ?_, fun x hx a j hj => ?_, fun i o ho => ?_⟩
  · obtain ⟨k, h1, h2⟩ := numL_mem hx
    obtain ⟨i, o, h3, h4, h5⟩ := (h.b k _ h2).e e he
    exact ⟨i, o, h3, h4, by rw [h1]; exact h5⟩
  · obtain ⟨k, h1, h2⟩ := numL_mem hx
    obtain ⟨i, o, h3, h4, h5, h6⟩ := (h.b k _ h2).a j a (mem_of_idx hj)
    exact ⟨i, o, h3, by rw [h1]; exact h4, by rw [List.getD_eq_getElem?_getD, h5]; rfl, by rw [List.getD_eq_getElem?_getD, h6]; rfl⟩
  · obtain ⟨k0, k2⟩ := hkf i o ho
    have hl := h.l
    obtain ⟨L, hL⟩ : ∃ L, (shelvesN O kf is)[(kf i).toNat]? = some L := ⟨_, List.getElem?_eq_getElem (by omega)⟩
    obtain ⟨h1, h2⟩ := (h.b _ L hL).d i (his i (List.getElem?_eq_some_iff.1 ho).1) o ho (by omega)
    exact ⟨_, numL_of hL, by show (((kf i).toNat : Nat) : Int) = kf i; omega, idx_of h1, h2⟩
end Go.Proofs.Ytnnpdomfkedhpaa
