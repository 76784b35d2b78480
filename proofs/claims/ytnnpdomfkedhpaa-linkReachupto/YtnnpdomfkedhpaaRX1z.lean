import Derived.Test.YtnnpdomfkedhpaaRX0z
import Derived.Test.YtnnpdomfkedhpaaRVz

-- LinkReach: its calls, told of every world.
namespace Go.Proofs.Ytnnpdomfkedhpaa
open Go.ChangeShapes Go.WideShapes Go.ChangeAt Go.RowKit Go.MapKept
set_option linter.unusedVariables false
set_option maxRecDepth 100000
def kOf (ous : List Ov) (bk : Bool) (i : Nat) : Int := if bk then 2 - (ous.map (·.k)).getD i 0 else (ous.map (·.k)).getD i 0
def isK (bk : Bool) (n : Nat) : List Nat := (List.range n).map (ixf bk n)
theorem kOf_at {ous : List Ov} {bk : Bool} {i : Nat} {y : Ov} (h : ous[i]? = some y) : kOf ous bk i = if bk then 2 - y.k else y.k := by
  have : (ous.map (·.k)).getD i 0 = y.k := by rw [List.getD_eq_getElem?_getD, List.getElem?_map, h]; rfl
  unfold kOf
  rw [this]
theorem isK_len (bk : Bool) (n : Nat) : (isK bk n).length = n := by unfold isK; rw [List.length_map, List.length_range]
theorem isK_all (bk : Bool) {n i : Nat} (h : i < n) : i ∈ isK bk n := by
  unfold isK
  cases bk with
  | false => exact List.mem_map.2 ⟨i, List.mem_range.2 h, rfl⟩
  | true => exact List.mem_map.2 ⟨n - 1 - i, List.mem_range.2 (by omega), by show n - 1 - (n - 1 - i) = i; omega⟩
/-- the link, plainly -/
def lkR (O1 : List Ob) (ous : List Ov) (bk : Bool) (roots : List ByteArray) : Lk := groupN (numL (shelvesN O1 (kOf ous bk) (isK bk O1.length))) ⟨[], roots, []⟩
theorem lkR_rch {O1 : List Ob} {ous : List Ov} (hl : ous.length = O1.length) (hu : (O1.flatMap (·.df)).Nodup) (hk : ∀ (i : Nat) (y : Ov), ous[i]? = some y → 0 ≤ y.k ∧ y.k ≤ 2) (bk : Bool) (roots : List ByteArray) : Rch O1 (kOf ous bk) (rall O1 roots).1 (rall O1 roots).2 (lkR O1 ous bk roots) := by
  refine (reached_ok (shelves_ok (fun i o ho => ?_) hu (fun i hi => isK_all bk hi))).rch
  have hi : i < ous.length := by rw [hl]; exact (List.getElem?_eq_some_iff.1 ho).1
  have hy := List.getElem?_eq_getElem hi
  have h1 := hk i _ hy
  rw [kOf_at hy]
  cases bk with
  | false => exact h1
  | true => show 0 ≤ 2 - _ ∧ 2 - _ ≤ (2 : Int); omega
/-- what stays: the objects, the roots -/
structure RcW (w : World) (u v1 : Value) (ous : List Ov) (O1 : List Ob) (roots : List ByteArray) (W : World) : Prop where
  b : Below w.heap.size w W
  o : ObsAt (fun b => W.heap.size ≤ b) W v1 ous O1
  r : RowT W u roots
theorem RcW.on {w : World} {u v1 : Value} {ous : List Ov} {O1 : List Ob} {roots : List ByteArray} {W W' : World} (h : RcW w u v1 ous O1 roots W) (hb : Below W.heap.size W W') : RcW w u v1 ous O1 roots W' :=
  ⟨h.b.trans (hb.mono h.b.size), (h.o.kp (Kp.of_below hb)).weak (fun b _ hh => Nat.le_trans hb.size hh), h.r.on hb⟩
/-- what was reached -/
structure AkW (g : Nat) (fl : List Bool) (va : Value) (asked : List ByteArray) (W : World) : Prop where
  g : W.heap[g]? = some (.cells (fl.flatMap boL).toArray 4 (0, 0))
  a : RowT W va asked
theorem AkW.on {g : Nat} {fl : List Bool} {va : Value} {asked : List ByteArray} {W W' : World} (h : AkW g fl va asked W) (hb : Below W.heap.size W W') : AkW g fl va asked W' := ⟨hkeepK hb h.g, h.a.on hb⟩
def LbW (g : Nat) (lvs : List Lv) (Ls : List Lb) (W : World) : Prop := LibsAt (fun b => W.heap.size ≤ b) W (.slice (some ⟨g, 0, none⟩) 3 3) lvs Ls
theorem LbW.on {g : Nat} {lvs : List Lv} {Ls : List Lb} {W W' : World} (h : LbW g lvs Ls W) (hb : Below W.heap.size W W') : LbW g lvs Ls W' := (h.kp (Kp.of_below hb)).weak (fun b _ hh => Nat.le_trans hb.size hh)
/-- a link in its box -/
structure XbW (g : Nat) (a b c : Value) (x : Lk) (W : World) : Prop where
  g : W.heap[g]? = some (.cells #[a, b, c] 32 (0, 0))
  d : RowT W a x.d
  w : RowT W b x.w
  p : RowP W c x.p
theorem XbW.on {g : Nat} {a b c : Value} {x : Lk} {W W' : World} (h : XbW g a b c x W) (hb : Below W.heap.size W W') : XbW g a b c x W' := ⟨hkeepK hb h.g, h.d.on hb, h.w.on hb, h.p.on hb⟩
theorem nilT (W : World) : RowT W (.slice none 0 0) [] := ⟨none, 0, rfl, Nat.le_refl _, by decide, (fun _ => rfl), fun h => absurd h (by decide)⟩
theorem nilP (W : World) : RowP W (.slice none 0 0) [] := ⟨none, 0, rfl, Nat.le_refl _, by decide, (fun _ => rfl), fun h => absurd h (by decide)⟩
section
variable {w : World} {u v1 : Value} {ous : List Ov} {O1 : List Ob} {roots : List ByteArray}
/-- what the calls want to know of the objects -/
structure O1Ok (ous : List Ov) (O1 : List Ob) (n : Nat) (roots : List ByteArray) : Prop where
  l : O1.length = n
  n : n ≤ 1000
  lo : ous.length = O1.length
  u : (O1.flatMap (·.df)).Nodup
  k : ∀ (i : Nat) (y : Ov), ous[i]? = some y → 0 ≤ y.k ∧ y.k ≤ 2
  m : ∀ o ∈ O1, o.df.length ≤ 1048576 ∧ o.nd.length ≤ 1048576
  r : roots.length ≤ 1048576
theorem O1Ok.kk {n : Nat} (h : O1Ok ous O1 n roots) (bk : Bool) : ∀ (i : Nat) (y : Ov), ous[i]? = some y → 0 ≤ y.k ∧ y.k ≤ 2 ∧ kOf ous bk i = if bk then 2 - y.k else y.k := fun i y hy => ⟨(h.k i y hy).1, (h.k i y hy).2, kOf_at hy⟩
theorem O1Ok.lim {n : Nat} (h : O1Ok ous O1 n roots) (bk : Bool) : ShLim (shelvesN O1 (kOf ous bk) (isK bk O1.length)) := sh_lim h.m (by rw [isK_len, h.l]; exact h.n)
theorem reach1 {n : Nat} (h : O1Ok ous O1 n roots) {W : World} (hW : RcW w u v1 ous O1 roots W) :
    Calls Try.prog 5 #[v1, u] W fun e w' => ∃ a l c, e = .returned (.tuple #[.slice (some ⟨W.heap.size, 0, none⟩) n n, .slice a l c]) ∧ AkW W.heap.size (rall O1 roots).1 (.slice a l c) (rall O1 roots).2 w' ∧ RcW w u v1 ous O1 roots w' ∧ Below W.heap.size W w' :=
  (reached_c v1 u ous O1 roots W hW.o hW.r (by rw [h.l]; exact h.n) h.r h.m).mono (by
    rintro e w' ⟨a, l, c, rfl, h1, h2, h3⟩
    exact ⟨a, l, c, by rw [h.l], ⟨h1, OwnF.row elT h2⟩, hW.on h3, h3⟩)
theorem shelf1 {n : Nat} (h : O1Ok ous O1 n roots) (bk : Bool) {W : World} (hW : RcW w u v1 ous O1 roots W) :
    Calls Try.prog 6 #[v1, .bool bk] W fun e w' => ∃ g lvs, e = .returned (.slice (some ⟨g, 0, none⟩) 3 3) ∧ LbW g lvs (shelvesN O1 (kOf ous bk) (isK bk O1.length)) w' ∧ RcW w u v1 ous O1 roots w' ∧ Below W.heap.size W w' :=
  (shelves_c v1 ous O1 (kOf ous bk) bk W hW.o (by rw [h.l]; exact h.n) (fun o ho => (h.m o ho).1) (h.kk bk)).mono (by
    rintro e w' ⟨g, R, rfl, h1, h2, h3⟩
    refine ⟨g, R.map (·.v), rfl, ?_, hW.on h3, h3⟩
    have hl : R.length = 3 := by
      have := congrArg List.length h2
      rw [List.length_map] at this
      exact this.trans (h.lim bk).l
    have := h1.libs hl h3.size
    rw [h2] at this
    exact this)
theorem group3 {n : Nat} (h : O1Ok ous O1 n roots) (bk : Bool) {g : Nat} {lvs : List Lv} {W : World} (hW : RcW w u v1 ous O1 roots W) (hL : LbW g lvs (shelvesN O1 (kOf ous bk) (isK bk O1.length)) W) :
    Calls Try.prog 7 #[.slice (some ⟨g, 0, none⟩) 3 3, .agg #[.slice none 0 0, u, .slice none 0 0]] W fun e w' => ∃ a0 l0 c0 a1 l1 c1 a2 l2 c2, e = .returned (.agg #[.slice a0 l0 c0, .slice a1 l1 c1, .slice a2 l2 c2]) ∧ RowT w' (.slice a0 l0 c0) (lkR O1 ous bk roots).d ∧ RowT w' (.slice a1 l1 c1) (lkR O1 ous bk roots).w ∧ RowP w' (.slice a2 l2 c2) (lkR O1 ous bk roots).p ∧ Below W.heap.size W w' :=
  (group_c _ lvs _ (.slice none 0 0) u (.slice none 0 0) ⟨[], roots, []⟩ W 1048576 3000 hL (nilT W) hW.r (nilP W) 1048576 (Nat.zero_le _) h.r (by rw [(h.lim bk).l]; decide) (h.lim bk).a (h.lim bk).lim (by have := (h.lim bk).s; show _ + 0 ≤ _; omega)).mono (by
    rintro e w' ⟨a0, l0, c0, a1, l1, c1, a2, l2, c2, rfl, h1, h2⟩
    exact ⟨a0, l0, c0, a1, l1, c1, a2, l2, c2, rfl, OwnF.row elT h1.d, OwnF.row elT h1.wt, OwnF.row elP h1.p, h2⟩)
theorem reaches1 {n : Nat} (h : O1Ok ous O1 n roots) (bk : Bool) {g gx : Nat} {va xd xw xp : Value} {W : World} (hW : RcW w u v1 ous O1 roots W) (hA : AkW g (rall O1 roots).1 va (rall O1 roots).2 W) (hX : XbW gx xd xw xp (lkR O1 ous bk roots) W) :
    Calls Try.prog 8 #[.agg #[xd, xw, xp], v1, .slice (some ⟨g, 0, none⟩) n n, va, .bool bk] W fun e w' => e = .returned (.bool true) ∧ Below W.heap.size W w' := by
  have hr := lkR_rch h.lo h.u h.k bk roots
  have hn : O1.length ≤ 1000 := by rw [h.l]; exact h.n
  have hp : (lkR O1 ous bk roots).p.length ≤ O1.length := rch_p hr
  have := reaches_c xd xw xp v1 va g ous O1 (kOf ous bk) (rall O1 roots).1 (rall O1 roots).2 (lkR O1 ous bk roots) bk W hW.o hX.d hX.w hX.p hA.g (rok_all (fun o ho => (h.m o ho).2) roots).l hA.a (h.kk bk) hn (fun o ho => (h.m o ho).1) ((h.lim bk).siz h.r hp hn) (rall_al (fun o ho => (h.m o ho).2) h.r hn) hr
  rw [h.l] at this
  exact this
end
end Go.Proofs.Ytnnpdomfkedhpaa
