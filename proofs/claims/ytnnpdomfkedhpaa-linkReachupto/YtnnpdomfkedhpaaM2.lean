import Derived.Test.YtnnpdomfkedhpaaHC
import Derived.Test.YtnnpdomfkedhpaaRB
import Derived.Shelf.Abstract
import Derived.Deep.CutRange
import Derived.Test.YtnnpdomfkedhpaaM1

-- Twins of lists, with a mark in their spare room.
namespace Go.Proofs.Ytnnpdomfkedhpaa
open Go.ChangeShapes Go.WideShapes Go.ChangeAt Go.RowKit Go.MapKept
set_option linter.unusedVariables false
set_option maxRecDepth 100000
/-- a list of one's own with a mark behind it -/
def Tw {α : Type} (c : α → List Value) (z e : Nat) (B : Nat) (w : World) (v : Value) (L : List α) (m : α) : Prop :=
  ∃ g cap, v = .slice (some ⟨g, 0, none⟩) L.length cap ∧ L.length + 1 ≤ cap ∧ cap ≤ maxLen ∧ OwnF (fun b => B ≤ b) c z e w (.slice (some ⟨g, 0, none⟩) (L.length + 1) cap) (L ++ [m])
section
variable {α : Type} {c : α → List Value} {z e sl bytes B : Nat} {w w' : World} {v : Value} {L : List α} {m : α}
theorem Tw.row (E : El c z e sl bytes) (h : Tw c z e B w v L m) : RowG c w v L := by
  obtain ⟨g, cap, rfl, _, _, h1⟩ := h
  exact rowG_front (h1.row E)
theorem Tw.on (h : Tw c z e B w v L m) (hb : Below w.heap.size w w') : Tw c z e B w' v L m := by
  obtain ⟨g, cap, h1, h2, h3, h4⟩ := h
  exact ⟨g, cap, h1, h2, h3, h4.on hb⟩
theorem Tw.le {B' : Nat} (h : Tw c z e B w v L m) (hb : B' ≤ B) : Tw c z e B' w v L m := by
  obtain ⟨g, cap, h1, h2, h3, h4⟩ := h
  exact ⟨g, cap, h1, h2, h3, h4.weak fun k hk => Nat.le_trans hb hk⟩
theorem Tw.full (E : El c z e sl bytes) (h : Tw c z e B w v L m) : ∃ g cap, v = .slice (some ⟨g, 0, none⟩) L.length cap ∧ L.length + 1 ≤ cap ∧ cap ≤ maxLen ∧ RowG c w (.slice (some ⟨g, 0, none⟩) (L.length + 1) cap) (L ++ [m]) := by
  obtain ⟨g, cap, h1, h2, h3, h4⟩ := h
  exact ⟨g, cap, h1, h2, h3, h4.row E⟩
/-- out of a row of one's own that has an element -/
theorem Tw.of {u : Value} (h : OwnF (fun b => B ≤ b) c z e w u (L ++ [m])) : ∃ g cap, u = .slice (some ⟨g, 0, none⟩) (L.length + 1) cap ∧ L.length + 1 ≤ cap ∧ cap ≤ maxLen ∧ Tw c z e B w (.slice (some ⟨g, 0, none⟩) L.length cap) L m := by
  have h0 := h
  rcases h.1.2 with ⟨q, q'⟩ | ⟨g, cap, cur, q1, q2, q3, q4, q5, _⟩
  · simp at q'
  · rw [List.length_append, List.length_singleton] at q1 q4
    subst q1
    exact ⟨g, cap, rfl, q4, q5, g, cap, rfl, q4, q5, h0⟩
theorem Tw.keep (h : Tw c z e B w v L m) (hk : ∀ k cs, w.heap[k]? = some (.cells cs e (0, 0)) → B ≤ k → w'.heap[k]? = w.heap[k]?) : Tw c z e B w' v L m := by
  obtain ⟨g, cap, h1, h2, h3, h4⟩ := h
  refine ⟨g, cap, h1, h2, h3, h4.keep fun k hh => ?_⟩
  obtain ⟨cs, hc⟩ := h4.typed hh
  exact hk k cs hc (h4.2 k hh)
end
def slT : ByteArray := ⟨#[47]⟩
/-- a list of lists of one's own, each a twin -/
def TwLL (B : Nat) (w : World) (v : Value) (LL : List (List ByteArray)) : Prop :=
  ∃ vs : List Value, OwnF (fun b => B ≤ b) vaL 1 23 w v vs ∧ vs.length = LL.length ∧ ∀ (i : Nat) (u : Value) (l : List ByteArray), vs[i]? = some u → LL[i]? = some l → Tw txL 1 9 B w u l slT
theorem TwLL.on {B : Nat} {w w' : World} {v : Value} {LL : List (List ByteArray)} (h : TwLL B w v LL) (hb : Below w.heap.size w w') : TwLL B w' v LL := by
  obtain ⟨vs, h1, h2, h3⟩ := h
  exact ⟨vs, h1.on hb, h2, fun i u l hu hl => (h3 i u l hu hl).on hb⟩
theorem TwLL.le {B B' : Nat} {w : World} {v : Value} {LL : List (List ByteArray)} (h : TwLL B w v LL) (hb : B' ≤ B) : TwLL B' w v LL := by
  obtain ⟨vs, h1, h2, h3⟩ := h
  exact ⟨vs, h1.weak fun k hk => Nat.le_trans hb hk, h2, fun i u l hu hl => (h3 i u l hu hl).le hb⟩
theorem TwLL.row {B : Nat} {w : World} {v : Value} {LL : List (List ByteArray)} {F : Nat → Prop} (h : TwLL B w v LL) (hF : ∀ b, F b → w.heap.size ≤ b) : RowLL F w v LL := by
  obtain ⟨vs, h1, h2, h3⟩ := h
  exact ⟨vs, RowG.rowN (by decide) vaL_len (h1.row elL) hF, h2, fun i u l hu hl => RowG.rowN (by decide) txL_len ((h3 i u l hu hl).row elT) hF⟩
theorem TwLL.form {B : Nat} {w : World} {v : Value} {LL : List (List ByteArray)} (h : TwLL B w v LL) : ∃ a c, v = .slice a LL.length c := by
  obtain ⟨vs, h1, h2, h3⟩ := h
  obtain ⟨a, c, e, _⟩ := h1.form
  exact ⟨a, c, by rw [e, h2]⟩
end Go.Proofs.Ytnnpdomfkedhpaa

-- state, spare.
namespace Go.Proofs.Ytnnpdomfkedhpaa
open Go.ChangeShapes Go.WideShapes Go.ChangeAt Go.RowKit Go.MapKept
set_option linter.unusedVariables false
set_option maxRecDepth 100000
/-- a twin of a link -/
structure TwK (B : Nat) (w : World) (vd vw vp : Value) (s : Lk) : Prop where
  d : Tw txL 1 9 B w vd s.d slT
  wt : Tw txL 1 9 B w vw s.w slT
  p : Tw paL 2 56 B w vp s.p (-7, 0)
theorem TwK.on {B : Nat} {w w' : World} {vd vw vp : Value} {s : Lk} (h : TwK B w vd vw vp s) (hb : Below w.heap.size w w') : TwK B w' vd vw vp s := ⟨h.d.on hb, h.wt.on hb, h.p.on hb⟩
theorem st_done {B q : Nat} {w0 x : World} {v1 v2 : Value} {L1 L2 : List ByteArray} (hz : x.heap[q]? = some (.cells #[.slice none 0 0, .slice none 0 0, .slice none 0 0] 32 (0, 0))) (h1 : Tw txL 1 9 B x v1 L1 slT) (h2 : Tw txL 1 9 B x v2 L2 slT) (hb : Below B w0 x) (hq : B ≤ q) :
    (((x.setCell ⟨q, 0, none⟩ v1).setCell ⟨q, 1, none⟩ v2).setCell ⟨q, 2, none⟩ (.slice none 0 0)).heap[q]? = some (.cells #[v1, v2, .slice none 0 0] 32 (0, 0)) ∧ Tw txL 1 9 B (((x.setCell ⟨q, 0, none⟩ v1).setCell ⟨q, 1, none⟩ v2).setCell ⟨q, 2, none⟩ (.slice none 0 0)) v1 L1 slT ∧ Tw txL 1 9 B (((x.setCell ⟨q, 0, none⟩ v1).setCell ⟨q, 1, none⟩ v2).setCell ⟨q, 2, none⟩ (.slice none 0 0)) v2 L2 slT ∧ Below B w0 (((x.setCell ⟨q, 0, none⟩ v1).setCell ⟨q, 1, none⟩ v2).setCell ⟨q, 2, none⟩ (.slice none 0 0)) := by
  obtain ⟨g7, k7⟩ := three_set hz v1 v2 (.slice none 0 0)
  have hk : ∀ k cs, x.heap[k]? = some (.cells cs 9 (0, 0)) → B ≤ k → (((x.setCell ⟨q, 0, none⟩ v1).setCell ⟨q, 1, none⟩ v2).setCell ⟨q, 2, none⟩ (.slice none 0 0)).heap[k]? = x.heap[k]? := fun k cs hc _ => k7.block k (cells_typ hc hz (by decide)) (Array.getElem?_eq_some_iff.1 hc).1
  have hlt := (Array.getElem?_eq_some_iff.1 hz).1
  exact ⟨g7, h1.keep hk, h2.keep hk, hb.trans (k7.below hq (by omega))⟩
theorem st_done2 {B : Nat} {w0 x : World} {v1 v2 : Value} {L1 L2 : List ByteArray} (h1 : Tw txL 1 9 B x v1 L1 slT) (h2 : Tw txL 1 9 B x v2 L2 slT) (hb : Below B w0 x) (hB : B ≤ w0.heap.size) :
    (x.alloc (.cells #[v1, v2, .slice none 0 0] 32)).heap[x.heap.size]? = some (.cells #[v1, v2, .slice none 0 0] 32 (0, 0)) ∧ Tw txL 1 9 B (x.alloc (.cells #[v1, v2, .slice none 0 0] 32)) v1 L1 slT ∧ Tw txL 1 9 B (x.alloc (.cells #[v1, v2, .slice none 0 0] 32)) v2 L2 slT ∧ Below B w0 (x.alloc (.cells #[v1, v2, .slice none 0 0] 32)) := by
  have hb9 : Below x.heap.size x (x.alloc (.cells #[v1, v2, .slice none 0 0] 32)) := (Below.refl _ _).alloc (Nat.le_refl _) _
  exact ⟨heap_alloc_new _ _, h1.on hb9, h2.on hb9, hb.trans (hb9.mono (Nat.le_trans hB hb.size))⟩
theorem step_call1 {ops : Array Oper} {o : Oper} {a : Act} {w : World} {K : Act → World → Prop} {Q : Exit → Act → World → Prop} {E : Prop}
    (hg : o.guard = none) (f : FuncId) (x : Operand) (t1 : TypeId) (hop : o.op = Op.call { callee := Callee.value (Operand.func f), args := #[x], argTypes := #[t1] })
    (v : Value) (hx : a.eval x = v) (eg : ∀ args w, (callFunc f args).run Try.prog w = .ok (.enter f args) w) {R : Ending → World → Prop} (hc : Calls Try.prog f #[v] w R) (hK : ∀ e w', R e w' → ∃ u, e = .returned u ∧ K (a.put o.dst u) w') :
    if Region.wanted o (yielded ops a.tmps) = true then Oper.wp Try.prog o a w K Q else E := by
  rw [if_pos (by simp [Region.wanted, hg])]
  unfold Oper.wp
  subst hx
  have hr : (execOp a.eval o).run Try.prog w = .ok (.enter f #[a.eval x]) w := by
    simp [execOp, hop, resolve, invoke, eg, go_sem]
  rw [hr, Oper.upon_enter]
  refine hc.mono ?_
  intro e w' h
  obtain ⟨u, rfl, hk⟩ := hK e w' h
  exact hk
/-- the mark behind a twin's list -/
theorem Tw.last {α : Type} {c : α → List Value} {z e sl bytes B : Nat} (E : El c z e sl bytes) {w : World} {v : Value} {L : List α} {m : α} (h : Tw c z e B w v L m) : ∃ g cap, v = .slice (some ⟨g, 0, none⟩) L.length cap ∧ L.length + 1 ≤ cap ∧ cap ≤ maxLen ∧ ∀ i u, (c m)[i]? = some u → w.cell? ⟨g, L.length * z + i, none⟩ = some u := by
  obtain ⟨g, cap, h1, h2, h3, h4⟩ := h.full E
  refine ⟨g, cap, h1, h2, h3, fun i u hu => ?_⟩
  obtain ⟨b, off, cp, e, _, _, hc⟩ := RowG.at (k := L.length) (x := m) E.len h4 (by simp)
  injection e with e _ _
  injection e with e
  injection e with e1 e2 _
  have := hc i u hu
  rw [← e1, ← e2, Nat.zero_add] at this
  exact this
end Go.Proofs.Ytnnpdomfkedhpaa

-- The same lists, of numbers, entries, lists; the same libraries.
namespace Go.Proofs.Ytnnpdomfkedhpaa
open Go.ChangeShapes Go.WideShapes Go.ChangeAt Go.RowKit Go.MapKept
set_option linter.unusedVariables false
set_option maxRecDepth 100000
theorem enS : Try.prog.stoodInHeld 47 = false := by kernel_rfl
theorem enU : Try.prog.underlying 47 = some (.struct (Try.prog.fieldsOf 47)) := by kernel_rfl
theorem run_equalIn_en (w : World) (a : ByteArray) (b : Int) : (Op.equalIn 10000 47 (.agg #[.string a, .int .i64 b]) (.agg #[.string a, .int .i64 b])).run Try.prog w = .ok true w := by
  have u3 := Try.underlying3
  have a3 := Try.isAgg3
  have z3 := Try.sizeOf3
  have u9 := Try.underlying9
  have a9 := Try.isAgg9
  have z9 := Try.sizeOf9
  rw [show (10000 : Nat) = 9999 + 1 from rfl, run_equalIn_agg w 9999 47 _ _ enU enS]
  simp only [Program.fieldsOf, Try.underlying47]
  go_simp
/-- lengths that a library may have -/
structure LbOk (L : Lb) : Prop where
  e : L.e.length ≤ 1048576
  a : L.a.length ≤ 1048576
  n : L.n.length ≤ 1048576
  df : L.df.length ≤ 1048576
  nd : L.nd.length ≤ 1048576
  f : ∀ l ∈ L.df, l.length ≤ 1048576
  g : ∀ l ∈ L.nd, l.length ≤ 1048576
end Go.Proofs.Ytnnpdomfkedhpaa

-- library, libraries.
namespace Go.Proofs.Ytnnpdomfkedhpaa
open Go.ChangeShapes Go.WideShapes Go.ChangeAt Go.RowKit Go.MapKept
set_option linter.unusedVariables false
set_option maxRecDepth 100000
theorem five_set {w : World} {b : Nat} {c0 c1 c2 c3 c4 : Value} {t : TypeId} (h : w.heap[b]? = some (.cells #[c0, c1, c2, c3, c4] t (0, 0))) (v0 v1 v2 v3 v4 : Value) :
    (((((w.setCell ⟨b, 0, none⟩ v0).setCell ⟨b, 1, none⟩ v1).setCell ⟨b, 2, none⟩ v2).setCell ⟨b, 3, none⟩ v3).setCell ⟨b, 4, none⟩ v4).heap[b]? = some (.cells #[v0, v1, v2, v3, v4] t (0, 0)) ∧ Kq b w (((((w.setCell ⟨b, 0, none⟩ v0).setCell ⟨b, 1, none⟩ v1).setCell ⟨b, 2, none⟩ v2).setCell ⟨b, 3, none⟩ v3).setCell ⟨b, 4, none⟩ v4) := by
  obtain ⟨h3, q3⟩ : (((w.setCell ⟨b, 0, none⟩ v0).setCell ⟨b, 1, none⟩ v1).setCell ⟨b, 2, none⟩ v2).heap[b]? = some (.cells #[v0, v1, v2, c3, c4] t (0, 0)) ∧ Kq b w (((w.setCell ⟨b, 0, none⟩ v0).setCell ⟨b, 1, none⟩ v1).setCell ⟨b, 2, none⟩ v2) := by
    have q0 : Kq b w w := ⟨rfl, rfl, rfl, Nat.le_refl _, fun _ _ _ => rfl⟩
    have q1 := q0.trans (kq_set w b 0 v0)
    have h1 : (w.setCell ⟨b, 0, none⟩ v0).heap[b]? = some (.cells #[v0, c1, c2, c3, c4] t (0, 0)) := (blk_set h v0).trans rfl
    generalize w.setCell ⟨b, 0, none⟩ v0 = w1 at q1 h1 ⊢
    have q2 := q1.trans (kq_set w1 b 1 v1)
    have h2 : (w1.setCell ⟨b, 1, none⟩ v1).heap[b]? = some (.cells #[v0, v1, c2, c3, c4] t (0, 0)) := (blk_set h1 v1).trans rfl
    generalize w1.setCell ⟨b, 1, none⟩ v1 = w2 at q2 h2 ⊢
    exact ⟨(blk_set h2 v2).trans rfl, q2.trans (kq_set w2 b 2 v2)⟩
  generalize ((w.setCell ⟨b, 0, none⟩ v0).setCell ⟨b, 1, none⟩ v1).setCell ⟨b, 2, none⟩ v2 = w3 at h3 q3 ⊢
  have q4 := q3.trans (kq_set w3 b 3 v3)
  have h4 : (w3.setCell ⟨b, 3, none⟩ v3).heap[b]? = some (.cells #[v0, v1, v2, v3, c4] t (0, 0)) := (blk_set h3 v3).trans rfl
  generalize w3.setCell ⟨b, 3, none⟩ v3 = w4 at q4 h4 ⊢
  exact ⟨(blk_set h4 v4).trans rfl, q4.trans (kq_set w4 b 4 v4)⟩
theorem bel_set5 {w0 x : World} {q : Nat} {v0 v1 v2 v3 v4 : Value} (hb : Below w0.heap.size w0 x) (hq : w0.heap.size ≤ q) : Below w0.heap.size w0 (((((x.setCell ⟨q, 0, none⟩ v0).setCell ⟨q, 1, none⟩ v1).setCell ⟨q, 2, none⟩ v2).setCell ⟨q, 3, none⟩ v3).setCell ⟨q, 4, none⟩ v4) :=
  hb.trans (((((kq_set x q 0 v0).trans (kq_set _ q 1 v1)).trans (kq_set _ q 2 v2)).trans (kq_set _ q 3 v3)).trans (kq_set _ q 4 v4) |>.below hq hb.size)
/-- what keeps every row of a library's twin -/
def KeepL (w w' : World) : Prop := ∀ (k : Nat) (cs : Array Value) (t : TypeId), w.heap[k]? = some (.cells cs t (0, 0)) → t ≠ 45 → w'.heap[k]? = w.heap[k]?
theorem keepL_kq {w w' : World} {q : Nat} {cs : Array Value} (h : w.heap[q]? = some (.cells cs 45 (0, 0))) (hk : Kq q w w') : KeepL w w' := fun k _ _ hc ht => hk.block k (cells_typ hc h ht) (Array.getElem?_eq_some_iff.1 hc).1
/-- four lists of a library's twin -/
structure Lb4 (B : Nat) (w : World) (v1 v2 v3 v4 : Value) (L : Lb) : Prop where
  a : Tw nmL 1 3 B w v1 L.a (-7)
  n : Tw txL 1 9 B w v2 L.n slT
  f : TwLL B w v3 L.df
  g : TwLL B w v4 L.nd
theorem TwLL.keepL {B : Nat} {w w' : World} {v : Value} {LL : List (List ByteArray)} (h : TwLL B w v LL) (hk : KeepL w w') : TwLL B w' v LL := by
  obtain ⟨vs, h1, h2, h3⟩ := h
  refine ⟨vs, h1.keep fun k e => ?_, h2, fun i u l hu hl => (h3 i u l hu hl).keep fun k cs hc _ => hk k cs _ hc (by decide)⟩
  obtain ⟨cs, hc⟩ := h1.typed e
  exact hk k cs _ hc (by decide)
theorem Lb4.keepL {B : Nat} {w w' : World} {v1 v2 v3 v4 : Value} {L : Lb} (h : Lb4 B w v1 v2 v3 v4 L) (hk : KeepL w w') : Lb4 B w' v1 v2 v3 v4 L :=
  ⟨h.a.keep fun k cs hc _ => hk k cs _ hc (by decide), h.n.keep fun k cs hc _ => hk k cs _ hc (by decide), h.f.keepL hk, h.g.keepL hk⟩
theorem Lb4.on {B : Nat} {w w' : World} {v1 v2 v3 v4 : Value} {L : Lb} (h : Lb4 B w v1 v2 v3 v4 L) (hb : Below w.heap.size w w') : Lb4 B w' v1 v2 v3 v4 L := ⟨h.a.on hb, h.n.on hb, h.f.on hb, h.g.on hb⟩
theorem Lb4.le {B B' : Nat} {w : World} {v1 v2 v3 v4 : Value} {L : Lb} (h : Lb4 B w v1 v2 v3 v4 L) (hb : B' ≤ B) : Lb4 B' w v1 v2 v3 v4 L := ⟨h.a.le hb, h.n.le hb, h.f.le hb, h.g.le hb⟩
theorem lb_done {B q : Nat} {w0 x : World} {v1 v2 v3 v4 : Value} {L : Lb} (hz : x.heap[q]? = some (.cells #[.slice none 0 0, .slice none 0 0, .slice none 0 0, .slice none 0 0, .slice none 0 0] 45 (0, 0))) (h : Lb4 B x v1 v2 v3 v4 L) (hb : Below B w0 x) (hq : B ≤ q) :
    (((((x.setCell ⟨q, 0, none⟩ (.slice none 0 0)).setCell ⟨q, 1, none⟩ v1).setCell ⟨q, 2, none⟩ v2).setCell ⟨q, 3, none⟩ v3).setCell ⟨q, 4, none⟩ v4).heap[q]? = some (.cells #[.slice none 0 0, v1, v2, v3, v4] 45 (0, 0)) ∧ Lb4 B (((((x.setCell ⟨q, 0, none⟩ (.slice none 0 0)).setCell ⟨q, 1, none⟩ v1).setCell ⟨q, 2, none⟩ v2).setCell ⟨q, 3, none⟩ v3).setCell ⟨q, 4, none⟩ v4) v1 v2 v3 v4 L ∧ Below B w0 (((((x.setCell ⟨q, 0, none⟩ (.slice none 0 0)).setCell ⟨q, 1, none⟩ v1).setCell ⟨q, 2, none⟩ v2).setCell ⟨q, 3, none⟩ v3).setCell ⟨q, 4, none⟩ v4) := by
  obtain ⟨g7, k7⟩ := five_set hz (.slice none 0 0) v1 v2 v3 v4
  have hlt := (Array.getElem?_eq_some_iff.1 hz).1
  exact ⟨g7, h.keepL (keepL_kq hz k7), hb.trans (k7.below hq (by omega))⟩
theorem lb_done2 {B : Nat} {w0 x : World} {v1 v2 v3 v4 : Value} {L : Lb} (h : Lb4 B x v1 v2 v3 v4 L) (hb : Below B w0 x) (hB : B ≤ w0.heap.size) :
    (x.alloc (.cells #[.slice none 0 0, v1, v2, v3, v4] 45)).heap[x.heap.size]? = some (.cells #[.slice none 0 0, v1, v2, v3, v4] 45 (0, 0)) ∧ Lb4 B (x.alloc (.cells #[.slice none 0 0, v1, v2, v3, v4] 45)) v1 v2 v3 v4 L ∧ Below B w0 (x.alloc (.cells #[.slice none 0 0, v1, v2, v3, v4] 45)) := by
  have hb9 : Below x.heap.size x (x.alloc (.cells #[.slice none 0 0, v1, v2, v3, v4] 45)) := (Below.refl _ _).alloc (Nat.le_refl _) _
  exact ⟨heap_alloc_new _ _, h.on hb9, hb.trans (hb9.mono (Nat.le_trans hB hb.size))⟩
/-- a library's twin -/
structure LbTw (B : Nat) (w : World) (v0 v1 v2 v3 v4 : Value) (L : Lb) : Prop where
  e : Tw enL 2 47 B w v0 L.e (⟨#[]⟩, -7)
  r : Lb4 B w v1 v2 v3 v4 L
theorem LbTw.keepL {B : Nat} {w w' : World} {v0 v1 v2 v3 v4 : Value} {L : Lb} (h : LbTw B w v0 v1 v2 v3 v4 L) (hk : KeepL w w') : LbTw B w' v0 v1 v2 v3 v4 L := ⟨h.e.keep fun k cs hc _ => hk k cs _ hc (by decide), h.r.keepL hk⟩
theorem LbTw.on {B : Nat} {w w' : World} {v0 v1 v2 v3 v4 : Value} {L : Lb} (h : LbTw B w v0 v1 v2 v3 v4 L) (hb : Below w.heap.size w w') : LbTw B w' v0 v1 v2 v3 v4 L := ⟨h.e.on hb, h.r.on hb⟩
theorem LbTw.le {B B' : Nat} {w : World} {v0 v1 v2 v3 v4 : Value} {L : Lb} (h : LbTw B w v0 v1 v2 v3 v4 L) (hb : B' ≤ B) : LbTw B' w v0 v1 v2 v3 v4 L := ⟨h.e.le hb, h.r.le hb⟩
theorem LbTw.lib {B : Nat} {w : World} {v0 v1 v2 v3 v4 : Value} {L : Lb} {F : Nat → Prop} (h : LbTw B w v0 v1 v2 v3 v4 L) (hF : ∀ b, F b → w.heap.size ≤ b) : LibAt F w v0 v1 v2 v3 v4 L :=
  ⟨RowG.rowN (by decide) enL_len (h.e.row elE) hF, RowG.rowN (by decide) nmL_len (h.r.a.row elI) hF, RowG.rowN (by decide) txL_len (h.r.n.row elT) hF, h.r.f.row hF, h.r.g.row hF⟩
theorem sizeLib : (Try.prog.info? 45).map (·.size) = some 5 := by kernel_rfl
theorem sizeSlE : (Try.prog.info? 42).map (·.size) = some 1 := by kernel_rfl
end Go.Proofs.Ytnnpdomfkedhpaa

-- libraries.
namespace Go.Proofs.Ytnnpdomfkedhpaa
open Go.ChangeShapes Go.WideShapes Go.ChangeAt Go.RowKit Go.MapKept
set_option linter.unusedVariables false
set_option maxRecDepth 100000
theorem elV : El lvL 5 45 28 120 := ⟨Try.underlying28, ⟨.agg #[.slice none 0 0, .slice none 0 0, .slice none 0 0, .slice none 0 0, .slice none 0 0], by kernel_rfl, rfl⟩, lvL_len, by decide⟩
/-- libraries' twins -/
structure LibsTw (B : Nat) (w : World) (v : Value) (lvs : List Lv) (Ls : List Lb) : Prop where
  row : OwnF (fun b => B ≤ b) lvL 5 45 w v lvs
  len : lvs.length = Ls.length
  ea : ∀ (i : Nat) (x : Lv) (L : Lb), lvs[i]? = some x → Ls[i]? = some L → LbTw B w x.e x.a x.n x.f x.g L
theorem LibsTw.on {B : Nat} {w w' : World} {v : Value} {lvs : List Lv} {Ls : List Lb} (h : LibsTw B w v lvs Ls) (hb : Below w.heap.size w w') : LibsTw B w' v lvs Ls := ⟨h.row.on hb, h.len, fun i x L hx hl => (h.ea i x L hx hl).on hb⟩
theorem LibsTw.libs {B : Nat} {w : World} {v : Value} {lvs : List Lv} {Ls : List Lb} {F : Nat → Prop} (h : LibsTw B w v lvs Ls) (hF : ∀ b, F b → w.heap.size ≤ b) : LibsAt F w v lvs Ls :=
  ⟨RowG.rowN (by decide) lvL_len (h.row.row elV) hF, h.len, fun i x L hx hl => (h.ea i x L hx hl).lib hF⟩
end Go.Proofs.Ytnnpdomfkedhpaa

-- three libraries that are being filled.
namespace Go.Proofs.Ytnnpdomfkedhpaa
open Go.ChangeShapes Go.WideShapes Go.ChangeAt Go.RowKit Go.MapKept
set_option linter.unusedVariables false
set_option maxRecDepth 100000
def Lv.get (x : Lv) (c : Nat) : Value := match c with
  | 0 => x.e
  | 1 => x.a
  | 2 => x.n
  | 3 => x.f
  | _ => x.g
/-- a library's cells, what they hold, and the lists in its lists -/
structure Sh where
  v : Lv
  L : Lb
  fs : List Value
  gs : List Value
structure LvO (B : Nat) (W : World) (r : Sh) : Prop where
  e : OwnF (fun b => B ≤ b) enL 2 47 W r.v.e r.L.e
  a : OwnF (fun b => B ≤ b) nmL 1 3 W r.v.a r.L.a
  n : OwnF (fun b => B ≤ b) txL 1 9 W r.v.n r.L.n
  f : OwnF (fun b => B ≤ b) vaL 1 23 W r.v.f r.fs
  g : OwnF (fun b => B ≤ b) vaL 1 23 W r.v.g r.gs
  lf : r.fs.length = r.L.df.length
  lg : r.gs.length = r.L.nd.length
  rf : ∀ (i : Nat) (u : Value) (l : List ByteArray), r.fs[i]? = some u → r.L.df[i]? = some l → RowN (fun b => B ≤ b) txL W u l
  rg : ∀ (i : Nat) (u : Value) (l : List ByteArray), r.gs[i]? = some u → r.L.nd[i]? = some l → RowN (fun b => B ≤ b) txL W u l
theorem LvO.typ {B : Nat} {W : World} {r : Sh} (h : LvO B W r) {c b : Nat} (hc : c < 5) (hb : (r.v.get c).ownBlock = some b) : B ≤ b ∧ b < W.heap.size ∧ ∃ cur t, W.heap[b]? = some (.cells cur t (0, 0)) ∧ t ≠ 45 := by
  match c, hc with
  | 0, _ => exact ⟨h.e.2 b hb, h.e.lt b hb, by obtain ⟨cur, q⟩ := h.e.typed hb; exact ⟨cur, _, q, by decide⟩⟩
  | 1, _ => exact ⟨h.a.2 b hb, h.a.lt b hb, by obtain ⟨cur, q⟩ := h.a.typed hb; exact ⟨cur, _, q, by decide⟩⟩
  | 2, _ => exact ⟨h.n.2 b hb, h.n.lt b hb, by obtain ⟨cur, q⟩ := h.n.typed hb; exact ⟨cur, _, q, by decide⟩⟩
  | 3, _ => exact ⟨h.f.2 b hb, h.f.lt b hb, by obtain ⟨cur, q⟩ := h.f.typed hb; exact ⟨cur, _, q, by decide⟩⟩
  | 4, _ => exact ⟨h.g.2 b hb, h.g.lt b hb, by obtain ⟨cur, q⟩ := h.g.typed hb; exact ⟨cur, _, q, by decide⟩⟩
theorem LvO.keep {B : Nat} {W W' : World} {r : Sh} (h : LvO B W r) (hk : Kp (fun b => B ≤ b) W W') (hn : ∀ c b, c < 5 → (r.v.get c).ownBlock = some b → W'.heap[b]? = W.heap[b]?) : LvO B W' r :=
  ⟨h.e.keep fun b hb => hn 0 b (by decide) hb, h.a.keep fun b hb => hn 1 b (by decide) hb, h.n.keep fun b hb => hn 2 b (by decide) hb, h.f.keep fun b hb => hn 3 b (by decide) hb, h.g.keep fun b hb => hn 4 b (by decide) hb, h.lf, h.lg, fun i u l h1 h2 => (h.rf i u l h1 h2).kp hk, fun i u l h1 h2 => (h.rg i u l h1 h2).kp hk⟩
/-- the row of them: each list in a block of its own -/
structure ShB (B g : Nat) (W : World) (R : List Sh) : Prop where
  blk : W.heap[g]? = some (.cells (R.flatMap fun r => lvL r.v).toArray 45 (0, 0))
  gB : B ≤ g
  dj : ∀ (i j : Nat) (r s : Sh) (c d b : Nat), R[i]? = some r → R[j]? = some s → c < 5 → d < 5 → (r.v.get c).ownBlock = some b → (s.v.get d).ownBlock = some b → i = j ∧ c = d
  ea : ∀ (i : Nat) (r : Sh), R[i]? = some r → LvO B W r
theorem ShB.ng {B g : Nat} {W : World} {R : List Sh} (h : ShB B g W R) {i : Nat} {r : Sh} (hr : R[i]? = some r) {c b : Nat} (hc : c < 5) (hb : (r.v.get c).ownBlock = some b) : b ≠ g := by
  obtain ⟨_, _, cur, t, h1, h2⟩ := (h.ea i r hr).typ hc hb
  exact cells_typ h1 h.blk h2
theorem ShB.on {B g : Nat} {W W' : World} {R : List Sh} (h : ShB B g W R) (hb : Below W.heap.size W W') : ShB B g W' R :=
  ⟨hkeepK hb h.blk, h.gB, h.dj, fun i r hr => (h.ea i r hr).keep (Kp.of_below hb) fun c b hc hq => hb.block b ((h.ea i r hr).typ hc hq).2.1⟩
/-- one list is made longer, and put -/
theorem ShB.put {B g : Nat} {W w4 W5 : World} {R : List Sh} (h : ShB B g W R) (hB : B ≤ W.heap.size) {k c : Nat} {r r' : Sh} (hr : R[k]? = some r) (hc : c < 5) (hs : ∀ d, d < 5 → d ≠ c → r'.v.get d = r.v.get d)
    (k4 : Kp (fun b => (r.v.get c).ownBlock = some b) W w4) (hown : ∀ b, (r'.v.get c).ownBlock = some b → (r.v.get c).ownBlock = some b ∨ W.heap.size ≤ b) (hl : LvO B w4 r')
    (hg : W5.heap[g]? = some (.cells ((R.set k r').flatMap fun r => lvL r.v).toArray 45 (0, 0))) (q5 : Kq g w4 W5) : ShB B g W5 (R.set k r') ∧ Kp (fun b => B ≤ b) W W5 := by
  have hgl : g < W.heap.size := (Array.getElem?_eq_some_iff.1 h.blk).1
  have hgn : ¬ (r.v.get c).ownBlock = some g := fun e => h.ng hr hc e rfl
  have hg4 : w4.heap[g]? = some (.cells (R.flatMap fun r => lvL r.v).toArray 45 (0, 0)) := (k4.block g hgl hgn).trans h.blk
  have hkW : Kp (fun b => B ≤ b) W w4 := k4.weak fun b hb => ((h.ea k r hr).typ hc hb).1
  have hk5 : Kp (fun b => B ≤ b) w4 W5 := Kp.kq q5 h.gB
  have hkl : k < R.length := (List.getElem?_eq_some_iff.1 hr).1
  have hget : ∀ (i : Nat) (s : Sh), (R.set k r')[i]? = some s → (i = k ∧ s = r') ∨ (i ≠ k ∧ R[i]? = some s) := fun i s hi => by
    by_cases e : i = k
    · subst e
      rw [List.getElem?_set_self hkl] at hi
      injection hi with hi
      exact .inl ⟨rfl, hi.symm⟩
    · rw [List.getElem?_set_ne (fun q => e q.symm)] at hi
      exact .inr ⟨e, hi⟩
  have hold : ∀ d b, d < 5 → (r'.v.get d).ownBlock = some b → (r.v.get d).ownBlock = some b ∨ (d = c ∧ W.heap.size ≤ b) := fun d b hd hb => by
    by_cases e : d = c
    · subst e
      rcases hown b hb with q | q
      · exact .inl q
      · exact .inr ⟨rfl, q⟩
    · rw [hs d hd e] at hb
      exact .inl hb
  refine ⟨⟨hg, h.gB, ?_, ?_⟩, hkW.trans hk5⟩
  · intro i j s t c' d b hi hj hc' hd hb hb'
    rcases hget i s hi with ⟨rfl, rfl⟩ | ⟨hne, hi2⟩
    · rcases hget j t hj with ⟨rfl, rfl⟩ | ⟨hne', hj2⟩
      · refine ⟨rfl, ?_⟩
        rcases hold c' b hc' hb with q | ⟨q, q'⟩
        · rcases hold d b hd hb' with p | ⟨p, p'⟩
          · exact (h.dj _ _ r r c' d b hr hr hc' hd q p).2
          · have := ((h.ea _ r hr).typ hc' q).2.1; omega
        · rcases hold d b hd hb' with p | ⟨p, p'⟩
          · have := ((h.ea _ r hr).typ hd p).2.1; omega
          · omega
      · rcases hold c' b hc' hb with q | ⟨q, q'⟩
        · exact h.dj _ _ r t c' d b hr hj2 hc' hd q hb'
        · have := ((h.ea _ t hj2).typ hd hb').2.1; omega
    · rcases hget j t hj with ⟨rfl, rfl⟩ | ⟨hne', hj2⟩
      · rcases hold d b hd hb' with p | ⟨p, p'⟩
        · exact h.dj _ _ s r c' d b hi2 hr hc' hd hb p
        · have := ((h.ea _ s hi2).typ hc' hb).2.1; omega
      · exact h.dj _ _ s t c' d b hi2 hj2 hc' hd hb hb'
  · intro i s hi
    rcases hget i s hi with ⟨rfl, rfl⟩ | ⟨hne, hi⟩
    · refine hl.keep hk5 fun d b hd hb => ?_
      obtain ⟨_, h2, cur, t, h3, h4⟩ := hl.typ hd hb
      exact q5.block b (cells_typ h3 hg4 h4) h2
    · refine (h.ea i s hi).keep (hkW.trans hk5) fun d b hd hb => ?_
      have h2 := ((h.ea i s hi).typ hd hb).2.1
      have h3 : ¬ (r.v.get c).ownBlock = some b := fun e => hne (h.dj i k s r d c b hi hr hd hc hb e).1
      exact (q5.block b (h.ng hi hd hb) (Nat.lt_of_lt_of_le h2 k4.size)).trans (k4.block b h2 h3)
end Go.Proofs.Ytnnpdomfkedhpaa

-- one of their lists made longer.
namespace Go.Proofs.Ytnnpdomfkedhpaa
open Go.ChangeShapes Go.WideShapes Go.ChangeAt Go.RowKit Go.MapKept
set_option linter.unusedVariables false
set_option maxRecDepth 100000
def Lv.put (x : Lv) (c : Nat) (v : Value) : Lv := match c with
  | 0 => ⟨v, x.a, x.n, x.f, x.g⟩
  | 1 => ⟨x.e, v, x.n, x.f, x.g⟩
  | 2 => ⟨x.e, x.a, v, x.f, x.g⟩
  | 3 => ⟨x.e, x.a, x.n, v, x.g⟩
  | _ => ⟨x.e, x.a, x.n, x.f, v⟩
theorem put_get (x : Lv) {c : Nat} (hc : c < 5) (v : Value) : (x.put c v).get c = v := by
  match c, hc with
  | 0, _ => rfl
  | 1, _ => rfl
  | 2, _ => rfl
  | 3, _ => rfl
  | 4, _ => rfl
theorem put_ne (x : Lv) {c d : Nat} (hc : c < 5) (hd : d < 5) (v : Value) (h : d ≠ c) : (x.put c v).get d = x.get d := by
  match c, hc, d, hd with
  | 0, _, 0, _ => exact absurd rfl h
  | 0, _, 1, _ => rfl
  | 0, _, 2, _ => rfl
  | 0, _, 3, _ => rfl
  | 0, _, 4, _ => rfl
  | 1, _, 0, _ => rfl
  | 1, _, 1, _ => exact absurd rfl h
  | 1, _, 2, _ => rfl
  | 1, _, 3, _ => rfl
  | 1, _, 4, _ => rfl
  | 2, _, 0, _ => rfl
  | 2, _, 1, _ => rfl
  | 2, _, 2, _ => exact absurd rfl h
  | 2, _, 3, _ => rfl
  | 2, _, 4, _ => rfl
  | 3, _, 0, _ => rfl
  | 3, _, 1, _ => rfl
  | 3, _, 2, _ => rfl
  | 3, _, 3, _ => exact absurd rfl h
  | 3, _, 4, _ => rfl
  | 4, _, 0, _ => rfl
  | 4, _, 1, _ => rfl
  | 4, _, 2, _ => rfl
  | 4, _, 3, _ => rfl
  | 4, _, 4, _ => exact absurd rfl h
/-- a cell of the row -/
theorem ShB.cell {B g : Nat} {W : World} {R : List Sh} (h : ShB B g W R) {k : Nat} {r : Sh} (hr : R[k]? = some r) {c : Nat} (hc : c < 5) : W.cell? ⟨g, k * 5 + c, none⟩ = some (r.v.get c) := by
  refine cell_rowK h.blk _ _ ?_
  have := flatG_get (c := fun r : Sh => lvL r.v) (z := 5) (fun x => lvL_len x.v) R k c r hr hc
  rw [List.getElem?_toArray, this]
  match c, hc with
  | 0, _ => rfl
  | 1, _ => rfl
  | 2, _ => rfl
  | 3, _ => rfl
  | 4, _ => rfl
/-- the row with one cell put -/
theorem cells_put (r0 r1 r2 : Sh) {k c : Nat} (hk : k < 3) (hc : c < 5) (r : Sh) (hr : [r0, r1, r2][k]? = some r) (v : Value) (L : Lb) (fs gs : List Value) :
    ([r0, r1, r2].flatMap fun r => lvL r.v).toArray.setIfInBounds (k * 5 + c) v = (([r0, r1, r2].set k ⟨r.v.put c v, L, fs, gs⟩).flatMap fun r => lvL r.v).toArray := by
  match k, hk, c, hc with
  | 0, _, 0, _ => injection hr with hr; subst hr; rfl
  | 0, _, 1, _ => injection hr with hr; subst hr; rfl
  | 0, _, 2, _ => injection hr with hr; subst hr; rfl
  | 0, _, 3, _ => injection hr with hr; subst hr; rfl
  | 0, _, 4, _ => injection hr with hr; subst hr; rfl
  | 1, _, 0, _ => injection hr with hr; subst hr; rfl
  | 1, _, 1, _ => injection hr with hr; subst hr; rfl
  | 1, _, 2, _ => injection hr with hr; subst hr; rfl
  | 1, _, 3, _ => injection hr with hr; subst hr; rfl
  | 1, _, 4, _ => injection hr with hr; subst hr; rfl
  | 2, _, 0, _ => injection hr with hr; subst hr; rfl
  | 2, _, 1, _ => injection hr with hr; subst hr; rfl
  | 2, _, 2, _ => injection hr with hr; subst hr; rfl
  | 2, _, 3, _ => injection hr with hr; subst hr; rfl
  | 2, _, 4, _ => injection hr with hr; subst hr; rfl
section
variable {B g k : Nat} {W w4 : World} {R : List Sh} {r : Sh}
/-- the other four stay -/
theorem ShB.four (h : ShB B g W R) (hr : R[k]? = some r) {c : Nat} (hc : c < 5) (k4 : Kp (fun b => (r.v.get c).ownBlock = some b) W w4) : Kp (fun b => B ≤ b) W w4 ∧ ∀ d b, d < 5 → d ≠ c → (r.v.get d).ownBlock = some b → w4.heap[b]? = W.heap[b]? :=
  ⟨k4.weak fun b hb => ((h.ea k r hr).typ hc hb).1, fun d b hd hne hb => k4.block b ((h.ea k r hr).typ hd hb).2.1 fun e => hne (h.dj k k r r d c b hr hr hd hc hb e).2⟩
theorem ShB.putE (h : ShB B g W R) (hr : R[k]? = some r) (k4 : Kp (fun b => r.v.e.ownBlock = some b) W w4) {v' : Value} {l : List (ByteArray × Int)} (ho : OwnF (fun b => B ≤ b) enL 2 47 w4 v' l) :
    LvO B w4 ⟨r.v.put 0 v', ⟨l, r.L.a, r.L.n, r.L.df, r.L.nd⟩, r.fs, r.gs⟩ := by
  obtain ⟨hk, hn⟩ := h.four hr (c := 0) (by decide) k4
  have q := h.ea k r hr
  exact ⟨ho, q.a.keep fun b hb => hn 1 b (by decide) (by decide) hb, q.n.keep fun b hb => hn 2 b (by decide) (by decide) hb, q.f.keep fun b hb => hn 3 b (by decide) (by decide) hb, q.g.keep fun b hb => hn 4 b (by decide) (by decide) hb, q.lf, q.lg, fun i u l h1 h2 => (q.rf i u l h1 h2).kp hk, fun i u l h1 h2 => (q.rg i u l h1 h2).kp hk⟩
theorem ShB.putA (h : ShB B g W R) (hr : R[k]? = some r) (k4 : Kp (fun b => r.v.a.ownBlock = some b) W w4) {v' : Value} {l : List Int} (ho : OwnF (fun b => B ≤ b) nmL 1 3 w4 v' l) :
    LvO B w4 ⟨r.v.put 1 v', ⟨r.L.e, l, r.L.n, r.L.df, r.L.nd⟩, r.fs, r.gs⟩ := by
  obtain ⟨hk, hn⟩ := h.four hr (c := 1) (by decide) k4
  have q := h.ea k r hr
  exact ⟨q.e.keep fun b hb => hn 0 b (by decide) (by decide) hb, ho, q.n.keep fun b hb => hn 2 b (by decide) (by decide) hb, q.f.keep fun b hb => hn 3 b (by decide) (by decide) hb, q.g.keep fun b hb => hn 4 b (by decide) (by decide) hb, q.lf, q.lg, fun i u l h1 h2 => (q.rf i u l h1 h2).kp hk, fun i u l h1 h2 => (q.rg i u l h1 h2).kp hk⟩
theorem ShB.putN (h : ShB B g W R) (hr : R[k]? = some r) (k4 : Kp (fun b => r.v.n.ownBlock = some b) W w4) {v' : Value} {l : List ByteArray} (ho : OwnF (fun b => B ≤ b) txL 1 9 w4 v' l) :
    LvO B w4 ⟨r.v.put 2 v', ⟨r.L.e, r.L.a, l, r.L.df, r.L.nd⟩, r.fs, r.gs⟩ := by
  obtain ⟨hk, hn⟩ := h.four hr (c := 2) (by decide) k4
  have q := h.ea k r hr
  exact ⟨q.e.keep fun b hb => hn 0 b (by decide) (by decide) hb, q.a.keep fun b hb => hn 1 b (by decide) (by decide) hb, ho, q.f.keep fun b hb => hn 3 b (by decide) (by decide) hb, q.g.keep fun b hb => hn 4 b (by decide) (by decide) hb, q.lf, q.lg, fun i u l h1 h2 => (q.rf i u l h1 h2).kp hk, fun i u l h1 h2 => (q.rg i u l h1 h2).kp hk⟩
theorem one_more {P : Value → List ByteArray → Prop} {fs : List Value} {ls : List (List ByteArray)} (hl : fs.length = ls.length) (h : ∀ (i : Nat) (u : Value) (l : List ByteArray), fs[i]? = some u → ls[i]? = some l → P u l) {v : Value} {m : List ByteArray} (hv : P v m) :
    (fs ++ [v]).length = (ls ++ [m]).length ∧ ∀ (i : Nat) (u : Value) (l : List ByteArray), (fs ++ [v])[i]? = some u → (ls ++ [m])[i]? = some l → P u l := by
  refine ⟨by rw [List.length_append, List.length_append, hl]; rfl, fun i u l hu hq => ?_⟩
  by_cases hi : i < fs.length
  · rw [List.getElem?_append_left hi] at hu
    rw [List.getElem?_append_left (by rw [← hl]; exact hi)] at hq
    exact h i u l hu hq
  · have hie : i = fs.length := by
      have h5 := (List.getElem?_eq_some_iff.1 hu).1
      rw [List.length_append, List.length_singleton] at h5
      omega
    subst hie
    rw [List.getElem?_append_right (Nat.le_refl _), Nat.sub_self] at hu
    rw [hl, List.getElem?_append_right (Nat.le_refl _), Nat.sub_self] at hq
    simp at hu hq
    subst hu hq
    exact hv
theorem ShB.putF (h : ShB B g W R) (hr : R[k]? = some r) (k4 : Kp (fun b => r.v.f.ownBlock = some b) W w4) {v' u : Value} {m : List ByteArray} (ho : OwnF (fun b => B ≤ b) vaL 1 23 w4 v' (r.fs ++ [u])) (hu : RowN (fun b => B ≤ b) txL w4 u m) :
    LvO B w4 ⟨r.v.put 3 v', ⟨r.L.e, r.L.a, r.L.n, r.L.df ++ [m], r.L.nd⟩, r.fs ++ [u], r.gs⟩ := by
  obtain ⟨hk, hn⟩ := h.four hr (c := 3) (by decide) k4
  have q := h.ea k r hr
  obtain ⟨h1, h2⟩ := one_more q.lf (P := fun u l => RowN (fun b => B ≤ b) txL w4 u l) (fun i u l h1 h2 => (q.rf i u l h1 h2).kp hk) hu
  exact ⟨q.e.keep fun b hb => hn 0 b (by decide) (by decide) hb, q.a.keep fun b hb => hn 1 b (by decide) (by decide) hb, q.n.keep fun b hb => hn 2 b (by decide) (by decide) hb, ho, q.g.keep fun b hb => hn 4 b (by decide) (by decide) hb, h1, q.lg, h2, fun i u l h1 h2 => (q.rg i u l h1 h2).kp hk⟩
theorem ShB.putG (h : ShB B g W R) (hr : R[k]? = some r) (k4 : Kp (fun b => r.v.g.ownBlock = some b) W w4) {v' u : Value} {m : List ByteArray} (ho : OwnF (fun b => B ≤ b) vaL 1 23 w4 v' (r.gs ++ [u])) (hu : RowN (fun b => B ≤ b) txL w4 u m) :
    LvO B w4 ⟨r.v.put 4 v', ⟨r.L.e, r.L.a, r.L.n, r.L.df, r.L.nd ++ [m]⟩, r.fs, r.gs ++ [u]⟩ := by
  obtain ⟨hk, hn⟩ := h.four hr (c := 4) (by decide) k4
  have q := h.ea k r hr
  obtain ⟨h1, h2⟩ := one_more q.lg (P := fun u l => RowN (fun b => B ≤ b) txL w4 u l) (fun i u l h1 h2 => (q.rg i u l h1 h2).kp hk) hu
  exact ⟨q.e.keep fun b hb => hn 0 b (by decide) (by decide) hb, q.a.keep fun b hb => hn 1 b (by decide) (by decide) hb, q.n.keep fun b hb => hn 2 b (by decide) (by decide) hb, q.f.keep fun b hb => hn 3 b (by decide) (by decide) hb, ho, q.lf, h1, fun i u l h1 h2 => (q.rf i u l h1 h2).kp hk, h2⟩
end
end Go.Proofs.Ytnnpdomfkedhpaa

-- shelves.
namespace Go.Proofs.Ytnnpdomfkedhpaa
open Go.ChangeShapes Go.WideShapes Go.ChangeAt Go.RowKit Go.MapKept
set_option linter.unusedVariables false
set_option maxRecDepth 100000
theorem cells_putG (r0 r1 r2 : Sh) {k c : Nat} (hk : k < 3) (hc : c < 5) (r : Sh) (hr : [r0, r1, r2][k]? = some r) (v : Value) (L : Lb) (fs gs : List Value) :
    putG ([r0, r1, r2].flatMap fun r => lvL r.v).toArray (k * 5 + c) #[v] = (([r0, r1, r2].set k ⟨r.v.put c v, L, fs, gs⟩).flatMap fun r => lvL r.v).toArray := by
  match k, hk, c, hc with
  | 0, _, 0, _ => injection hr with hr; subst hr; rfl
  | 0, _, 1, _ => injection hr with hr; subst hr; rfl
  | 0, _, 2, _ => injection hr with hr; subst hr; rfl
  | 0, _, 3, _ => injection hr with hr; subst hr; rfl
  | 0, _, 4, _ => injection hr with hr; subst hr; rfl
  | 1, _, 0, _ => injection hr with hr; subst hr; rfl
  | 1, _, 1, _ => injection hr with hr; subst hr; rfl
  | 1, _, 2, _ => injection hr with hr; subst hr; rfl
  | 1, _, 3, _ => injection hr with hr; subst hr; rfl
  | 1, _, 4, _ => injection hr with hr; subst hr; rfl
  | 2, _, 0, _ => injection hr with hr; subst hr; rfl
  | 2, _, 1, _ => injection hr with hr; subst hr; rfl
  | 2, _, 2, _ => injection hr with hr; subst hr; rfl
  | 2, _, 3, _ => injection hr with hr; subst hr; rfl
  | 2, _, 4, _ => injection hr with hr; subst hr; rfl
def emptyLv : Lv := ⟨.slice none 0 0, .slice none 0 0, .slice none 0 0, .slice none 0 0, .slice none 0 0⟩
theorem infoLi : (Try.prog.info? 45).map (fun i => (i.zero, i.size, i.bytes)) = some (some (.agg #[.slice none 0 0, .slice none 0 0, .slice none 0 0, .slice none 0 0, .slice none 0 0]), 5, 120) := by kernel_rfl
theorem mk_libs (W : World) : (Instr.makeSlice 28 (.int .i64 3) (.int .i64 3)).run Try.prog W = .ok (.slice (some ⟨W.heap.size, 0, none⟩) 3 3) (W.alloc (.cells ((List.replicate 3 emptyLv).flatMap lvL).toArray 45)) := by
  obtain ⟨i0, hi, hz0, hz1, hz2⟩ := info_parts infoLi
  have h := run_make W 28 45 i0 _ Try.underlying28 hi hz0 .i64 .i64 3 3 (by omega) (by omega) (by rw [hz2]; omega) (by omega)
  rw [h, hz1, ← made_flat lvL 5 (by decide) lvL_len emptyLv 3]
  rfl
def noSh : Sh := ⟨emptyLv, noLb, [], []⟩
theorem shB_start {B : Nat} {W : World} (hB : B ≤ W.heap.size) : ShB B W.heap.size (W.alloc (.cells ((List.replicate 3 emptyLv).flatMap lvL).toArray 45)) [noSh, noSh, noSh] := by
  refine ⟨heap_alloc_new _ _, hB, fun i j r s c d b hi hj hc hd hb => ?_, fun i r hr => ?_⟩
  · have hr : r = noSh := by have := List.mem_of_getElem? hi; simp at this; exact this
    subst hr
    match c, hc with
    | 0, _ => simp [noSh, emptyLv, Lv.get, Value.ownBlock] at hb
    | 1, _ => simp [noSh, emptyLv, Lv.get, Value.ownBlock] at hb
    | 2, _ => simp [noSh, emptyLv, Lv.get, Value.ownBlock] at hb
    | 3, _ => simp [noSh, emptyLv, Lv.get, Value.ownBlock] at hb
    | 4, _ => simp [noSh, emptyLv, Lv.get, Value.ownBlock] at hb
  · have hr : r = noSh := by have := List.mem_of_getElem? hr; simp at this; exact this
    subst hr
    exact ⟨OwnF.nil, OwnF.nil, OwnF.nil, OwnF.nil, OwnF.nil, rfl, rfl, fun i u l h => by simp [noSh] at h, fun i u l h => by simp [noSh] at h⟩
theorem sh3 {R : List Sh} (h : R.length = 3) : ∃ r0 r1 r2, R = [r0, r1, r2] := by
  match R, h with
  | [a, b, c], _ => exact ⟨a, b, c, rfl⟩
end Go.Proofs.Ytnnpdomfkedhpaa

-- three libraries, one of them being filled.
namespace Go.Proofs.Ytnnpdomfkedhpaa
open Go.ChangeShapes Go.WideShapes Go.ChangeAt Go.RowKit Go.MapKept
set_option linter.unusedVariables false
set_option maxRecDepth 100000
def ixf (bk : Bool) (n m : Nat) : Nat := if bk then n - 1 - m else m
theorem sizeSlI : (Try.prog.info? 41).map (·.size) = some 1 := by kernel_rfl
theorem sizeSlT : (Try.prog.info? 23).map (·.size) = some 1 := by kernel_rfl
def flSh (R : List Sh) : Array Value := (R.flatMap fun r => lvL r.v).toArray
theorem flSh_size {R : List Sh} (h3 : R.length = 3) : (flSh R).size = 15 := by
  unfold flSh
  rw [List.size_toArray, flatG_len (fun r : Sh => lvL r.v) 5 (fun x => lvL_len x.v), h3]
theorem set3 {R : List Sh} (h3 : R.length = 3) (q : Nat) (r : Sh) : (R.set q r).length = 3 := by rw [List.length_set]; exact h3
theorem putR {R : List Sh} (h3 : R.length = 3) {q c : Nat} (hq : q < 3) (hc : c < 5) (r : Sh) (v : Value) (L : Lb) (fs gs : List Value) :
    putAt (flSh (R.set q r)) (q * 5 + c) #[v] = flSh (R.set q ⟨r.v.put c v, L, fs, gs⟩) := by
  obtain ⟨r0, r1, r2, e⟩ := sh3 (set3 h3 q r)
  have hr : (R.set q r)[q]? = some r := List.getElem?_set_self (by omega)
  have h := cells_putG r0 r1 r2 hq hc r (by rw [← e]; exact hr) v L fs gs
  rw [← e, List.set_set] at h
  exact h
theorem setR {R : List Sh} (h3 : R.length = 3) {q c : Nat} (hq : q < 3) (hc : c < 5) (r : Sh) (v : Value) (L : Lb) (fs gs : List Value) :
    (flSh (R.set q r)).setIfInBounds (q * 5 + c) v = flSh (R.set q ⟨r.v.put c v, L, fs, gs⟩) := by
  obtain ⟨r0, r1, r2, e⟩ := sh3 (set3 h3 q r)
  have hr : (R.set q r)[q]? = some r := List.getElem?_set_self (by omega)
  have h := cells_put r0 r1 r2 hq hc r (by rw [← e]; exact hr) v L fs gs
  rw [← e, List.set_set] at h
  exact h
theorem fitR {R : List Sh} (h3 : R.length = 3) {q c : Nat} (hq : q < 3) (hc : c < 5) (r : Sh) : Nat.ble (q * 5 + c + 1) (flSh (R.set q r)).size = true :=
  Nat.ble_eq_true_of_le (by rw [flSh_size (set3 h3 q r)]; omega)
/-- the row, library q of it being filled -/
structure Fil (B g : Nat) (W : World) (R : List Sh) (q : Nat) (r : Sh) : Prop where
  sh : ShB B g W (R.set q r)
  B : B ≤ W.heap.size
  l : R.length = 3
  q : q < 3
section
variable {B g q : Nat} {W w4 W5 : World} {R : List Sh} {r : Sh}
theorem Fil.at (h : Fil B g W R q r) : (R.set q r)[q]? = some r := List.getElem?_set_self (by rw [h.l]; exact h.q)
theorem Fil.blk (h : Fil B g W R q r) : W.heap[g]? = some (.cells (flSh (R.set q r)) 45 (0, 0)) := h.sh.blk
theorem Fil.lv (h : Fil B g W R q r) : LvO B W r := h.sh.ea q r h.at
theorem Fil.cell (h : Fil B g W R q r) {c : Nat} (hc : c < 5) : W.cell? ⟨g, q * 5 + c, none⟩ = some (r.v.get c) := h.sh.cell h.at hc
theorem Fil.on (h : Fil B g W R q r) {W' : World} (hb : Below W.heap.size W W') : Fil B g W' R q r := ⟨h.sh.on hb, Nat.le_trans h.B hb.size, h.l, h.q⟩
theorem Fil.old (h : Fil B g W R q r) {c : Nat} (hc : c < 5) (k4 : Kp (fun b => (r.v.get c).ownBlock = some b) W w4) : w4.heap[g]? = some (.cells (flSh (R.set q r)) 45 (0, 0)) :=
  (k4.block g (Array.getElem?_eq_some_iff.1 h.blk).1 (fun e => h.sh.ng h.at hc e rfl)).trans h.blk
theorem Fil.oldc (h : Fil B g W R q r) {c d : Nat} (hc : c < 5) (hd : d < 5) (k4 : Kp (fun b => (r.v.get c).ownBlock = some b) W w4) : w4.cell? ⟨g, q * 5 + d, none⟩ = some (r.v.get d) := by
  have h1 := h.cell hd
  have h2 := h.old hc k4
  have h3 := h.blk
  have : w4.heap[g]? = W.heap[g]? := by rw [h2, h3]
  rw [← h1]
  unfold World.cell?
  rw [this]
theorem Fil.put (h : Fil B g W R q r) {c : Nat} (hc : c < 5) {v' : Value} {L : Lb} {fs gs : List Value} (k4 : Kp (fun b => (r.v.get c).ownBlock = some b) W w4) (hown : ∀ b, v'.ownBlock = some b → (r.v.get c).ownBlock = some b ∨ W.heap.size ≤ b) (hl : LvO B w4 ⟨r.v.put c v', L, fs, gs⟩)
    (hg : W5.heap[g]? = some (.cells (flSh (R.set q ⟨r.v.put c v', L, fs, gs⟩)) 45 (0, 0))) (q5 : Kq g w4 W5) : Fil B g W5 R q ⟨r.v.put c v', L, fs, gs⟩ ∧ Kp (fun b => B ≤ b) W W5 := by
  have h1 := h.sh.put h.B h.at hc (r' := ⟨r.v.put c v', L, fs, gs⟩) (fun d hd hne => put_ne _ hc hd _ hne) k4 (fun b hb => hown b (by rw [← put_get r.v hc v']; exact hb)) hl (by rw [List.set_set]; exact hg) q5
  rw [List.set_set] at h1
  exact ⟨⟨h1.1, Nat.le_trans h.B h1.2.size, h.l, h.q⟩, h1.2⟩
theorem LvO.typO {B : Nat} {W : World} {r : Sh} (h : LvO B W r) {c b : Nat} (hc : c < 5) (hb : (r.v.get c).ownBlock = some b) : ∃ cur t, W.heap[b]? = some (.cells cur t (0, 0)) ∧ t ≠ 38 := by
  match c, hc with
  | 0, _ => obtain ⟨cur, q⟩ := h.e.typed hb; exact ⟨cur, _, q, by decide⟩
  | 1, _ => obtain ⟨cur, q⟩ := h.a.typed hb; exact ⟨cur, _, q, by decide⟩
  | 2, _ => obtain ⟨cur, q⟩ := h.n.typed hb; exact ⟨cur, _, q, by decide⟩
  | 3, _ => obtain ⟨cur, q⟩ := h.f.typed hb; exact ⟨cur, _, q, by decide⟩
  | 4, _ => obtain ⟨cur, q⟩ := h.g.typed hb; exact ⟨cur, _, q, by decide⟩
/-- a box of an object stays -/
theorem Fil.box (h : Fil B g W R q r) {c x : Nat} {cs : Array Value} (hc : c < 5) (hx : W.heap[x]? = some (.cells cs 38 (0, 0))) (k4 : Kp (fun b => (r.v.get c).ownBlock = some b) W w4) (q5 : Kq g w4 W5) : W5.heap[x]? = some (.cells cs 38 (0, 0)) := by
  have hl := (Array.getElem?_eq_some_iff.1 hx).1
  have hg : x ≠ g := cells_typ hx h.blk (by decide)
  have h4 : w4.heap[x]? = some (.cells cs 38 (0, 0)) := (k4.block x hl (fun e => by
    obtain ⟨cur, t, h1, h2⟩ := h.lv.typO hc e
    exact cells_typ h1 hx h2 rfl)).trans hx
  exact (q5.block x hg (Nat.lt_of_lt_of_le hl k4.size)).trans h4
theorem kp_thr {v v0 : Value} {Wa w5 : World} (e : v0 = v) (hb : Below W.heap.size W Wa) (k5 : Kp (fun b => v.ownBlock = some b) Wa w5) : Kp (fun b => v0.ownBlock = some b) W w5 := by
  subst e; exact (Kp.of_below hb).trans k5
theorem Fil.kpB (h : Fil B g W R q r) {c : Nat} (hc : c < 5) (k4 : Kp (fun b => (r.v.get c).ownBlock = some b) W w4) : Kp (fun b => B ≤ b) W w4 := k4.weak fun b hb => (h.lv.typ hc hb).1
/-- a cell of the row is put -/
theorem Fil.step (h : Fil B g W R q r) {c : Nat} (hc : c < 5) {v' : Value} {L : Lb} {fs gs : List Value} (k4 : Kp (fun b => (r.v.get c).ownBlock = some b) W w4) (hown : ∀ b, v'.ownBlock = some b → (r.v.get c).ownBlock = some b ∨ W.heap.size ≤ b) (hl : LvO B w4 ⟨r.v.put c v', L, fs, gs⟩) :
    Fil B g (w4.setCell ⟨g, q * 5 + c, none⟩ v') R q ⟨r.v.put c v', L, fs, gs⟩ ∧ Kp (fun b => B ≤ b) W (w4.setCell ⟨g, q * 5 + c, none⟩ v') ∧ ∀ (x : Nat) (cs : Array Value), W.heap[x]? = some (.cells cs 38 (0, 0)) → (w4.setCell ⟨g, q * 5 + c, none⟩ v').heap[x]? = some (.cells cs 38 (0, 0)) := by
  have q5 := kq_set w4 g (q * 5 + c) v'
  have hg := blk_set (h.old hc k4) (k := q * 5 + c) v'
  rw [setR h.l h.q hc r v' L fs gs] at hg
  obtain ⟨h1, h2⟩ := h.put hc k4 hown hl hg q5
  exact ⟨h1, h2, fun x cs hx => h.box hc hx k4 q5⟩
end
/-- how long a library's lists are -/
structure Bnd (m : Nat) (L : Lb) : Prop where
  e : L.e.length ≤ 1048576 * m
  a : L.a.length ≤ m
  n : L.n.length ≤ m
  f : L.df.length ≤ m
  g : L.nd.length ≤ m
theorem Bnd.up {m k : Nat} {L : Lb} (h : Bnd m L) (hk : m ≤ k) : Bnd k L :=
  ⟨Nat.le_trans h.e (Nat.mul_le_mul_left _ hk), Nat.le_trans h.a hk, Nat.le_trans h.n hk, Nat.le_trans h.f hk, Nat.le_trans h.g hk⟩
theorem bnd_fold {O : List Ob} {kf : Nat → Int} (hM : ∀ o ∈ O, o.df.length ≤ 1048576) (is : List Nat) : ∀ {m : Nat} {Ls : List Lb}, (∀ L ∈ Ls, Bnd m L) → ∀ L ∈ is.foldl (shN O kf) Ls, Bnd (m + is.length) L := by
  induction is with
  | nil => intro m Ls h L hL; exact h L hL
  | cons i t ih =>
    intro m Ls h L hL
    rw [List.foldl_cons] at hL
    have h1 : ∀ L ∈ shN O kf Ls i, Bnd (m + 1) L := fun L hL => by
      unfold shN at hL
      cases ho : O[i]? with
      | none => rw [ho] at hL; exact (h L hL).up (by omega)
      | some o =>
        rw [ho] at hL
        simp only at hL
        obtain ⟨j, hj⟩ := List.getElem?_of_mem hL
        rw [List.getElem?_modify] at hj
        cases hq : Ls[j]? with
        | none => rw [hq] at hj; cases hj
        | some L0 =>
          rw [hq] at hj
          have hL0 := h L0 (List.mem_of_getElem? hq)
          have hj' : (if (kf i).toNat = j then addO o i L0 else L0) = L := by injection hj
          by_cases hk : (kf i).toNat = j
          · rw [if_pos hk] at hj'
            subst hj'
            have hm := hM o (List.mem_of_getElem? ho)
            obtain ⟨e, a, n, f, g⟩ := hL0
            exact ⟨by simp only [addO, List.length_append, List.length_map]; omega, by simp only [addO, List.length_append, List.length_singleton]; omega, by simp only [addO, List.length_append, List.length_singleton]; omega, by simp only [addO, List.length_append, List.length_singleton]; omega, by simp only [addO, List.length_append, List.length_singleton]; omega⟩
          · rw [if_neg hk] at hj'
            subst hj'
            exact hL0.up (by omega)
    have := ih h1 L hL
    rw [List.length_cons]
    exact this.up (by omega)
theorem bnd_start : ∀ L ∈ [noLb, noLb, noLb], Bnd 0 L := fun L hL => by
  have : L = noLb := by simp at hL; exact hL
  subst this
  exact ⟨Nat.le_refl _, Nat.le_refl _, Nat.le_refl _, Nat.le_refl _, Nat.le_refl _⟩
theorem bnd_at {O : List Ob} {kf : Nat → Int} (hM : ∀ o ∈ O, o.df.length ≤ 1048576) {bk : Bool} {n m : Nat} {R : List Sh} (hR : R.map (·.L) = ((List.range m).map (ixf bk n)).foldl (shN O kf) [noLb, noLb, noLb]) {q : Nat} {r : Sh} (hr : R[q]? = some r) : Bnd m r.L := by
  have h := bnd_fold (kf := kf) hM ((List.range m).map (ixf bk n)) bnd_start
  rw [← hR] at h
  have := h r.L (List.mem_map.2 ⟨r, List.mem_of_getElem? hr, rfl⟩)
  rw [List.length_map, List.length_range, Nat.zero_add] at this
  exact this
theorem modify_at {α : Type} (l : List α) (q : Nat) (f : α → α) (x : α) (hx : l[q]? = some x) : l.modify q f = l.set q (f x) := by
  apply List.ext_getElem?
  intro j
  rw [List.getElem?_modify]
  by_cases e : q = j
  · subst e
    rw [List.getElem?_set_self (List.getElem?_eq_some_iff.1 hx).1, hx]
    simp
  · rw [List.getElem?_set_ne e]
    simp [e]
/-- a round's end -/
theorem round_end {O : List Ob} {kf : Nat → Int} {bk : Bool} {n m : Nat} {R : List Sh} (hR : R.map (·.L) = ((List.range m).map (ixf bk n)).foldl (shN O kf) [noLb, noLb, noLb]) {q : Nat} {r r' : Sh} {o : Ob} (hr : R[q]? = some r) (ho : O[ixf bk n m]? = some o) (hq : kf (ixf bk n m) = (q : Int)) (hL : r'.L = addO o (ixf bk n m) r.L) :
    (R.set q r').map (·.L) = ((List.range (m + 1)).map (ixf bk n)).foldl (shN O kf) [noLb, noLb, noLb] := by
  rw [List.range_succ, List.map_append, List.foldl_append, ← hR]
  show _ = shN O kf (R.map (·.L)) (ixf bk n m)
  unfold shN
  rw [ho]
  simp only
  rw [hq, Int.toNat_natCast, modify_at (R.map (·.L)) q _ r.L (by rw [List.getElem?_map, hr]; rfl), List.map_set, hL]
end Go.Proofs.Ytnnpdomfkedhpaa
