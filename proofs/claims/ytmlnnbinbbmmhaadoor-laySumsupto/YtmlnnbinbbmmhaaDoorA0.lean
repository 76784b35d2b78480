
-- Lists in memory: members, texts, numbers, events.
import Derived.Test.YtmlnnbinbbmmhaaDoorKQ
import Derived.Test.YtmlnnbinbbmmhaaDoorGK
import Derived.Laws.StructEq
import Derived.Laws.Cover2
import Derived.BigQuiet
import Derived.Deep.QuietTactic
namespace Go.Proofs.YtmlnnbinbbmmhaaDoor
open Go.ChangeShapes Go.WideShapes Go.ChangeAt Go.RowKit
set_option linter.unusedVariables false
set_option maxRecDepth 100000
/-- a slice that reads as a list whose elements have z cells each -/
def RowG {α : Type} (c : α → List Value) (w : World) (v : Value) (L : List α) : Prop :=
  ∃ ao cap, v = .slice ao L.length cap ∧ L.length ≤ cap ∧ cap ≤ maxLen ∧ (ao = none → cap = 0) ∧ (0 < L.length → ∃ b off, ao = some ⟨b, off, none⟩ ∧ ∀ j u, (L.flatMap c)[j]? = some u → w.cell? ⟨b, off + j, none⟩ = some u)
theorem cell_onG {w w' : World} {p : Addr} {v : Value} (h : w.cell? p = some v) (hb : Below w.heap.size w w') : w'.cell? p = some v := (hb.cell (p := p) (World.block_lt_of_cell? _ _ h)).trans h
section
variable {α : Type} {c : α → List Value} {z : Nat}
theorem RowG.on {w w' : World} {v : Value} {L : List α} (h : RowG c w v L) (hb : Below w.heap.size w w') : RowG c w' v L := by
  obtain ⟨ao, cap, e, h1, h2, h3, h4⟩ := h
  refine ⟨ao, cap, e, h1, h2, h3, fun hp => ?_⟩
  obtain ⟨b, off, e2, hc⟩ := h4 hp
  exact ⟨b, off, e2, fun j u hu => cell_onG (hc j u hu) hb⟩
theorem RowG.form {w : World} {v : Value} {L : List α} (h : RowG c w v L) : ∃ ao cap, v = .slice ao L.length cap ∧ L.length ≤ cap ∧ cap ≤ maxLen := by
  obtain ⟨ao, cap, e, h1, h2, _⟩ := h
  exact ⟨ao, cap, e, h1, h2⟩
theorem flatG_get (hc : ∀ x, (c x).length = z) (l : List α) : ∀ (k m : Nat) (x : α), l[k]? = some x → m < z → (l.flatMap c)[k * z + m]? = (c x)[m]? := by
  induction l with
  | nil => intro k m x h; simp at h
  | cons y r ih =>
    intro k m x h hm
    have hx : (c y).length = z := hc y
    rw [List.flatMap_cons]
    cases k with
    | zero =>
      simp at h; subst h
      rw [List.getElem?_append_left (by omega)]; simp
    | succ k =>
      have e1 : (k + 1) * z + m = z + (k * z + m) := by rw [Nat.add_mul, Nat.one_mul]; omega
      rw [e1, List.getElem?_append_right (by omega), hx, Nat.add_sub_cancel_left]
      exact ih k m x (by simpa using h) hm
/-- the cells of an element -/
theorem RowG.at {w : World} {v : Value} {L : List α} {k : Nat} {x : α} (hc : ∀ x, (c x).length = z) (h : RowG c w v L) (hx : L[k]? = some x) : ∃ b off cap, v = .slice (some ⟨b, off, none⟩) L.length cap ∧ L.length ≤ cap ∧ cap ≤ maxLen ∧ ∀ m u, (c x)[m]? = some u → w.cell? ⟨b, off + k * z + m, none⟩ = some u := by
  obtain ⟨ao, cap, e, h1, h2, h3, h4⟩ := h
  have hl := (List.getElem?_eq_some_iff.1 hx).1
  obtain ⟨b, off, e2, hcl⟩ := h4 (by omega)
  subst e2
  refine ⟨b, off, cap, e, h1, h2, fun m u hu => ?_⟩
  have hm : m < z := by have := (List.getElem?_eq_some_iff.1 hu).1; rwa [hc] at this
  rw [Nat.add_assoc]
  exact hcl _ _ (by rw [flatG_get hc L k m x hx hm]; exact hu)
theorem flatG_one (h1 : ∀ x, ∀ u ∈ c x, u.oneCell' = true) (l : List α) : ∀ u ∈ l.flatMap c, u.oneCell' = true := by
  intro u hu
  obtain ⟨x, _, hx⟩ := List.mem_flatMap.1 hu
  exact h1 x u hx
/-- a row of one's own reads as its list -/
theorem rowG_own {w : World} {B e : Nat} {v : Value} {L : List α} (hz : 0 < z) (hc : ∀ x, (c x).length = z) (h : w.ownsRow B e z v L.length (L.flatMap c)) : RowG c w v L := by
  rcases h.2 with ⟨rfl, h0⟩ | ⟨g, cap, cur, rfl, hb, hg, hn, hm, hs, ht⟩
  · exact ⟨none, 0, by rw [h0], by omega, by decide, fun _ => rfl, fun hp => by omega⟩
  · refine ⟨_, cap, rfl, hn, hm, (fun h => by cases h), fun _ => ⟨g, 0, rfl, fun j u hu => ?_⟩⟩
    rw [Nat.zero_add]
    refine cell_rowK hg j u ?_
    have hj : j < L.length * z := by have := (List.getElem?_eq_some_iff.1 hu).1; rwa [flatG_len c z hc] at this
    rw [← ht, List.getElem?_take_of_lt hj, Array.getElem?_toList] at hu
    exact hu
end
theorem ownG_kept {B : Nat} {w w' : World} {e : TypeId} {s k : Nat} {v : Value} {xs : List Value} (h : w.ownsRow B e s v k xs) (hk : ∀ g, v.ownBlock = some g → w'.heap[g]? = w.heap[g]?) : w'.ownsRow B e s v k xs := by
  refine ⟨h.1, ?_⟩
  rcases h.2 with q | ⟨g, cap, cur, rfl, q2, q3, q4⟩
  · exact .inl q
  · exact .inr ⟨g, cap, cur, rfl, q2, (hk g rfl).trans q3, q4⟩
/-- a member -/
structure Mx where
  d : Int
  u : Int
  g : Int
  m : Int
  n : ByteArray
  s : Int
  dt : ByteArray
def mxL (x : Mx) : List Value := [.int .i64 x.d, .int .i64 x.u, .int .i64 x.g, .int .i64 x.m, .string x.n, .int .i64 x.s, .string x.dt]
theorem mxL_len (x : Mx) : (mxL x).length = 7 := rfl
theorem mxL_one : ∀ x, ∀ u ∈ mxL x, u.oneCell' = true := by
  intro x u hu
  simp only [mxL, List.mem_cons, List.not_mem_nil, or_false] at hu
  rcases hu with rfl | rfl | rfl | rfl | rfl | rfl | rfl <;> rfl
abbrev RowM := RowG mxL
def OwnM (B : Nat) (w : World) (v : Value) (L : List Mx) : Prop := w.ownsRow B 54 7 v L.length (L.flatMap mxL)
theorem OwnM.row {B : Nat} {w : World} {v : Value} {L : List Mx} (h : OwnM B w v L) : RowM w v L := rowG_own (by decide) mxL_len h
theorem OwnM.on {B : Nat} {w w' : World} {v : Value} {L : List Mx} (h : OwnM B w v L) (hb : Below w.heap.size w w') : OwnM B w' v L := ownG_on h hb
theorem OwnM.le {B B' : Nat} {w : World} {v : Value} {L : List Mx} (h : OwnM B' w v L) (hb : B ≤ B') : OwnM B w v L := ownG_le h hb
theorem RowG.mx {w : World} {v : Value} {L : List Mx} {k : Nat} {x : Mx} (h : RowM w v L) (hx : L[k]? = some x) : ∃ b off cap, v = .slice (some ⟨b, off, none⟩) L.length cap ∧ w.cell? ⟨b, off + k * 7, none⟩ = some (.int .i64 x.d) ∧ w.cell? ⟨b, off + k * 7 + 1, none⟩ = some (.int .i64 x.u) ∧ w.cell? ⟨b, off + k * 7 + 2, none⟩ = some (.int .i64 x.g) ∧ w.cell? ⟨b, off + k * 7 + 3, none⟩ = some (.int .i64 x.m) ∧ w.cell? ⟨b, off + k * 7 + 4, none⟩ = some (.string x.n) ∧ w.cell? ⟨b, off + k * 7 + 5, none⟩ = some (.int .i64 x.s) ∧ w.cell? ⟨b, off + k * 7 + 6, none⟩ = some (.string x.dt) := by
  obtain ⟨b, off, cap, e, _, _, hc⟩ := RowG.at mxL_len h hx
  exact ⟨b, off, cap, e, hc 0 _ rfl, hc 1 _ rfl, hc 2 _ rfl, hc 3 _ rfl, hc 4 _ rfl, hc 5 _ rfl, hc 6 _ rfl⟩
/-- a text -/
def txL (x : ByteArray) : List Value := [.string x]
theorem txL_len (x : ByteArray) : (txL x).length = 1 := rfl
theorem txL_one : ∀ x, ∀ u ∈ txL x, u.oneCell' = true := by
  intro x u hu
  simp only [txL, List.mem_cons, List.not_mem_nil, or_false] at hu
  subst hu; rfl
abbrev RowT := RowG txL
def OwnT (B : Nat) (w : World) (v : Value) (L : List ByteArray) : Prop := w.ownsRow B 9 1 v L.length (L.flatMap txL)
theorem OwnT.row {B : Nat} {w : World} {v : Value} {L : List ByteArray} (h : OwnT B w v L) : RowT w v L := rowG_own (by decide) txL_len h
theorem OwnT.on {B : Nat} {w w' : World} {v : Value} {L : List ByteArray} (h : OwnT B w v L) (hb : Below w.heap.size w w') : OwnT B w' v L := ownG_on h hb
theorem OwnT.le {B B' : Nat} {w : World} {v : Value} {L : List ByteArray} (h : OwnT B' w v L) (hb : B ≤ B') : OwnT B w v L := ownG_le h hb
theorem RowG.tx {w : World} {v : Value} {L : List ByteArray} {k : Nat} {x : ByteArray} (h : RowT w v L) (hx : L[k]? = some x) : ∃ b off cap, v = .slice (some ⟨b, off, none⟩) L.length cap ∧ w.cell? ⟨b, off + k, none⟩ = some (.string x) := by
  obtain ⟨b, off, cap, e, _, _, hc⟩ := RowG.at txL_len h hx
  have := hc 0 _ rfl
  rw [Nat.mul_one] at this
  exact ⟨b, off, cap, e, this⟩
/-- a number -/
def nmL (x : Int) : List Value := [.int .i64 x]
theorem nmL_len (x : Int) : (nmL x).length = 1 := rfl
theorem nmL_one : ∀ x, ∀ u ∈ nmL x, u.oneCell' = true := by
  intro x u hu
  simp only [nmL, List.mem_cons, List.not_mem_nil, or_false] at hu
  subst hu; rfl
abbrev RowI := RowG nmL
def OwnI (B : Nat) (w : World) (v : Value) (L : List Int) : Prop := w.ownsRow B 3 1 v L.length (L.flatMap nmL)
theorem OwnI.row {B : Nat} {w : World} {v : Value} {L : List Int} (h : OwnI B w v L) : RowI w v L := rowG_own (by decide) nmL_len h
theorem OwnI.on {B : Nat} {w w' : World} {v : Value} {L : List Int} (h : OwnI B w v L) (hb : Below w.heap.size w w') : OwnI B w' v L := ownG_on h hb
theorem OwnI.le {B B' : Nat} {w : World} {v : Value} {L : List Int} (h : OwnI B' w v L) (hb : B ≤ B') : OwnI B w v L := ownG_le h hb
theorem RowG.nm {w : World} {v : Value} {L : List Int} {k : Nat} {x : Int} (h : RowI w v L) (hx : L[k]? = some x) : ∃ b off cap, v = .slice (some ⟨b, off, none⟩) L.length cap ∧ w.cell? ⟨b, off + k, none⟩ = some (.int .i64 x) := by
  obtain ⟨b, off, cap, e, _, _, hc⟩ := RowG.at nmL_len h hx
  have := hc 0 _ rfl
  rw [Nat.mul_one] at this
  exact ⟨b, off, cap, e, this⟩
/-- an event -/
structure Ev where
  w : Int
  n : ByteArray
def evL (x : Ev) : List Value := [.int .u8 x.w, .string x.n]
theorem evL_len (x : Ev) : (evL x).length = 2 := rfl
theorem evL_one : ∀ x, ∀ u ∈ evL x, u.oneCell' = true := by
  intro x u hu
  simp only [evL, List.mem_cons, List.not_mem_nil, or_false] at hu
  rcases hu with rfl | rfl <;> rfl
abbrev RowE := RowG evL
theorem RowG.ev {w : World} {v : Value} {L : List Ev} {k : Nat} {x : Ev} (h : RowE w v L) (hx : L[k]? = some x) : ∃ b off cap, v = .slice (some ⟨b, off, none⟩) L.length cap ∧ w.cell? ⟨b, off + k * 2, none⟩ = some (.int .u8 x.w) ∧ w.cell? ⟨b, off + k * 2 + 1, none⟩ = some (.string x.n) := by
  obtain ⟨b, off, cap, e, _, _, hc⟩ := RowG.at evL_len h hx
  exact ⟨b, off, cap, e, hc 0 _ rfl, hc 1 _ rfl⟩
theorem takeSucc {α : Type} {L : List α} {k : Nat} {x : α} (h : L[k]? = some x) : L.take (k + 1) = L.take k ++ [x] := by
  rw [List.take_add_one, h]; rfl
theorem lenTake {α : Type} {L : List α} {k : Nat} (h : k ≤ L.length) : (L.take k).length = k := by rw [List.length_take]; omega
theorem infoMx : (Tryd.prog.info? 54).map (fun i => (i.zero, i.size, i.bytes)) = some (some (.agg #[.int .i64 0, .int .i64 0, .int .i64 0, .int .i64 0, .string ⟨#[]⟩, .int .i64 0, .string ⟨#[]⟩]), 7, 72) := by kernel_rfl
theorem infoTx : (Tryd.prog.info? 9).map (fun i => (i.zero, i.size, i.bytes)) = some (some (.string ⟨#[]⟩), 1, 16) := by kernel_rfl
theorem infoNm : (Tryd.prog.info? 3).map (fun i => (i.zero, i.size, i.bytes)) = some (some (.int .i64 0), 1, 8) := by kernel_rfl
theorem strL_of13 (b : ByteArray) : (⟨b.data.toList.toArray⟩ : ByteArray) = b := by apply ByteArray.ext; simp
theorem strNe {x y : ByteArray} (h : x ≠ y) : (x.toList == y.toList) = false := by
  rw [ByteArray.toList_eq, ByteArray.toList_eq]
  refine beq_eq_false_iff_ne.2 fun q => h ?_
  rw [← strL_of13 x, ← strL_of13 y, q]
end Go.Proofs.YtmlnnbinbbmmhaaDoor
