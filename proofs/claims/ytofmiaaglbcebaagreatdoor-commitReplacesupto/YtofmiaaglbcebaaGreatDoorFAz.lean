import Derived.Test.YtofmiaaglbcebaaGreatDoorKQ
import Derived.Test.YtofmiaaglbcebaaGreatDoorGK
import Derived.Test.YtofmiaaglbcebaaGreatDoorM5
import Derived.Test.YtofmiaaglbcebaaGreatDoorM0
import Derived.Laws.StructEq
import Derived.Laws.Cover2
import Derived.BigQuiet
import Derived.Deep.QuietTactic

-- Lists of files in memory.
namespace Go.Proofs.YtofmiaaglbcebaaGreatDoor
open Go.ChangeShapes Go.WideShapes Go.ChangeAt Go.RowKit
set_option linter.unusedVariables false
/-- a slice that reads as a list whose elements have z cells each -/
def RowG {α : Type} (c : α → List Value) (w : World) (v : Value) (L : List α) : Prop :=
  ∃ ao cap, v = .slice ao L.length cap ∧ L.length ≤ cap ∧ cap ≤ maxLen ∧ (ao = none → cap = 0) ∧ (0 < L.length → ∃ b off, ao = some ⟨b, off, none⟩ ∧ ∀ j u, (L.flatMap c)[j]? = some u → w.cell? ⟨b, off + j, none⟩ = some u)
theorem cell_onG {w w' : World} {p : Addr} {v : Value} (h : w.cell? p = some v) (hb : Below w.heap.size w w') : w'.cell? p = some v := (hb.cell (p := p) (World.block_lt_of_cell? _ _ h)).trans h
section
variable {α : Type} {c : α → List Value} {z : Nat}
theorem RowG.on {w w' : World} {v : Value} {L : List α} (h : RowG c w v L) (hb : Below w.heap.size w w') : RowG c w' v L := by
  obtain ⟨ao, cap, e, h1, h2, h3, h4⟩ := h
  refine ⟨ao, cap, e, h1, h2, h3, fun hp => ?_⟩
  obtain ⟨b, off, e2, hc⟩ := h4 hp
  exact ⟨b, off, e2, fun j u hu => cell_onG (hc j u hu) hb⟩
theorem RowG.form {w : World} {v : Value} {L : List α} (h : RowG c w v L) : ∃ ao cap, v = .slice ao L.length cap ∧ L.length ≤ cap ∧ cap ≤ maxLen := by
  obtain ⟨ao, cap, e, h1, h2, _⟩ := h
  exact ⟨ao, cap, e, h1, h2⟩
theorem flatG_get (hc : ∀ x, (c x).length = z) (l : List α) : ∀ (k m : Nat) (x : α), l[k]? = some x → m < z → (l.flatMap c)[k * z + m]? = (c x)[m]? := by
  induction l with
  | nil => intro k m x h; simp at h
  | cons y r ih =>
    intro k m x h hm
    have hx : (c y).length = z := hc y
    rw [List.flatMap_cons]
    cases k with
    | zero =>
      simp at h; subst h
      rw [List.getElem?_append_left (by omega)]; simp
    | succ k =>
      have e1 : (k + 1) * z + m = z + (k * z + m) := by rw [Nat.add_mul, Nat.one_mul]; omega
      rw [e1, List.getElem?_append_right (by omega), hx, Nat.add_sub_cancel_left]
      exact ih k m x (by simpa using h) hm
/-- the cells of an element -/
theorem RowG.at {w : World} {v : Value} {L : List α} {k : Nat} {x : α} (hc : ∀ x, (c x).length = z) (h : RowG c w v L) (hx : L[k]? = some x) : ∃ b off cap, v = .slice (some ⟨b, off, none⟩) L.length cap ∧ L.length ≤ cap ∧ cap ≤ maxLen ∧ ∀ m u, (c x)[m]? = some u → w.cell? ⟨b, off + k * z + m, none⟩ = some u := by
  obtain ⟨ao, cap, e, h1, h2, h3, h4⟩ := h
  have hl := (List.getElem?_eq_some_iff.1 hx).1
  obtain ⟨b, off, e2, hcl⟩ := h4 (by omega)
  subst e2
  refine ⟨b, off, cap, e, h1, h2, fun m u hu => ?_⟩
  have hm : m < z := by have := (List.getElem?_eq_some_iff.1 hu).1; rwa [hc] at this
  rw [Nat.add_assoc]
  exact hcl _ _ (by rw [flatG_get hc L k m x hx hm]; exact hu)
theorem flatG_one (h1 : ∀ x, ∀ u ∈ c x, u.oneCell' = true) (l : List α) : ∀ u ∈ l.flatMap c, u.oneCell' = true := by
  intro u hu
  obtain ⟨x, _, hx⟩ := List.mem_flatMap.1 hu
  exact h1 x u hx
/-- a row of one's own reads as its list -/
theorem rowG_own {w : World} {B e : Nat} {v : Value} {L : List α} (hz : 0 < z) (hc : ∀ x, (c x).length = z) (h : w.ownsRow B e z v L.length (L.flatMap c)) : RowG c w v L := by
  rcases h.2 with ⟨rfl, h0⟩ | ⟨g, cap, cur, rfl, hb, hg, hn, hm, hs, ht⟩
  · exact ⟨none, 0, by rw [h0], by omega, by decide, fun _ => rfl, fun hp => by omega⟩
  · refine ⟨_, cap, rfl, hn, hm, (fun h => by cases h), fun _ => ⟨g, 0, rfl, fun j u hu => ?_⟩⟩
    rw [Nat.zero_add]
    refine cell_rowK hg j u ?_
    have hj : j < L.length * z := by have := (List.getElem?_eq_some_iff.1 hu).1; rwa [flatG_len c z hc] at this
    rw [← ht, List.getElem?_take_of_lt hj, Array.getElem?_toList] at hu
    exact hu
end
theorem ownG_kept {B : Nat} {w w' : World} {e : TypeId} {s k : Nat} {v : Value} {xs : List Value} (h : w.ownsRow B e s v k xs) (hk : ∀ g, v.ownBlock = some g → w'.heap[g]? = w.heap[g]?) : w'.ownsRow B e s v k xs := by
  refine ⟨h.1, ?_⟩
  rcases h.2 with q | ⟨g, cap, cur, rfl, q2, q3, q4⟩
  · exact .inl q
  · exact .inr ⟨g, cap, cur, rfl, q2, (hk g rfl).trans q3, q4⟩
/-- the cells of a file -/
def filL (x : Fil) : List Value := [.string x.1, .int .i64 x.2.1.1, .int .i64 x.2.1.2.1, .int .i64 x.2.1.2.2.1, .int .i64 x.2.1.2.2.2, .string x.2.2]
theorem filL_len (x : Fil) : (filL x).length = 6 := rfl
theorem filL_one : ∀ x, ∀ u ∈ filL x, u.oneCell' = true := by
  intro x u hu
  simp only [filL, List.mem_cons, List.not_mem_nil, or_false] at hu
  rcases hu with rfl | rfl | rfl | rfl | rfl | rfl <;> rfl
def filV (x : Fil) : Value := .agg #[.string x.1, .int .i64 x.2.1.1, .int .i64 x.2.1.2.1, .int .i64 x.2.1.2.2.1, .int .i64 x.2.1.2.2.2, .string x.2.2]
abbrev RowF := RowG filL
theorem RowG.fil {w : World} {v : Value} {L : List Fil} {k : Nat} {n : ByteArray} {m0 m1 m2 m3 : Int} {d : ByteArray} (h : RowF w v L) (hx : L[k]? = some (n, (m0, m1, m2, m3), d)) : ∃ b off cap, v = .slice (some ⟨b, off, none⟩) L.length cap ∧ w.cell? ⟨b, off + k * 6, none⟩ = some (.string n) ∧ w.cell? ⟨b, off + k * 6 + 1, none⟩ = some (.int .i64 m0) ∧ w.cell? ⟨b, off + k * 6 + 2, none⟩ = some (.int .i64 m1) ∧ w.cell? ⟨b, off + k * 6 + 3, none⟩ = some (.int .i64 m2) ∧ w.cell? ⟨b, off + k * 6 + 4, none⟩ = some (.int .i64 m3) ∧ w.cell? ⟨b, off + k * 6 + 5, none⟩ = some (.string d) := by
  obtain ⟨b, off, cap, e, _, _, hc⟩ := RowG.at filL_len h hx
  exact ⟨b, off, cap, e, hc 0 _ rfl, hc 1 _ rfl, hc 2 _ rfl, hc 3 _ rfl, hc 4 _ rfl, hc 5 _ rfl⟩
/-- A row lies on where its block does not turn. -/
theorem RowG.kept {α : Type} {c : α → List Value} {F : Nat → Prop} {w w' : World} {v : Value} {L : List α} (h : RowG c w v L) (hk : Kp F w w') (hF : ∀ k, v.ownBlock = some k → k < w.heap.size → ¬ F k) : RowG c w' v L := by
  obtain ⟨ao, cap, e, h1, h2, h3, h4⟩ := h
  refine ⟨ao, cap, e, h1, h2, h3, fun hp => ?_⟩
  obtain ⟨b, off, e2, hc⟩ := h4 hp
  refine ⟨b, off, e2, fun j u hu => ?_⟩
  have hcell := hc j u hu
  have hlt := World.block_lt_of_cell? _ _ hcell
  rw [World.cell?_of_block (a := ⟨b, off + j, none⟩) (hk.block b hlt (hF b (by rw [e, e2]; rfl) hlt))]
  exact hcell
end Go.Proofs.YtofmiaaglbcebaaGreatDoor
