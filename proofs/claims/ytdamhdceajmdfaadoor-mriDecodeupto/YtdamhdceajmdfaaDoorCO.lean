
-- commandOf (1): what is cut off the tokens.
import Derived.Test.YtdamhdceajmdfaaDoorW4
import Derived.Test.YtdamhdceajmdfaaDoorV3
namespace Go.Proofs.YtdamhdceajmdfaaDoor
open Go.ChangeShapes Go.WideShapes Go.ChangeAt Go.RowKit Go.MapKept
set_option linter.unusedVariables false
set_option maxRecDepth 100000
set_option linter.unusedSimpArgs false
theorem namesIn_c (kd : Nat) (hk : kd = 0 ∨ kd = 1 ∨ kd = 2) (v : Value) (L : List ByteArray) (w : World) (hv : RowT w v L) (hn : L.length ≤ 67108864) :
    Calls Tryd.prog 42 #[v, .int .i64 (kd : Nat)] w fun e w' => NmSays (namesA L kd) w e w' := by
  rcases hk with rfl | rfl | rfl
  · exact namesIn_0 v L w hv hn
  · exact namesIn_1 v L w hv hn
  · exact namesIn_2 v L w hv hn
theorem sliceTail (b off m cap : Nat) (hc : m + 1 ≤ cap) : ∀ w, (Instr.slice 26 (.slice (some ⟨b, off, none⟩) (m + 1) cap) (some (.int .i64 1)) none none).run Tryd.prog w = .ok (.slice (if cap = 1 then some ⟨b, off, none⟩ else some ⟨b, off + 1, none⟩) m (cap - 1)) w := by
  intro w
  have h1 : (1 : Int) ≤ ((m + 1 : Nat) : Int) := by omega
  simp [go_sem, Tryd.underlying26, h1]
  intro h
  omega
theorem rowT_tail {w : World} {b off m cap : Nat} {x : ByteArray} {r : List ByteArray} (hm : r.length = m) (h : RowT w (.slice (some ⟨b, off, none⟩) (m + 1) cap) (x :: r)) : RowT w (.slice (if cap = 1 then some ⟨b, off, none⟩ else some ⟨b, off + 1, none⟩) m (cap - 1)) r := by
  subst hm
  have hc : r.length + 1 ≤ cap ∧ cap ≤ maxLen := by obtain ⟨ao, c, q, z1, z2, _⟩ := h; injection q with _ _ q; simp only [List.length_cons] at z1; omega
  by_cases q : cap = 1
  · rw [if_pos q]
    have : r = [] := List.eq_nil_of_length_eq_zero (by omega)
    subst this
    exact ⟨_, _, rfl, Nat.zero_le _, by omega, by simp, by simp⟩
  · rw [if_neg q]
    have := rowT_mid (i := 1) (j := (x :: r).length) h (Nat.le_refl _) (by simp)
    rw [List.take_length, List.drop_one, List.tail_cons] at this
    exact this
def mr0 : Mr := ⟨0, ⟨#[]⟩, []⟩
/-- what a reading of one command answers -/
def CmSays (r : Sum Int Mr) (w : World) (e : Ending) (w' : World) : Prop := Below w.heap.size w w' ∧ ∃ (c : Mr) (k : Int) (u : Value), e = .returned (.tuple #[.agg #[.int .i64 c.v, .string c.n, u], .int .i64 k]) ∧ OwnT w.heap.size w' u c.ns ∧ ((k = 0 ∧ r = .inr c) ∨ (k ≠ 0 ∧ r = .inl k ∧ c = mr0))
theorem results_cell_tmp_row19 {P : Program} {fn : Func} {p u : Tmp} {ty : TypeId} (h : fn.results = #[.cell p ty, .tmp u]) (tmps : Array Value) (w : World) (g : Nat) (t : TypeId) (cs : Array Value) (fr : Nat × Nat) (d : TypeDesc) (x : Value)
    (hp : tmps.getD p undef = .pointer (some ⟨g, 0, none⟩)) (hx : tmps.getD u undef = x) (hg : w.heap[g]? = some (.cells cs t fr))
    (hu : P.underlying ty = some d) (hd : (match d with | .struct _ | .array _ _ => true | _ => false) = true) (hi : (P.info? ty).map (·.size) = some cs.size) :
    (results fn tmps).run P w = .ok (.tuple #[.agg cs, x]) w := by
  rw [results_cell_tmp h, hp, hx]
  simp [asAddr, Result.andThen, run_loadVar_row w g t ty cs fr d hg hu hd hi]
end Go.Proofs.YtdamhdceajmdfaaDoor
