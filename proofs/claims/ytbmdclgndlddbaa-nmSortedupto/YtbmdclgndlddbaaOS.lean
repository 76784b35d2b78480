
-- Symbols, sections, rows and options as they are read.
import Derived.Test.YtbmdclgndlddbaaLB
import Derived.Test.YtbmdclgndlddbaaRows
import Derived.WalkKit
import Derived.Deep.Slices
import Derived.ChangeSlices
import Derived.ProofKit
import Derived.OpenShut
import Derived.ChangeArms
namespace Go.Proofs.Ytbmdclgndlddbaa
open Go.RowKit Go.ChangeShapes Go.Deep
set_option linter.unusedVariables false
set_option maxRecDepth 100000
set_option linter.unusedSimpArgs false
theorem bulk_memM {H : Type} (l : List (DataW H)) (d : DataW H) (h : d ∈ l) : Rows.uptoBulk d ≤ Rows.uptoBulkAll l := by
  induction l with
  | nil => simp at h
  | cons x r ih =>
    simp only [Rows.uptoBulkAll]
    rcases List.mem_cons.1 h with rfl | h
    · omega
    · have := ih h; omega
theorem bulk_posM {H : Type} (d : DataW H) : 1 ≤ Rows.uptoBulk d := by
  cases d with
  | lit l => cases l <;> simp [Rows.uptoBulk]
  | _ => simp [Rows.uptoBulk]
theorem bulk_lenM {H : Type} (l : List (DataW H)) : l.length ≤ Rows.uptoBulkAll l := by
  induction l with
  | nil => simp [Rows.uptoBulkAll]
  | cons x r ih => simp only [Rows.uptoBulkAll, List.length_cons]; have := bulk_posM x; omega
theorem cellsIM : Try.prog.cellsOf 3 = 1 := by kernel_rfl
theorem cellsSM : Try.prog.cellsOf 9 = 1 := by kernel_rfl
theorem cellsUM : Try.prog.cellsOf 27 = 1 := by kernel_rfl
theorem cellsYM : Try.prog.cellsOf 5 = 1 := by kernel_rfl
theorem cellsBM : Try.prog.cellsOf 4 = 1 := by kernel_rfl
theorem cellsSy : Try.prog.cellsOf 29 = 7 := by kernel_rfl
theorem cellsTsymbol : Try.prog.cellsOf 29 = 7 := by kernel_rfl
theorem cellsTrow : Try.prog.cellsOf 31 = 8 := by kernel_rfl
theorem cellsTopts : Try.prog.cellsOf 24 = 7 := by kernel_rfl
theorem add_offM (b off k : Nat) : (⟨b, off, none⟩ : Addr).add k = ⟨b, off + k, none⟩ := by unfold Addr.add; split <;> simp_all
theorem len2M {α : Type} {l : List α} (h : l.length = 2) : ∃ a b, l = [a, b] := by
  match l, h with
  | [a, b], _ => exact ⟨a, b, rfl⟩
theorem len7M {α : Type} {l : List α} (h : l.length = 7) : ∃ a b c d e f g, l = [a, b, c, d, e, f, g] := by
  match l, h with
  | [a, b, c, d, e, f, g], _ => exact ⟨a, b, c, d, e, f, g, rfl⟩
theorem len8M {α : Type} {l : List α} (h : l.length = 8) : ∃ a b c d e f g i, l = [a, b, c, d, e, f, g, i] := by
  match l, h with
  | [a, b, c, d, e, f, g, i], _ => exact ⟨a, b, c, d, e, f, g, i, rfl⟩
structure Rw where
  nm : ByteArray
  bd : Int
  ty : Int
  ot : Int
  sc : Int
  va : Int
  sz : Int
  lt : Int
def rw0 : Rw := ⟨⟨#[]⟩, 0, 0, 0, 0, 0, 0, 0⟩
def rwL (x : Rw) : List Value := [.string x.nm, .int .i64 x.bd, .int .i64 x.ty, .int .i64 x.ot, .int .i64 x.sc, .int .u64 x.va, .int .u64 x.sz, .int .u8 x.lt]
theorem rwL_len (x : Rw) : (rwL x).length = 8 := rfl
theorem rwL_one : ∀ x, ∀ u ∈ rwL x, u.oneCell' = true := by
  intro x u hu
  simp only [rwL, List.mem_cons, List.not_mem_nil, or_false] at hu
  rcases hu with rfl | rfl | rfl | rfl | rfl | rfl | rfl | rfl <;> rfl
def okR (x : Rw) : Prop := (0 ≤ x.va ∧ x.va < 18446744073709551616) ∧ (0 ≤ x.lt ∧ x.lt < 256)
theorem u64_of {k : Int} (hw : (Lit.int .u64 k).wf = true) : 0 ≤ k ∧ k < 18446744073709551616 := by
  have h5 : IntKind.u64.min ≤ k ∧ k ≤ IntKind.u64.max := by simpa [Lit.wf] using hw
  have e1 : IntKind.u64.min = 0 := by decide
  have e2 : IntKind.u64.max = 18446744073709551615 := by decide
  rw [e1, e2] at h5; omega
theorem u8_of20 {k : Int} (hw : (Lit.int .u8 k).wf = true) : 0 ≤ k ∧ k < 256 := by
  have h5 : IntKind.u8.min ≤ k ∧ k ≤ IntKind.u8.max := by simpa [Lit.wf] using hw
  have e1 : IntKind.u8.min = 0 := rfl
  have e2 : IntKind.u8.max = 255 := rfl
  rw [e1, e2] at h5; omega
section
variable {H : Type} {enc : TypeId × Value → H} {w : World} {spare : Nat → Bool} {held : Bool}
theorem sum_le_bulk {α : Type} (sz : α → Nat) (D : Nat → DataW H) (f : Nat → α) : ∀ n, (∀ i, i < n → sz (f i) ≤ Rows.uptoBulk (D i)) → (((List.range n).map f).map sz).sum ≤ Rows.uptoBulkAll ((List.range n).map D)
  | 0, _ => by simp
  | n + 1, h => by
    have ih := sum_le_bulk sz D f n (fun i hi => h i (by omega))
    rw [List.range_succ, List.map_append, List.map_append, List.sum_append_nat, List.map_append]
    have e : ∀ a b : List (DataW H), Rows.uptoBulkAll (a ++ b) = Rows.uptoBulkAll a + Rows.uptoBulkAll b := by
      intro a b
      induction a with
      | nil => simp [Rows.uptoBulkAll]
      | cons x r ih => simp only [List.cons_append, Rows.uptoBulkAll]; omega
    rw [e]
    have := h n (by omega)
    simp only [List.map_cons, List.map_nil, List.sum_cons, List.sum_nil, Rows.uptoBulkAll]
    omega
/-- A list as it is read. -/
theorem open_list {α : Type} (c : α → List Value) (z : Nat) (hz : 0 < z) (hc : ∀ x, (c x).length = z) (T E : TypeId) (hu : Try.prog.underlying T = some (.slice E)) (hcl : Try.prog.cellsOf E = z) (sz : α → Nat) (pr : α → Prop) (dflt : α)
    (open1 : ∀ (n b off : Nat) (cs : List Value) (x : DataW H × List MemPlace), w.cells? 0 ⟨b, off, none⟩ z = some cs → DataW.trod enc Try.prog w 0 spare held n E cs = some x → ∃ o : α, (∀ m u, (c o)[m]? = some u → w.cell? ⟨b, off + m, none⟩ = some u) ∧ sz o ≤ Rows.uptoBulk x.1 ∧ pr o)
    {fuel : Nat} {v : Value} {x : DataW H × List MemPlace} (h : DataW.trod enc Try.prog w 0 spare held fuel T [v] = some x) (hB : Rows.uptoBulk x.1 ≤ 1048576) :
    ∃ l : List α, RowG c w v l ∧ l.length ≤ 1048576 ∧ (l.map sz).sum ≤ 1048576 ∧ ∀ x ∈ l, pr x := by
  rcases open_slice hu h with ⟨hcs, _⟩ | ⟨a, len, cap, m, n, D, Pl, hcs, _, hl, hm, hmm, hx, hel⟩
  · cases hcs
    exact ⟨[], ⟨none, 0, rfl, Nat.le_refl _, by decide, fun _ => rfl, fun h => by simp at h⟩, by simp, by simp, by simp⟩
  · cases hcs
    have hlm : len ≤ m := by rw [hmm]; split <;> omega
    have hxb : Rows.uptoBulk x.1 = Rows.uptoBulkAll ((List.range len).map D) + Rows.uptoBulkAll ((List.range (m - len)).map fun j => D (len + j)) + 1 := by rw [hx]; simp only [Rows.uptoBulk]
    have hlen : len ≤ 1048576 := by
      have := bulk_lenM ((List.range len).map D)
      simp at this; omega
    rcases Nat.eq_zero_or_pos len with h0 | h0
    · subst h0
      exact ⟨[], ⟨some a, cap, rfl, Nat.zero_le _, hm, (fun h => by cases h), fun h => by simp at h⟩, by simp, by simp, by simp⟩
    · rw [hcl] at hel
      obtain ⟨b, off, spot⟩ := a
      have hs : spot = none := by
        obtain ⟨cs', h1, _⟩ := hel 0 (by omega)
        obtain ⟨_, hl1, hc1⟩ := World.cells?_some h1
        have := hc1 0 (by omega)
        rw [List.getElem?_eq_getElem (by omega)] at this
        simpa [Addr.add] using World.cell?_spot this
      subst hs
      have each : ∀ i, i < len → ∃ o : α, (∀ m u, (c o)[m]? = some u → w.cell? ⟨b, off + i * z + m, none⟩ = some u) ∧ sz o ≤ Rows.uptoBulk (D i) ∧ pr o := by
        intro i hi
        obtain ⟨cs', h1, h2⟩ := hel i (by omega)
        rw [add_offM] at h1
        obtain ⟨o, a1, a2, a3⟩ := open1 _ _ _ _ _ h1 h2
        exact ⟨o, a1, a2, a3⟩
      haveI : Inhabited α := ⟨dflt⟩
      obtain ⟨f, hf⟩ := choose_lt each
      have hgl : ((List.range len).map f).length = len := by simp
      refine ⟨(List.range len).map f, ⟨_, cap, by rw [hgl], by rw [hgl]; exact hl, hm, (fun h => by cases h), fun _ => ⟨b, off, rfl, fun j u hu => ?_⟩⟩, by rw [hgl]; exact hlen, ?_, ?_⟩
      · have hj : j < len * z := by have := (List.getElem?_eq_some_iff.1 hu).1; rwa [flatG_len c z hc, hgl] at this
        have hk : j / z < len := Nat.div_lt_of_lt_mul (by rw [Nat.mul_comm]; exact hj)
        have hmz : j % z < z := Nat.mod_lt _ hz
        have e : j = j / z * z + j % z := by have := Nat.div_add_mod j z; rw [Nat.mul_comm] at this; exact this.symm
        have hg : ((List.range len).map f)[j / z]? = some (f (j / z)) := by rw [List.getElem?_map, List.getElem?_range hk]; rfl
        have h2 := flatG_get hc ((List.range len).map f) (j / z) (j % z) _ hg hmz
        rw [← e, hu] at h2
        have h3 := (hf (j / z) hk).1 (j % z) u h2.symm
        rw [Nat.add_assoc, ← e] at h3
        exact h3
      · have := sum_le_bulk sz D f len (fun i hi => (hf i hi).2.1)
        omega
      · intro x hx
        obtain ⟨i, hi, rfl⟩ := List.mem_map.1 hx
        exact (hf i (List.mem_range.1 hi)).2.2
theorem open_symbolV {cs : Array Value} {d : DataW H} {p : List MemPlace} (h : DataW.Trod enc Try.prog w 0 (fun _ => true) true 29 (.agg cs) d p) :
    ∃ (k0 : ByteArray) (k1 : Int) (k2 : Int) (k3 : Int) (k4 : Int) (k5 : Int) (k6 : Int), cs = #[.string k0, .int .i64 k1, .int .i64 k2, .int .i64 k3, .int .i64 k4, .int .u64 k5, .int .u64 k6] := by
  obtain ⟨fuel, h⟩ := h
  obtain ⟨xs, m, rfl, hx, hl, hxl, hf⟩ := DataW.trod_struct Try.underlying29 h
  rw [cellsTsymbol] at hl
  obtain ⟨y0, y1, y2, y3, y4, y5, y6, rfl⟩ := len7M hxl
  obtain ⟨v0, v1, v2, v3, v4, v5, v6, hv⟩ := len7M hl
  have hv' : cs.toList = [v0, v1, v2, v3, v4, v5, v6] := hv
  rw [hv] at hf
  have g0 : DataW.trod enc Try.prog w 0 (fun _ => true) true m 9 [v0] = some y0 := by simpa [cellsIM, cellsSM, cellsUM, cellsYM, cellsBM, cellsSy] using hf 0 _ rfl
  have g1 : DataW.trod enc Try.prog w 0 (fun _ => true) true m 3 [v1] = some y1 := by simpa [cellsIM, cellsSM, cellsUM, cellsYM, cellsBM, cellsSy] using hf 1 _ rfl
  have g2 : DataW.trod enc Try.prog w 0 (fun _ => true) true m 3 [v2] = some y2 := by simpa [cellsIM, cellsSM, cellsUM, cellsYM, cellsBM, cellsSy] using hf 2 _ rfl
  have g3 : DataW.trod enc Try.prog w 0 (fun _ => true) true m 3 [v3] = some y3 := by simpa [cellsIM, cellsSM, cellsUM, cellsYM, cellsBM, cellsSy] using hf 3 _ rfl
  have g4 : DataW.trod enc Try.prog w 0 (fun _ => true) true m 3 [v4] = some y4 := by simpa [cellsIM, cellsSM, cellsUM, cellsYM, cellsBM, cellsSy] using hf 4 _ rfl
  have g5 : DataW.trod enc Try.prog w 0 (fun _ => true) true m 27 [v5] = some y5 := by simpa [cellsIM, cellsSM, cellsUM, cellsYM, cellsBM, cellsSy] using hf 5 _ rfl
  have g6 : DataW.trod enc Try.prog w 0 (fun _ => true) true m 27 [v6] = some y6 := by simpa [cellsIM, cellsSM, cellsUM, cellsYM, cellsBM, cellsSy] using hf 6 _ rfl
  obtain ⟨k0, e0, z0, _⟩ := DataW.trod_string Try.underlying9 g0
  obtain ⟨k1, e1, _, y1w⟩ := DataW.trod_int Try.underlying3 g1
  obtain ⟨k2, e2, _, y2w⟩ := DataW.trod_int Try.underlying3 g2
  obtain ⟨k3, e3, _, y3w⟩ := DataW.trod_int Try.underlying3 g3
  obtain ⟨k4, e4, _, y4w⟩ := DataW.trod_int Try.underlying3 g4
  obtain ⟨k5, e5, _, y5w⟩ := DataW.trod_int Try.underlying27 g5
  obtain ⟨k6, e6, _, y6w⟩ := DataW.trod_int Try.underlying27 g6
  cases e0; cases e1; cases e2; cases e3; cases e4; cases e5; cases e6
  refine ⟨k0, k1, k2, k3, k4, k5, k6, ?_⟩
  have := congrArg List.toArray hv'
  rwa [Array.toArray_toList] at this
theorem open_optsV {cs : Array Value} {d : DataW H} {p : List MemPlace} (h : DataW.Trod enc Try.prog w 0 (fun _ => true) true 24 (.agg cs) d p) :
    ∃ (k0 : Bool) (k1 : Bool) (k2 : Bool) (k3 : Bool) (k4 : Bool) (k5 : Bool) (k6 : Bool), cs = #[.bool k0, .bool k1, .bool k2, .bool k3, .bool k4, .bool k5, .bool k6] := by
  obtain ⟨fuel, h⟩ := h
  obtain ⟨xs, m, rfl, hx, hl, hxl, hf⟩ := DataW.trod_struct Try.underlying24 h
  rw [cellsTopts] at hl
  obtain ⟨y0, y1, y2, y3, y4, y5, y6, rfl⟩ := len7M hxl
  obtain ⟨v0, v1, v2, v3, v4, v5, v6, hv⟩ := len7M hl
  have hv' : cs.toList = [v0, v1, v2, v3, v4, v5, v6] := hv
  rw [hv] at hf
  have g0 : DataW.trod enc Try.prog w 0 (fun _ => true) true m 4 [v0] = some y0 := by simpa [cellsIM, cellsSM, cellsUM, cellsYM, cellsBM, cellsSy] using hf 0 _ rfl
  have g1 : DataW.trod enc Try.prog w 0 (fun _ => true) true m 4 [v1] = some y1 := by simpa [cellsIM, cellsSM, cellsUM, cellsYM, cellsBM, cellsSy] using hf 1 _ rfl
  have g2 : DataW.trod enc Try.prog w 0 (fun _ => true) true m 4 [v2] = some y2 := by simpa [cellsIM, cellsSM, cellsUM, cellsYM, cellsBM, cellsSy] using hf 2 _ rfl
  have g3 : DataW.trod enc Try.prog w 0 (fun _ => true) true m 4 [v3] = some y3 := by simpa [cellsIM, cellsSM, cellsUM, cellsYM, cellsBM, cellsSy] using hf 3 _ rfl
  have g4 : DataW.trod enc Try.prog w 0 (fun _ => true) true m 4 [v4] = some y4 := by simpa [cellsIM, cellsSM, cellsUM, cellsYM, cellsBM, cellsSy] using hf 4 _ rfl
  have g5 : DataW.trod enc Try.prog w 0 (fun _ => true) true m 4 [v5] = some y5 := by simpa [cellsIM, cellsSM, cellsUM, cellsYM, cellsBM, cellsSy] using hf 5 _ rfl
  have g6 : DataW.trod enc Try.prog w 0 (fun _ => true) true m 4 [v6] = some y6 := by simpa [cellsIM, cellsSM, cellsUM, cellsYM, cellsBM, cellsSy] using hf 6 _ rfl
  obtain ⟨k0, e0, _⟩ := DataW.trod_bool Try.underlying4 g0
  obtain ⟨k1, e1, _⟩ := DataW.trod_bool Try.underlying4 g1
  obtain ⟨k2, e2, _⟩ := DataW.trod_bool Try.underlying4 g2
  obtain ⟨k3, e3, _⟩ := DataW.trod_bool Try.underlying4 g3
  obtain ⟨k4, e4, _⟩ := DataW.trod_bool Try.underlying4 g4
  obtain ⟨k5, e5, _⟩ := DataW.trod_bool Try.underlying4 g5
  obtain ⟨k6, e6, _⟩ := DataW.trod_bool Try.underlying4 g6
  cases e0; cases e1; cases e2; cases e3; cases e4; cases e5; cases e6
  refine ⟨k0, k1, k2, k3, k4, k5, k6, ?_⟩
  have := congrArg List.toArray hv'
  rwa [Array.toArray_toList] at this
theorem open_row {n : Nat} {b off : Nat} {cs : List Value} {x : DataW H × List MemPlace} (h1 : w.cells? 0 ⟨b, off, none⟩ 8 = some cs) (h : DataW.trod enc Try.prog w 0 spare held n 31 cs = some x) :
    ∃ o : Rw, (∀ m u, (rwL o)[m]? = some u → w.cell? ⟨b, off + m, none⟩ = some u) ∧ o.nm.size ≤ Rows.uptoBulk x.1 ∧ okR o := by
  obtain ⟨_, hlen, hcell⟩ := World.cells?_some h1
  obtain ⟨xs, m, rfl, hx, _, hxl, hf⟩ := DataW.trod_struct Try.underlying31 h
  obtain ⟨y0, y1, rfl⟩ := len2M hxl
  obtain ⟨v0, v1, v2, v3, v4, v5, v6, v7, rfl⟩ := len8M hlen
  have g0 : DataW.trod enc Try.prog w 0 spare held m 29 [v0, v1, v2, v3, v4, v5, v6] = some y0 := by simpa [cellsSy] using hf 0 _ rfl
  have g1 : DataW.trod enc Try.prog w 0 spare held m 5 [v7] = some y1 := by simpa [cellsSy, cellsYM] using hf 1 _ rfl
  obtain ⟨k7, e7, _, y7w⟩ := DataW.trod_int Try.underlying5 g1
  obtain ⟨ms, m', _, hxx, _, hml, hfs⟩ := DataW.trod_struct Try.underlying29 g0
  obtain ⟨ys0, ys1, ys2, ys3, ys4, ys5, ys6, rfl⟩ := len7M hml
  have gs0 : DataW.trod enc Try.prog w 0 spare held m' 9 [v0] = some ys0 := by simpa [cellsIM, cellsSM, cellsUM, cellsYM, cellsBM, cellsSy] using hfs 0 _ rfl
  have gs1 : DataW.trod enc Try.prog w 0 spare held m' 3 [v1] = some ys1 := by simpa [cellsIM, cellsSM, cellsUM, cellsYM, cellsBM, cellsSy] using hfs 1 _ rfl
  have gs2 : DataW.trod enc Try.prog w 0 spare held m' 3 [v2] = some ys2 := by simpa [cellsIM, cellsSM, cellsUM, cellsYM, cellsBM, cellsSy] using hfs 2 _ rfl
  have gs3 : DataW.trod enc Try.prog w 0 spare held m' 3 [v3] = some ys3 := by simpa [cellsIM, cellsSM, cellsUM, cellsYM, cellsBM, cellsSy] using hfs 3 _ rfl
  have gs4 : DataW.trod enc Try.prog w 0 spare held m' 3 [v4] = some ys4 := by simpa [cellsIM, cellsSM, cellsUM, cellsYM, cellsBM, cellsSy] using hfs 4 _ rfl
  have gs5 : DataW.trod enc Try.prog w 0 spare held m' 27 [v5] = some ys5 := by simpa [cellsIM, cellsSM, cellsUM, cellsYM, cellsBM, cellsSy] using hfs 5 _ rfl
  have gs6 : DataW.trod enc Try.prog w 0 spare held m' 27 [v6] = some ys6 := by simpa [cellsIM, cellsSM, cellsUM, cellsYM, cellsBM, cellsSy] using hfs 6 _ rfl
  obtain ⟨k0, e0, z0, _⟩ := DataW.trod_string Try.underlying9 gs0
  obtain ⟨k1, e1, _, y1w⟩ := DataW.trod_int Try.underlying3 gs1
  obtain ⟨k2, e2, _, y2w⟩ := DataW.trod_int Try.underlying3 gs2
  obtain ⟨k3, e3, _, y3w⟩ := DataW.trod_int Try.underlying3 gs3
  obtain ⟨k4, e4, _, y4w⟩ := DataW.trod_int Try.underlying3 gs4
  obtain ⟨k5, e5, _, y5w⟩ := DataW.trod_int Try.underlying27 gs5
  obtain ⟨k6, e6, _, y6w⟩ := DataW.trod_int Try.underlying27 gs6
  cases e0; cases e1; cases e2; cases e3; cases e4; cases e5; cases e6; cases e7
  refine ⟨⟨k0, k1, k2, k3, k4, k5, k6, k7⟩, fun i u hu => ?_, ?_, u64_of y5w, u8_of20 y7w⟩
  · have hi : i < 8 := by
      rcases Nat.lt_or_ge i 8 with h' | h'
      · exact h'
      · rw [List.getElem?_eq_none (by simpa [rwL] using h')] at hu; cases hu
    have := hcell i hi
    rw [add_offM] at this
    rw [this]; exact hu
  · have hs : k0.size ≤ Rows.uptoBulk ys0.1 := by
      rw [z0]
      simp only [Rows.uptoBulk, Array.length_toList]
      show k0.data.size ≤ _
      omega
    have hb1 : Rows.uptoBulk ys0.1 ≤ Rows.uptoBulk y0.1 := by
      rw [hxx]
      simp only [Rows.uptoBulk, List.map_cons, List.map_nil, Rows.uptoBulkAll]
      omega
    rw [hx]
    simp only [Rows.uptoBulk, List.map_cons, List.map_nil, Rows.uptoBulkAll]
    show k0.size ≤ _
    omega
/-- A list of rows as it is read. -/
theorem open_rows {fuel : Nat} {v : Value} {x : DataW H × List MemPlace} (h : DataW.trod enc Try.prog w 0 spare held fuel 22 [v] = some x) (hB : Rows.uptoBulk x.1 ≤ 1048576) :
    ∃ l : List Rw, RowG rwL w v l ∧ l.length ≤ 1048576 ∧ (l.map fun r => r.nm.size).sum ≤ 1048576 ∧ ∀ r ∈ l, okR r :=
  open_list rwL 8 (by decide) rwL_len _ _ Try.underlying22 cellsTrow (fun r => r.nm.size) okR rw0 (fun n b off cs x h1 h2 => open_row h1 h2) h hB
end
end Go.Proofs.Ytbmdclgndlddbaa
