import Derived.Test.YtjpoifoejbabiabDoorPS
import Derived.Test.YtjpoifoejbabiabDoorRows
import Derived.WalkKit
import Derived.Deep.Slices
import Derived.ChangeSlices
import Derived.ProofKit
import Derived.OpenShut
import Derived.ChangeArms
import Derived.Test.YtjpoifoejbabiabDoorTL
import Derived.Lib.LaidTab
import Derived.Stop.LaidErr
import Derived.Test.YtjpoifoejbabiabDoorLK

-- Lists of members and of events as they are read, with what they hold.
namespace Go.Proofs.YtjpoifoejbabiabDoor
open Go.RowKit Go.ChangeShapes Go.Deep
set_option linter.unusedVariables false
set_option maxRecDepth 100000
theorem bulk_memM {H : Type} (l : List (DataW H)) (d : DataW H) (h : d ∈ l) : Rows.uptoBulk d ≤ Rows.uptoBulkAll l := by
  induction l with
  | nil => simp at h
  | cons x r ih =>
    simp only [Rows.uptoBulkAll]
    rcases List.mem_cons.1 h with rfl | h
    · omega
    · have := ih h; omega
theorem bulk_posM {H : Type} (d : DataW H) : 1 ≤ Rows.uptoBulk d := by
  cases d with
  | lit l => cases l <;> simp [Rows.uptoBulk]
  | _ => simp [Rows.uptoBulk]
theorem bulk_lenM {H : Type} (l : List (DataW H)) : l.length ≤ Rows.uptoBulkAll l := by
  induction l with
  | nil => simp [Rows.uptoBulkAll]
  | cons x r ih => simp only [Rows.uptoBulkAll, List.length_cons]; have := bulk_posM x; omega
theorem cellsIM : Tryd.prog.cellsOf 3 = 1 := by kernel_rfl
theorem cellsSM : Tryd.prog.cellsOf 9 = 1 := by kernel_rfl
theorem cellsMM : Tryd.prog.cellsOf 23 = 4 := by kernel_rfl
theorem cellsMb : Tryd.prog.cellsOf 25 = 7 := by kernel_rfl
theorem add_offM (b off k : Nat) : (⟨b, off, none⟩ : Addr).add k = ⟨b, off + k, none⟩ := by unfold Addr.add; split <;> simp_all
theorem len4M {α : Type} {l : List α} (h : l.length = 4) : ∃ a b c d, l = [a, b, c, d] := by
  match l, h with
  | [a, b, c, d], _ => exact ⟨a, b, c, d, rfl⟩
theorem len7M {α : Type} {l : List α} (h : l.length = 7) : ∃ a b c d e f g, l = [a, b, c, d, e, f, g] := by
  match l, h with
  | [a, b, c, d, e, f, g], _ => exact ⟨a, b, c, d, e, f, g, rfl⟩
section
variable {H : Type} {enc : TypeId × Value → H} {w : World} {spare : Nat → Bool} {held : Bool}
/-- One member as it is read. -/
theorem wf_inI {k : Int} (h : (Lit.int .i64 k).wf = true) : inI k := by
  have h5 : IntKind.i64.min ≤ k ∧ k ≤ IntKind.i64.max := by simpa [Lit.wf] using h
  have e1 : IntKind.i64.min = -9223372036854775808 := by decide
  have e2 : IntKind.i64.max = 9223372036854775807 := by decide
  rw [e1, e2] at h5; exact h5
theorem open_member {n : Nat} {b off : Nat} {cs : List Value} {x : DataW H × List MemPlace} (h1 : w.cells? 0 ⟨b, off, none⟩ 7 = some cs) (h : DataW.trod enc Tryd.prog w 0 spare held n 25 cs = some x) :
    ∃ o : Mx, (∀ m u, (mxL o)[m]? = some u → w.cell? ⟨b, off + m, none⟩ = some u) ∧ o.n.size + o.dt.size ≤ Rows.uptoBulk x.1 ∧ okM o := by
  obtain ⟨_, hlen, hcell⟩ := World.cells?_some h1
  obtain ⟨xs, m, rfl, hx, _, hxl, hf⟩ := DataW.trod_struct Tryd.underlying25 h
  obtain ⟨y0, y1, y2, y3, rfl⟩ := len4M hxl
  obtain ⟨v0, v1, v2, v3, v4, v5, v6, rfl⟩ := len7M hlen
  have g0 : DataW.trod enc Tryd.prog w 0 spare held m 23 [v0, v1, v2, v3] = some y0 := by simpa [cellsMM] using hf 0 _ rfl
  have g1 : DataW.trod enc Tryd.prog w 0 spare held m 9 [v4] = some y1 := by simpa [cellsMM, cellsSM] using hf 1 _ rfl
  have g2 : DataW.trod enc Tryd.prog w 0 spare held m 3 [v5] = some y2 := by simpa [cellsMM, cellsSM, cellsIM] using hf 2 _ rfl
  have g3 : DataW.trod enc Tryd.prog w 0 spare held m 9 [v6] = some y3 := by simpa [cellsMM, cellsSM, cellsIM] using hf 3 _ rfl
  obtain ⟨s4, e4, z4, _⟩ := DataW.trod_string Tryd.underlying9 g1
  obtain ⟨k5, e5, _, y5⟩ := DataW.trod_int Tryd.underlying3 g2
  obtain ⟨s6, e6, z6, _⟩ := DataW.trod_string Tryd.underlying9 g3
  obtain ⟨ms, m', _, _, _, hml, hmf⟩ := DataW.trod_struct Tryd.underlying23 g0
  obtain ⟨p0, p1, p2, p3, rfl⟩ := len4M hml
  have q0 : DataW.trod enc Tryd.prog w 0 spare held m' 3 [v0] = some p0 := by simpa [cellsIM] using hmf 0 _ rfl
  have q1 : DataW.trod enc Tryd.prog w 0 spare held m' 3 [v1] = some p1 := by simpa [cellsIM] using hmf 1 _ rfl
  have q2 : DataW.trod enc Tryd.prog w 0 spare held m' 3 [v2] = some p2 := by simpa [cellsIM] using hmf 2 _ rfl
  have q3 : DataW.trod enc Tryd.prog w 0 spare held m' 3 [v3] = some p3 := by simpa [cellsIM] using hmf 3 _ rfl
  obtain ⟨k0, e0, _, y0w⟩ := DataW.trod_int Tryd.underlying3 q0
  obtain ⟨k1, e1, _, y1w⟩ := DataW.trod_int Tryd.underlying3 q1
  obtain ⟨k2, e2, _, y2w⟩ := DataW.trod_int Tryd.underlying3 q2
  obtain ⟨k3, e3, _, y3w⟩ := DataW.trod_int Tryd.underlying3 q3
  cases e0; cases e1; cases e2; cases e3; cases e4; cases e5; cases e6
  have cell : ∀ i v, [Value.int .i64 k0, .int .i64 k1, .int .i64 k2, .int .i64 k3, .string s4, .int .i64 k5, .string s6][i]? = some v → w.cell? ⟨b, off + i, none⟩ = some v := fun i v hv => by
    have hi : i < 7 := by
      rcases Nat.lt_or_ge i 7 with h' | h'
      · exact h'
      · rw [List.getElem?_eq_none (by simpa using h')] at hv; cases hv
    have := hcell i hi
    rw [add_offM] at this
    rw [this]; exact hv
  have hbx : Rows.uptoBulk y1.1 + Rows.uptoBulk y3.1 ≤ Rows.uptoBulk x.1 := by
    rw [hx]
    simp only [Rows.uptoBulk, List.map_cons, List.map_nil, Rows.uptoBulkAll]
    omega
  have hs4 : s4.size ≤ Rows.uptoBulk y1.1 := by
    rw [z4]
    simp only [Rows.uptoBulk, Array.length_toList]
    show s4.data.size ≤ _
    omega
  have hs6 : s6.size ≤ Rows.uptoBulk y3.1 := by
    rw [z6]
    simp only [Rows.uptoBulk, Array.length_toList]
    show s6.data.size ≤ _
    omega
  exact ⟨⟨k0, k1, k2, k3, s4, k5, s6⟩, fun m u hu => cell m u hu, by show s4.size + s6.size ≤ _; omega, ⟨wf_inI y0w, wf_inI y1w, wf_inI y2w, wf_inI y3w, wf_inI y5⟩⟩
theorem cells5 : Tryd.prog.cellsOf 5 = 1 := by kernel_rfl
theorem len2M {α : Type} {l : List α} (h : l.length = 2) : ∃ a b, l = [a, b] := by
  match l, h with
  | [a, b], _ => exact ⟨a, b, rfl⟩
theorem u8_of {k : Int} (h0 : 0 ≤ k) (h1 : k < 256) : ∃ c : UInt8, k = (c.toNat : Int) := by
  refine ⟨UInt8.ofNat k.toNat, ?_⟩
  rw [UInt8.toNat_ofNat']
  omega
theorem sum_le_bulk {α : Type} (sz : α → Nat) (D : Nat → DataW H) (f : Nat → α) : ∀ n, (∀ i, i < n → sz (f i) ≤ Rows.uptoBulk (D i)) → (((List.range n).map f).map sz).sum ≤ Rows.uptoBulkAll ((List.range n).map D)
  | 0, _ => by simp
  | n + 1, h => by
    have ih := sum_le_bulk sz D f n (fun i hi => h i (by omega))
    rw [List.range_succ, List.map_append, List.map_append, List.sum_append_nat, List.map_append]
    have e : ∀ a b : List (DataW H), Rows.uptoBulkAll (a ++ b) = Rows.uptoBulkAll a + Rows.uptoBulkAll b := by
      intro a b
      induction a with
      | nil => simp [Rows.uptoBulkAll]
      | cons x r ih => simp only [List.cons_append, Rows.uptoBulkAll]; omega
    rw [e]
    have := h n (by omega)
    simp only [List.map_cons, List.map_nil, List.sum_cons, List.sum_nil, Rows.uptoBulkAll]
    omega
/-- A list as it is read. -/
theorem open_list {α : Type} (c : α → List Value) (z : Nat) (hz : 0 < z) (hc : ∀ x, (c x).length = z) (T E : TypeId) (hu : Tryd.prog.underlying T = some (.slice E)) (hcl : Tryd.prog.cellsOf E = z) (sz : α → Nat) (pr : α → Prop) (dflt : α)
    (open1 : ∀ (n b off : Nat) (cs : List Value) (x : DataW H × List MemPlace), w.cells? 0 ⟨b, off, none⟩ z = some cs → DataW.trod enc Tryd.prog w 0 spare held n E cs = some x → ∃ o : α, (∀ m u, (c o)[m]? = some u → w.cell? ⟨b, off + m, none⟩ = some u) ∧ sz o ≤ Rows.uptoBulk x.1 ∧ pr o)
    {fuel : Nat} {v : Value} {x : DataW H × List MemPlace} (h : DataW.trod enc Tryd.prog w 0 spare held fuel T [v] = some x) (hB : Rows.uptoBulk x.1 ≤ 1048576) :
    ∃ l : List α, RowG c w v l ∧ l.length ≤ 1048576 ∧ (l.map sz).sum ≤ 1048576 ∧ ∀ x ∈ l, pr x := by
  rcases open_slice hu h with ⟨hcs, _⟩ | ⟨a, len, cap, m, n, D, Pl, hcs, _, hl, hm, hmm, hx, hel⟩
  · cases hcs
    exact ⟨[], ⟨none, 0, rfl, Nat.le_refl _, by decide, fun _ => rfl, fun h => by simp at h⟩, by simp, by simp, by simp⟩
  · cases hcs
    have hlm : len ≤ m := by rw [hmm]; split <;> omega
    have hxb : Rows.uptoBulk x.1 = Rows.uptoBulkAll ((List.range len).map D) + Rows.uptoBulkAll ((List.range (m - len)).map fun j => D (len + j)) + 1 := by rw [hx]; simp only [Rows.uptoBulk]
    have hlen : len ≤ 1048576 := by
      have := bulk_lenM ((List.range len).map D)
      simp at this; omega
    rcases Nat.eq_zero_or_pos len with h0 | h0
    · subst h0
      exact ⟨[], ⟨some a, cap, rfl, Nat.zero_le _, hm, (fun h => by cases h), fun h => by simp at h⟩, by simp, by simp, by simp⟩
    · rw [hcl] at hel
      obtain ⟨b, off, spot⟩ := a
      have hs : spot = none := by
        obtain ⟨cs', h1, _⟩ := hel 0 (by omega)
        obtain ⟨_, hl1, hc1⟩ := World.cells?_some h1
        have := hc1 0 (by omega)
        rw [List.getElem?_eq_getElem (by omega)] at this
        simpa [Addr.add] using World.cell?_spot this
      subst hs
      have each : ∀ i, i < len → ∃ o : α, (∀ m u, (c o)[m]? = some u → w.cell? ⟨b, off + i * z + m, none⟩ = some u) ∧ sz o ≤ Rows.uptoBulk (D i) ∧ pr o := by
        intro i hi
        obtain ⟨cs', h1, h2⟩ := hel i (by omega)
        rw [add_offM] at h1
        obtain ⟨o, a1, a2, a3⟩ := open1 _ _ _ _ _ h1 h2
        exact ⟨o, a1, a2, a3⟩
      haveI : Inhabited α := ⟨dflt⟩
      obtain ⟨f, hf⟩ := choose_lt each
      have hgl : ((List.range len).map f).length = len := by simp
      refine ⟨(List.range len).map f, ⟨_, cap, by rw [hgl], by rw [hgl]; exact hl, hm, (fun h => by cases h), fun _ => ⟨b, off, rfl, fun j u hu => ?_⟩⟩, by rw [hgl]; exact hlen, ?_, ?_⟩
      · have hj : j < len * z := by have := (List.getElem?_eq_some_iff.1 hu).1; rwa [flatG_len c z hc, hgl] at this
        have hk : j / z < len := Nat.div_lt_of_lt_mul (by rw [Nat.mul_comm]; exact hj)
        have hmz : j % z < z := Nat.mod_lt _ hz
        have e : j = j / z * z + j % z := by have := Nat.div_add_mod j z; rw [Nat.mul_comm] at this; exact this.symm
        have hg : ((List.range len).map f)[j / z]? = some (f (j / z)) := by rw [List.getElem?_map, List.getElem?_range hk]; rfl
        have h2 := flatG_get hc ((List.range len).map f) (j / z) (j % z) _ hg hmz
        rw [← e, hu] at h2
        have h3 := (hf (j / z) hk).1 (j % z) u h2.symm
        rw [Nat.add_assoc, ← e] at h3
        exact h3
      · have := sum_le_bulk sz D f len (fun i hi => (hf i hi).2.1)
        omega
      · intro x hx
        obtain ⟨i, hi, rfl⟩ := List.mem_map.1 hx
        exact (hf i (List.mem_range.1 hi)).2.2
/-- A list of members as it is read. -/
theorem open_members {fuel : Nat} {v : Value} {x : DataW H × List MemPlace} (h : DataW.trod enc Tryd.prog w 0 spare held fuel 33 [v] = some x) (hB : Rows.uptoBulk x.1 ≤ 1048576) :
    ∃ l : List Mx, RowM w v l ∧ l.length ≤ 1048576 ∧ totM l ≤ 1048576 ∧ ∀ m ∈ l, okM m :=
  open_list mxL 7 (by decide) mxL_len _ _ Tryd.underlying33 cellsMb (fun m => m.n.size + m.dt.size) okM ⟨0, 0, 0, 0, ⟨#[]⟩, 0, ⟨#[]⟩⟩ (fun n b off cs x h1 h2 => open_member h1 h2) h hB
/-- A member handed in by value. -/
theorem open_memberV {cs : Array Value} {d : DataW H} {p : List MemPlace} (h : DataW.Trod enc Tryd.prog w 0 (fun _ => true) true 25 (.agg cs) d p) (hB : Rows.uptoBulk d ≤ 1048576) :
    ∃ x : Mx, cs = (mxL x).toArray ∧ okM x ∧ x.n.size ≤ 1048576 := by
  obtain ⟨fuel, h⟩ := h
  obtain ⟨xs, m, rfl, hx, hl, hxl, hf⟩ := DataW.trod_struct Tryd.underlying25 h
  rw [cellsMb] at hl
  obtain ⟨y0, y1, y2, y3, rfl⟩ := len4M hxl
  obtain ⟨v0, v1, v2, v3, v4, v5, v6, hv⟩ := len7M hl
  have hv' : cs.toList = [v0, v1, v2, v3, v4, v5, v6] := hv
  rw [hv] at hf
  have g0 : DataW.trod enc Tryd.prog w 0 (fun _ => true) true m 23 [v0, v1, v2, v3] = some y0 := by simpa [cellsMM] using hf 0 _ rfl
  have g1 : DataW.trod enc Tryd.prog w 0 (fun _ => true) true m 9 [v4] = some y1 := by simpa [cellsMM, cellsSM] using hf 1 _ rfl
  have g2 : DataW.trod enc Tryd.prog w 0 (fun _ => true) true m 3 [v5] = some y2 := by simpa [cellsMM, cellsSM, cellsIM] using hf 2 _ rfl
  have g3 : DataW.trod enc Tryd.prog w 0 (fun _ => true) true m 9 [v6] = some y3 := by simpa [cellsMM, cellsSM, cellsIM] using hf 3 _ rfl
  obtain ⟨s4, e4, z4, _⟩ := DataW.trod_string Tryd.underlying9 g1
  obtain ⟨k5, e5, _, y5⟩ := DataW.trod_int Tryd.underlying3 g2
  obtain ⟨s6, e6, z6, _⟩ := DataW.trod_string Tryd.underlying9 g3
  obtain ⟨ms, m', _, _, _, hml, hmf⟩ := DataW.trod_struct Tryd.underlying23 g0
  obtain ⟨p0, p1, p2, p3, rfl⟩ := len4M hml
  have q0 : DataW.trod enc Tryd.prog w 0 (fun _ => true) true m' 3 [v0] = some p0 := by simpa [cellsIM] using hmf 0 _ rfl
  have q1 : DataW.trod enc Tryd.prog w 0 (fun _ => true) true m' 3 [v1] = some p1 := by simpa [cellsIM] using hmf 1 _ rfl
  have q2 : DataW.trod enc Tryd.prog w 0 (fun _ => true) true m' 3 [v2] = some p2 := by simpa [cellsIM] using hmf 2 _ rfl
  have q3 : DataW.trod enc Tryd.prog w 0 (fun _ => true) true m' 3 [v3] = some p3 := by simpa [cellsIM] using hmf 3 _ rfl
  obtain ⟨k0, e0, _, y0w⟩ := DataW.trod_int Tryd.underlying3 q0
  obtain ⟨k1, e1, _, y1w⟩ := DataW.trod_int Tryd.underlying3 q1
  obtain ⟨k2, e2, _, y2w⟩ := DataW.trod_int Tryd.underlying3 q2
  obtain ⟨k3, e3, _, y3w⟩ := DataW.trod_int Tryd.underlying3 q3
  cases e0; cases e1; cases e2; cases e3; cases e4; cases e5; cases e6
  refine ⟨⟨k0, k1, k2, k3, s4, k5, s6⟩, ?_, ⟨wf_inI y0w, wf_inI y1w, wf_inI y2w, wf_inI y3w, wf_inI y5⟩, ?_⟩
  · have h := congrArg List.toArray hv'
    rw [Array.toArray_toList] at h
    exact h
  · have hs4 : s4.size ≤ Rows.uptoBulk y1.1 := by
      rw [z4]
      simp only [Rows.uptoBulk, Array.length_toList]
      show s4.data.size ≤ _
      omega
    have hbx : Rows.uptoBulk y1.1 ≤ Rows.uptoBulk d := by
      have hd := congrArg Prod.fst hx
      simp only [] at hd
      rw [hd]
      simp only [Rows.uptoBulk, List.map_cons, List.map_nil, Rows.uptoBulkAll]
      omega
    show s4.size ≤ _
    omega
end
end Go.Proofs.YtjpoifoejbabiabDoor

-- What the tables hold.
namespace Go.Proofs.YtjpoifoejbabiabDoor
open Go.ChangeShapes Go.WideShapes Go.ChangeAt Go.RowKit
set_option linter.unusedVariables false
set_option maxRecDepth 100000
theorem c3m : Tryd.prog.cellsOf 3 = 1 := by kernel_rfl
theorem c5m : Tryd.prog.cellsOf 5 = 1 := by kernel_rfl
theorem c29m : Tryd.prog.cellsOf 51 = 5 := by kernel_rfl
theorem c30m : Tryd.prog.cellsOf 52 = 15 := by kernel_rfl
theorem one_of {cs : List Value} {i : Nat} {x : Value} (h : (cs.drop i).take 1 = [x]) : cs[i]? = some x := by
  have := congrArg (fun l : List Value => l[0]?) h
  simpa [List.getElem?_take, List.getElem?_drop] using this
theorem row_of {H : Type} {enc : TypeId × Value → H} {w : World} {base : Nat} {sp : Nat → Bool} {held : Bool} {fuel : Nat} {cs : List Value} {a b c d e : Int} {p : List MemPlace}
    (h : DataW.trod enc Tryd.prog w base sp held fuel 51 cs = some (.agg [.lit (.int .i64 a), .lit (.int .i64 b), .lit (.int .i64 c), .lit (.int .i64 d), .lit (.int .u8 e)], p)) :
    cs[0]? = some (.int .i64 a) ∧ cs[1]? = some (.int .i64 b) ∧ cs[2]? = some (.int .i64 c) ∧ cs[3]? = some (.int .i64 d) ∧ cs[4]? = some (.int .u8 e) := by
  obtain ⟨xs, n, _, hx, hl, hlen, hf⟩ := DataW.trod_struct Tryd.underlying51 h
  have hm := (congrArg Prod.fst hx).symm
  simp only [DataW.agg.injEq] at hm
  match xs, hlen, hm, hf with
  | [x0, x1, x2, x3, x4], _, hm, hf =>
    simp only [List.map_cons, List.map_nil, List.cons.injEq, and_true] at hm
    obtain ⟨m0, m1, m2, m3, m4⟩ := hm
    have g0 := hf 0 _ rfl
    have g1 := hf 1 _ rfl
    have g2 := hf 2 _ rfl
    have g3 := hf 3 _ rfl
    have g4 := hf 4 _ rfl
    simp only [List.getElem?_cons_zero, List.getElem?_cons_succ] at g0 g1 g2 g3 g4
    obtain ⟨z0, k0, rfl, _⟩ := DataW.trod_int Tryd.underlying3 g0
    obtain ⟨z1, k1, rfl, _⟩ := DataW.trod_int Tryd.underlying3 g1
    obtain ⟨z2, k2, rfl, _⟩ := DataW.trod_int Tryd.underlying3 g2
    obtain ⟨z3, k3, rfl, _⟩ := DataW.trod_int Tryd.underlying3 g3
    obtain ⟨z4, k4, rfl, _⟩ := DataW.trod_int Tryd.underlying5 g4
    simp only [DataW.lit.injEq, Lit.int.injEq, true_and] at m0 m1 m2 m3 m4
    subst m0 m1 m2 m3 m4
    exact ⟨one_of k0, one_of k1, one_of k2, one_of k3, one_of k4⟩
theorem gG : Tryd.prog.globalNamed "shelf/text.modeGroups" = some 1 := by kernel_rfl
theorem gGt : (Tryd.prog.globals[1]?).map (·.type) = some 52 := by kernel_rfl
theorem mode_of {W : World} {rest : List (String × DataW Unit)} (h : laidMet Tryd.prog (("shelf/text.modeGroups", Rows.laid_shelf_text_modeGroups) :: rest) W) : ModeTab W := by
  obtain ⟨ps, ⟨g', t', cs, fuel, p, q, hg', ht', hvar, hd, _, _⟩, _⟩ := h
  obtain rfl := Option.some.inj (gG.symm.trans hg')
  obtain rfl := Option.some.inj (gGt.symm.trans ht')
  obtain ⟨xs, m, _, hx, hl, hlen, hf⟩ := DataW.trod_array Tryd.underlying52 hd
  have hm := (congrArg Prod.fst hx).symm
  simp only [Rows.laid_shelf_text_modeGroups, DataW.agg.injEq] at hm
  match xs, hlen, hm, hf with
  | [x0, x1, x2], _, hm, hf =>
    simp only [List.map_cons, List.map_nil, List.cons.injEq, and_true] at hm
    obtain ⟨m0, m1, m2⟩ := hm
    have g0 := hf 0 (by decide)
    have g1 := hf 1 (by decide)
    have g2 := hf 2 (by decide)
    rw [c29m] at g0 g1 g2
    simp only [List.getElem?_cons_zero, List.getElem?_cons_succ] at g0 g1 g2
    obtain ⟨d0, p0⟩ := x0
    obtain ⟨d1, p1⟩ := x1
    obtain ⟨d2, p2⟩ := x2
    simp only [] at m0 m1 m2
    subst m0 m1 m2
    have r0 := row_of g0
    have r1 := row_of g1
    have r2 := row_of g2
    rw [c30m] at hl
    have hcs : cs = cellsM := by
      apply Array.ext'
      apply List.ext_getElem?
      intro i
      have e : ∀ j k, k < 5 → ((cs.toList.drop (j * 5)).take 5)[k]? = cs.toList[j * 5 + k]? := by
        intro j k hk
        simp [List.getElem?_drop, hk]
      simp only [e 0 _ (by decide : 0 < 5), e 0 _ (by decide : 1 < 5), e 0 _ (by decide : 2 < 5), e 0 _ (by decide : 3 < 5), e 0 _ (by decide : 4 < 5)] at r0
      simp only [e 1 _ (by decide : 0 < 5), e 1 _ (by decide : 1 < 5), e 1 _ (by decide : 2 < 5), e 1 _ (by decide : 3 < 5), e 1 _ (by decide : 4 < 5)] at r1
      simp only [e 2 _ (by decide : 0 < 5), e 2 _ (by decide : 1 < 5), e 2 _ (by decide : 2 < 5), e 2 _ (by decide : 3 < 5), e 2 _ (by decide : 4 < 5)] at r2
      obtain ⟨a0, a1, a2, a3, a4⟩ := r0
      obtain ⟨a5, a6, a7, a8, a9⟩ := r1
      obtain ⟨a10, a11, a12, a13, a14⟩ := r2
      by_cases hi : i < 15
      · match i, hi with
        | 0, _ => exact a0
        | 1, _ => exact a1
        | 2, _ => exact a2
        | 3, _ => exact a3
        | 4, _ => exact a4
        | 5, _ => exact a5
        | 6, _ => exact a6
        | 7, _ => exact a7
        | 8, _ => exact a8
        | 9, _ => exact a9
        | 10, _ => exact a10
        | 11, _ => exact a11
        | 12, _ => exact a12
        | 13, _ => exact a13
        | 14, _ => exact a14
        | n + 15, hn => omega
      · rw [List.getElem?_eq_none (by rw [hl]; omega), List.getElem?_eq_none (by show 15 ≤ i; omega)]
    subst hcs
    unfold World.var? at hvar
    rw [gG] at hvar
    simp only [Option.bind_some] at hvar
    split at hvar
    · rename_i cs' t fr hh
      cases hvar
      exact ⟨t, fr, hh⟩
    · cases hvar
theorem gMb : Tryd.prog.globalNamed "shelf/text.monthDays" = some 2 := by kernel_rfl
theorem gMtb : (Tryd.prog.globals[2]?).map (·.type) = some 113 := by kernel_rfl
theorem c39b : Tryd.prog.cellsOf 113 = 12 := by kernel_rfl
theorem c3b : Tryd.prog.cellsOf 3 = 1 := by kernel_rfl
theorem gPtb : (Tryd.prog.globals[3]?).map (·.type) = some 115 := by kernel_rfl
theorem c67b : Tryd.prog.cellsOf 115 = 20 := by kernel_rfl
theorem c55b : Tryd.prog.cellsOf 91 = 1 := by kernel_rfl
theorem gN : Tryd.prog.globalNamed "shelf/text.months" = some 0 := by kernel_rfl
theorem gNt : (Tryd.prog.globals[0]?).map (·.type) = some 48 := by kernel_rfl
theorem c9b : Tryd.prog.cellsOf 9 = 1 := by kernel_rfl
theorem list10 : Lib.pow10Tab = [1, 10, 100, 1000, 10000, 100000, 1000000, 10000000, 100000000, 1000000000, 10000000000, 100000000000, 1000000000000, 10000000000000, 100000000000000, 1000000000000000, 10000000000000000, 100000000000000000, 1000000000000000000, 10000000000000000000] := by decide
theorem tab10 {W : World} {rest : List (String × DataW Unit)} (h : laidMet Tryd.prog (("internal/strconv.uint64pow10", Rows.laid_internal_strconv_uint64pow10) :: rest) W) : Lib.TabIs Tryd.prog W "internal/strconv.uint64pow10" .u64 Lib.pow10Tab := by
  rw [list10]
  exact Lib.tabIs_of_head (rest := rest) gPow gPtb Tryd.underlying115 Tryd.underlying91 c55b c67b h
theorem tabM {W : World} {rest : List (String × DataW Unit)} (h : laidMet Tryd.prog (("shelf/text.monthDays", Rows.laid_shelf_text_monthDays) :: rest) W) : Lib.TabIs Tryd.prog W "shelf/text.monthDays" .i64 [31, 28, 31, 30, 31, 30, 31, 31, 30, 31, 30, 31] :=
  Lib.tabIs_of_head (rest := rest) gMb gMtb Tryd.underlying113 Tryd.underlying3 c3b c39b h
theorem mon_of {W : World} {rest : List (String × DataW Unit)} (h : laidMet Tryd.prog (("shelf/text.monthDays", Rows.laid_shelf_text_monthDays) :: rest) W) : MonTab W := by
  intro i hi
  have hc := (tabM h).cell gMb i (by simpa using hi)
  have he : ∀ k : Fin 12, ([31, 28, 31, 30, 31, 30, 31, 31, 30, 31, 30, 31] : List Int).getD k.val 0 = ml 1 ((k.val : Int) + 1) := by decide
  rw [hc]
  exact congrArg (fun x => some (Value.int .i64 x)) (he ⟨i, hi⟩)
def nl : List (List UInt8) := [[74, 97, 110], [70, 101, 98], [77, 97, 114], [65, 112, 114], [77, 97, 121], [74, 117, 110], [74, 117, 108], [65, 117, 103], [83, 101, 112], [79, 99, 116], [78, 111, 118], [68, 101, 99]]
theorem laid_nl {H : Type} : (Rows.laid_shelf_text_months : DataW H) = .agg (nl.map fun l => .lit (.string l)) := rfl
theorem names_of {W : World} {rest : List (String × DataW Unit)} (h : laidMet Tryd.prog (("shelf/text.months", Rows.laid_shelf_text_months) :: rest) W) : ∀ i : Nat, i < 12 → W.cell? ⟨0, i, none⟩ = some (.string (mName i)) := by
  intro i hi
  obtain ⟨ps, ⟨g', t', cs, fuel, p, q, hg', ht', hvar, hd, _, _⟩, _⟩ := h
  obtain rfl := Option.some.inj (gN.symm.trans hg')
  obtain rfl := Option.some.inj (gNt.symm.trans ht')
  rw [laid_nl] at hd
  obtain ⟨xs, m, _, hx, hl, hlen, hf⟩ := DataW.trod_array Tryd.underlying48 hd
  have hm := (congrArg Prod.fst hx).symm
  simp only [DataW.agg.injEq] at hm
  have hfi := hf i hi
  rw [c9b] at hfi
  have hxi : xs[i]? = some (xs[i]'(by omega)) := List.getElem?_eq_getElem (by omega)
  rw [hxi] at hfi
  obtain ⟨s, hs, hxe, _⟩ := DataW.trod_string Tryd.underlying9 hfi
  have h1 : cs.toList[i]? = some (.string s) := by
    have := congrArg (fun l : List Value => l[0]?) hs
    simpa [List.getElem?_take, List.getElem?_drop] using this
  have h2 : (xs.map (·.1))[i]? = some (DataW.lit (.string s.data.toList)) := by
    rw [List.getElem?_map, hxi, hxe]; rfl
  rw [hm] at h2
  have h3 : nl[i]? = some s.data.toList := by
    rw [List.getElem?_map] at h2
    rcases e : nl[i]? with _ | l
    · rw [e] at h2; simp at h2
    · rw [e] at h2
      simp only [Option.map_some, Option.some.injEq, DataW.lit.injEq, Lit.string.injEq] at h2
      rw [h2]
  have h4 : mName i = s := by
    show strB (nl.getD i []) = s
    simp only [List.getD, h3, Option.getD_some]
    cases s; simp [strB]
  rw [h4]
  have := World.var?_cell gN hvar i
  rw [this]
  simpa using h1
theorem gD6 : Tryd.prog.globalNamed "internal/strconv.uint64pow10" = some 3 := by kernel_rfl
theorem ltabs_of {W : World} (h : laidMet Tryd.prog [("math/bits.deBruijn32tab", Rows.laid_math_bits_deBruijn32tab), ("math/bits.deBruijn64tab", Rows.laid_math_bits_deBruijn64tab), ("internal/strconv.uint64pow10", Rows.laid_internal_strconv_uint64pow10), ("shelf/text.months", Rows.laid_shelf_text_months), ("shelf/text.monthDays", Rows.laid_shelf_text_monthDays), ("shelf/text.modeGroups", Rows.laid_shelf_text_modeGroups)] W) : LTabs W := by
  have c1 := World.block_lt_of_cell? W _ (names_of h.tail.tail.tail 0 (by decide))
  have c2 := World.block_lt_of_cell? W _ (mon_of h.tail.tail.tail.tail 0 (by decide))
  have c3 := World.block_lt_of_cell? W _ ((tab10 h.tail.tail).cell gPow 0 (by decide))
  have hs : 4 ≤ W.heap.size := by simp only [] at c1 c2 c3; omega
  exact ⟨mode_of h.tail.tail.tail.tail.tail, ⟨names_of h.tail.tail.tail, mon_of h.tail.tail.tail.tail, tab10 h.tail.tail, hs⟩⟩
end Go.Proofs.YtjpoifoejbabiabDoor

-- ShowListBack's walk, over any List that tells so.
namespace Go.Proofs.YtjpoifoejbabiabDoor
open Go.ChangeShapes Go.WideShapes Go.ChangeAt Go.RowKit
set_option linter.unusedVariables false
set_option maxRecDepth 100000
set_option linter.unusedSimpArgs false
theorem scan_names (L : List Mx) : ∀ (pos : Nat) (acc : List ByteArray), scanL (lstsL false L) pos none false [] acc = .inr (acc ++ L.map (fun m => m.n)) := by
  induction L with
  | nil => intro pos acc; unfold lstsL; simp [scan_nil, endW]
  | cons m r ih =>
    intro pos acc
    have e : lstsL false (m :: r) = quoteL (lsq m.n) ++ (10 :: lstsL false r) := by
      unfold lstsL
      rw [List.flatMap_cons]
      unfold lstL QL
      simp
    rw [e, scan_quoteL, scan_part _ _ _ _ _ (by decide), ih]
    simp [endW, strB_lsq]
theorem words_names (L : List Mx) : wordsL (lstsL false L) = .inr (L.map (fun m => m.n)) := by
  unfold wordsL; rw [scan_names]; rfl
def nlC (l : List UInt8) : Nat := l.countP (fun c => c == 10)
theorem nlC_app (a b : List UInt8) : nlC (a ++ b) = nlC a + nlC b := by unfold nlC; exact List.countP_append
theorem nlC_quote (l : List UInt8) : nlC (quoteL l) = 0 := by
  unfold nlC
  rw [List.countP_eq_zero]
  intro c hc e
  have := quote_ge l c hc
  have h : c = 10 := by simpa using e
  rw [h] at this
  exact absurd this (by decide)
theorem nlC_list (L : List Mx) : nlC (lstsL false L) = L.length := by
  induction L with
  | nil => rfl
  | cons m r ih =>
    have e : lstsL false (m :: r) = quoteL (lsq m.n) ++ ([10] ++ lstsL false r) := by
      unfold lstsL
      rw [List.flatMap_cons]
      unfold lstL QL
      simp
    rw [e, nlC_app, nlC_app, nlC_quote, ih, List.length_cons]
    have : nlC [10] = 1 := rfl
    omega
theorem nlC_step {l : List UInt8} {k : Nat} (h : k < l.length) : nlC (l.take (k + 1)) = nlC (l.take k) + (if l[k] = 10 then 1 else 0) := by
  rw [List.take_succ_eq_append_getElem h, nlC_app]
  congr 1
  unfold nlC
  by_cases e : l[k] = 10
  · rw [if_pos e]; simp [e]
  · rw [if_neg e]; simp [e]
theorem strV_flat (l : List ByteArray) : strV l = l.flatMap txL := by
  unfold strV
  induction l with
  | nil => rfl
  | cons a r ih => rw [List.map_cons, ih, List.flatMap_cons]; rfl
theorem getB (S : ByteArray) (k : Nat) (h : k < S.size) : (lsq S)[k]'(by rw [lsq_size]; exact h) = S[k] := by
  unfold lsq
  show S.data.toList[k] = S.data[k]
  simp
set_option maxHeartbeats 8000000 in
theorem showListBack_w (HP0 : ListOk 12) (v0 : Value) (L : List Mx) (w : World) (h0 : RowM w v0 L) (hl : L.length ≤ 1048576) (ht : totM L ≤ 1048576) (hok : ∀ m ∈ L, okM m) (hT0 : LTabs w) :
    Calls Tryd.prog 4 #[v0] w fun e w' => e = .returned (.bool true) ∧ Below w.heap.size w w' := by
  obtain ⟨a0, c0, q0, _, _⟩ := h0.form
  obtain ⟨n, hnn⟩ : ∃ n, n = L.length := ⟨_, rfl⟩
  obtain ⟨S, hS⟩ : ∃ S, S = strB (lstsL false L) := ⟨_, rfl⟩
  have hSb : S.size ≤ 8388608 := by
    rw [hS, strB_size]
    have : ∀ l : List Mx, (lstsL false l).length ≤ 4 * totM l + 3 * l.length := by
      intro l
      unfold lstsL totM
      induction l with
      | nil => simp
      | cons e r ih =>
        have := QL_len e.n
        have e1 : (lstL false e).length = (QL e.n).length + 1 := by unfold lstL; simp
        simp only [List.flatMap_cons, List.length_append, List.map_cons, List.sum_cons, List.length_cons]; omega
    have := this L
    omega
  have HSL := hidK (show lsq S = lstsL false L by rw [hS, lsq_strB])
  have HTW := hidK (twin14_c v0 L w h0 (by omega))
  subst q0
  have HV := hidK h0
  have HN := hidK hnn
  have HP : Hid (∀ (u : Value) (W : World), Below w.heap.size w W → RowM W u L → Calls Tryd.prog 12 #[u, .bool false] W fun e w' => e = .returned (.string S) ∧ Below W.heap.size W w') := fun u W hb hr => by
    rw [hS]; exact HP0 u L false W hr (by omega) (by omega) hok (hT0.on hb)
  have HW : Hid (∀ W, Calls Tryd.prog 8 #[.string S] W fun e w' => Below W.heap.size W w' ∧ ∃ g cap, e = .returned (.tuple #[.slice g n cap, .int .i64 0, .int .i64 0]) ∧ RowT w' (.slice g n cap) (L.map (fun m => m.n))) := by
    intro W
    refine (words_c S W (by omega)).mono ?_
    rintro e w' ⟨hb, hg⟩
    have e1 : wordsL (lst S) = .inr (L.map (fun m => m.n)) := by
      rw [← words_names, ← HSL.out]; rfl
    rw [e1] at hg
    obtain ⟨v, rfl, ho⟩ := hg
    rw [strV_flat] at ho
    have hr : RowT w' v (L.map (fun m => m.n)) := OwnT.row ho
    obtain ⟨a, c, q, _, _⟩ := hr.form
    rw [List.length_map, ← hnn] at q
    subst q
    exact ⟨hb, a, c, rfl, hr⟩
  rw [← hnn] at hl HTW HV ⊢
  clear h0 hnn hS ht hok HP0
  go_enter Tryd.func4, Tryd.ntmps4
  go_upto_region 2 with (first | (go_at_call 13; refine HTW.out.mono ?_; rintro e w1 ⟨u, rfl, hr1, hb1⟩; obtain ⟨au, cu, qu, _, _⟩ := hr1.form; subst qu) | (go_at_call 12; refine (HP.out _ _ hb1 hr1).mono ?_; rintro e w2 ⟨rfl, hb2⟩))
  have hb12 := bel3K hb1 hb2
  go_upto_region 3 with (go_at_call 8; refine (HW.out _).mono ?_; rintro e w3 ⟨hb3, g, cap, rfl, hr3⟩)
  have HB3 := hidK (bel3K hb12 hb3)
  have HR3 := hidK hr3
  clear hb1 hb2 hb12 hb3 hr1 hr3 HTW HP HW
  go_upto_region 5 with fail
  go_wp2
  go_loopw [7, 8] (fun c i wx => ∃ k : Nat, i = .int .i64 k ∧ k ≤ S.size ∧ c = .int .i64 (nlC ((lsq S).take k) : Nat) ∧ nlC ((lsq S).take k) ≤ k ∧ wx = w3) (fun _ i _ => S.size - (intOf i).toNat)
  case atStart => exact ⟨0, rfl, Nat.zero_le _, rfl, Nat.le_refl _, rfl⟩
  case round =>
    obtain ⟨k, rfl, hks, rfl, hcl, rfl⟩ := hrel
    by_cases hk : k < S.size
    · have kI : (k : Int) < (S.size : Int) := by omega
      have k0 : (0 : Int) ≤ (k : Int) := by omega
      have hix := idx S k hk
      have hst := nlC_step (l := lsq S) (k := k) (by rw [lsq_size]; exact hk)
      rw [getB S k hk] at hst
      obtain ⟨cc, hcc⟩ : ∃ cc, cc = nlC ((lsq S).take k) := ⟨_, rfl⟩
      rw [← hcc] at hst hcl ⊢
      have cw : IntKind.i64.wrap ((cc : Int) + 1) = (cc : Int) + 1 := by rw [IntKind.wrap_i64]; omega
      have HST := hidK hst
      clear hst hcc
      by_cases hc : S[k] = 10
      · have h1 : (S[k].toNat : Int) = 10 := by rw [hc]; rfl
        rw [h1] at hix
        have hs2 := HST.out
        rw [if_pos hc] at hs2
        have HS2 := hidK hs2
        clear hs2 h1 hc
        go_wp2
        go_roundw
        case rel => exact ⟨k + 1, by go_num, by omega, by rw [HS2.out]; go_num, by rw [HS2.out]; omega, by first | rfl | trivial⟩
        case measure => simp [intOf]; omega
      · have h1 : ((S[k].toNat : Int) == 10) = false := by
          refine beq_eq_false_iff_ne.2 fun e => hc ?_
          apply UInt8.toNat_inj.1
          have : S[k].toNat = 10 := by omega
          rw [this]; rfl
        have hs2 := HST.out
        rw [if_neg hc, Nat.add_zero] at hs2
        have HS2 := hidK hs2
        clear hs2 hc
        go_wp2
        go_roundw
        case rel => exact ⟨k + 1, by go_num, by omega, by have h5 := HS2.out; simp only [Nat.add_zero] at h5; rw [h5], by have h5 := HS2.out; omega, by first | rfl | trivial⟩
        case measure => simp [intOf]; omega
    · obtain rfl : k = S.size := by omega
      have hall : nlC ((lsq S).take S.size) = n := by rw [List.take_of_length_le (by rw [lsq_size]; exact Nat.le_refl _), HSL.out, nlC_list, ← HN.out]
      rw [hall]
      clear hall hcl hk hks
      go_wp2
      go_loopw [9] (fun i wx => ∃ k : Nat, i = .int .i64 k ∧ k ≤ n ∧ Below wr.heap.size wr wx) (fun i _ => n - (intOf i).toNat)
      case atStart => exact ⟨0, rfl, Nat.zero_le _, Below.refl _ _⟩
      case round =>
        obtain ⟨k, rfl, hkn, hB⟩ := hrel
        by_cases hk : k < n
        · have kI : (k : Int) < (n : Int) := by omega
          have k0 : (0 : Int) ≤ (k : Int) := by omega
          have hkl : k < L.length := by have := HN.out; omega
          obtain ⟨⟨dd, uu, gg, mm, nn, zz, dt⟩, hx⟩ : ∃ x, L[k]? = some x := ⟨_, List.getElem?_eq_getElem hkl⟩
          obtain ⟨b3, o3, p3, e3, d0, d1, d2, d3, d4, d5, d6⟩ := (HV.out.on (bel3K HB3.out hB)).mx hx
          obtain ⟨b4, o4, p4, e4, f0⟩ := (HR3.out.on hB).tx (k := k) (x := nn) (by rw [List.getElem?_map, hx]; rfl)
          simp only [] at d4 f0
          injection e3 with e3 e3b e3c
          subst e3
          injection e4 with e4 e4b e4c
          subst e4
          clear hx hkl e3b e3c e4b e4c d0 d1 d2 d3 d5 d6
          go_wp2
          go_quiet (fail)
          have hB9 := belDrewN hB nq
          go_wp2
          go_roundw
          case rel => exact ⟨k + 1, by go_num, by omega, hB9⟩
          case measure => simp [intOf]; omega
        · obtain rfl : k = n := by omega
          go_wp2
          go_ret
          exact ⟨by simp, bel3K HB3.out hB⟩
end Go.Proofs.YtjpoifoejbabiabDoor
