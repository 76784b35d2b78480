import Derived.Test.YtmhamlhmmkbkaaaDoorC0
import Derived.Test.YtmhamlhmmkbkaaaDoorRows
import Derived.WalkKit
import Derived.Deep.Slices
import Derived.ChangeSlices
import Derived.ProofKit
import Derived.OpenShut
import Derived.ChangeArms
import Derived.Test.YtmhamlhmmkbkaaaDoorKW
import Derived.Test.YtmhamlhmmkbkaaaDoorA0
import Derived.Laws.CopyOwn
import Derived.Deep.RegionLaw
import Derived.Deep.RegionHeld3
import Derived.Deep.Cut

-- Lists of texts as they are read, with what they hold; a command.
namespace Go.Proofs.YtmhamlhmmkbkaaaDoor
open Go.RowKit Go.ChangeShapes Go.Deep
set_option linter.unusedVariables false
set_option maxRecDepth 100000
theorem bulk_memM {H : Type} (l : List (DataW H)) (d : DataW H) (h : d ∈ l) : Rows.uptoBulk d ≤ Rows.uptoBulkAll l := by
  induction l with
  | nil => simp at h
  | cons x r ih =>
    simp only [Rows.uptoBulkAll]
    rcases List.mem_cons.1 h with rfl | h
    · omega
    · have := ih h; omega
theorem bulk_posM {H : Type} (d : DataW H) : 1 ≤ Rows.uptoBulk d := by
  cases d with
  | lit l => cases l <;> simp [Rows.uptoBulk]
  | _ => simp [Rows.uptoBulk]
theorem bulk_lenM {H : Type} (l : List (DataW H)) : l.length ≤ Rows.uptoBulkAll l := by
  induction l with
  | nil => simp [Rows.uptoBulkAll]
  | cons x r ih => simp only [Rows.uptoBulkAll, List.length_cons]; have := bulk_posM x; omega
theorem cellsIM : Tryd.prog.cellsOf 3 = 1 := by kernel_rfl
theorem cellsSM : Tryd.prog.cellsOf 9 = 1 := by kernel_rfl
theorem add_offM (b off k : Nat) : (⟨b, off, none⟩ : Addr).add k = ⟨b, off + k, none⟩ := by unfold Addr.add; split <;> simp_all
section
variable {H : Type} {enc : TypeId × Value → H} {w : World} {spare : Nat → Bool} {held : Bool}
/-- One member as it is read. -/
theorem sum_le_bulk {α : Type} (sz : α → Nat) (D : Nat → DataW H) (f : Nat → α) : ∀ n, (∀ i, i < n → sz (f i) ≤ Rows.uptoBulk (D i)) → (((List.range n).map f).map sz).sum ≤ Rows.uptoBulkAll ((List.range n).map D)
  | 0, _ => by simp
  | n + 1, h => by
    have ih := sum_le_bulk sz D f n (fun i hi => h i (by omega))
    rw [List.range_succ, List.map_append, List.map_append, List.sum_append_nat, List.map_append]
    have e : ∀ a b : List (DataW H), Rows.uptoBulkAll (a ++ b) = Rows.uptoBulkAll a + Rows.uptoBulkAll b := by
      intro a b
      induction a with
      | nil => simp [Rows.uptoBulkAll]
      | cons x r ih => simp only [List.cons_append, Rows.uptoBulkAll]; omega
    rw [e]
    have := h n (by omega)
    simp only [List.map_cons, List.map_nil, List.sum_cons, List.sum_nil, Rows.uptoBulkAll]
    omega
/-- A list as it is read. -/
theorem open_list {α : Type} (c : α → List Value) (z : Nat) (hz : 0 < z) (hc : ∀ x, (c x).length = z) (T E : TypeId) (hu : Tryd.prog.underlying T = some (.slice E)) (hcl : Tryd.prog.cellsOf E = z) (sz : α → Nat) (pr : α → Prop) (dflt : α)
    (open1 : ∀ (n b off : Nat) (cs : List Value) (x : DataW H × List MemPlace), w.cells? 0 ⟨b, off, none⟩ z = some cs → DataW.trod enc Tryd.prog w 0 spare held n E cs = some x → ∃ o : α, (∀ m u, (c o)[m]? = some u → w.cell? ⟨b, off + m, none⟩ = some u) ∧ sz o ≤ Rows.uptoBulk x.1 ∧ pr o)
    {fuel : Nat} {v : Value} {x : DataW H × List MemPlace} (h : DataW.trod enc Tryd.prog w 0 spare held fuel T [v] = some x) (hB : Rows.uptoBulk x.1 ≤ 1048576) :
    ∃ l : List α, RowG c w v l ∧ l.length ≤ 1048576 ∧ (l.map sz).sum ≤ 1048576 ∧ ∀ x ∈ l, pr x := by
  rcases open_slice hu h with ⟨hcs, _⟩ | ⟨a, len, cap, m, n, D, Pl, hcs, _, hl, hm, hmm, hx, hel⟩
  · cases hcs
    exact ⟨[], ⟨none, 0, rfl, Nat.le_refl _, by decide, fun _ => rfl, fun h => by simp at h⟩, by simp, by simp, by simp⟩
  · cases hcs
    have hlm : len ≤ m := by rw [hmm]; split <;> omega
    have hxb : Rows.uptoBulk x.1 = Rows.uptoBulkAll ((List.range len).map D) + Rows.uptoBulkAll ((List.range (m - len)).map fun j => D (len + j)) + 1 := by rw [hx]; simp only [Rows.uptoBulk]
    have hlen : len ≤ 1048576 := by
      have := bulk_lenM ((List.range len).map D)
      simp at this; omega
    rcases Nat.eq_zero_or_pos len with h0 | h0
    · subst h0
      exact ⟨[], ⟨some a, cap, rfl, Nat.zero_le _, hm, (fun h => by cases h), fun h => by simp at h⟩, by simp, by simp, by simp⟩
    · rw [hcl] at hel
      obtain ⟨b, off, spot⟩ := a
      have hs : spot = none := by
        obtain ⟨cs', h1, _⟩ := hel 0 (by omega)
        obtain ⟨_, hl1, hc1⟩ := World.cells?_some h1
        have := hc1 0 (by omega)
        rw [List.getElem?_eq_getElem (by omega)] at this
        simpa [Addr.add] using World.cell?_spot this
      subst hs
      have each : ∀ i, i < len → ∃ o : α, (∀ m u, (c o)[m]? = some u → w.cell? ⟨b, off + i * z + m, none⟩ = some u) ∧ sz o ≤ Rows.uptoBulk (D i) ∧ pr o := by
        intro i hi
        obtain ⟨cs', h1, h2⟩ := hel i (by omega)
        rw [add_offM] at h1
        obtain ⟨o, a1, a2, a3⟩ := open1 _ _ _ _ _ h1 h2
        exact ⟨o, a1, a2, a3⟩
      haveI : Inhabited α := ⟨dflt⟩
      obtain ⟨f, hf⟩ := choose_lt each
      have hgl : ((List.range len).map f).length = len := by simp
      refine ⟨(List.range len).map f, ⟨_, cap, by rw [hgl], by rw [hgl]; exact hl, hm, (fun h => by cases h), fun _ => ⟨b, off, rfl, fun j u hu => ?_⟩⟩, by rw [hgl]; exact hlen, ?_, ?_⟩
      · have hj : j < len * z := by have := (List.getElem?_eq_some_iff.1 hu).1; rwa [flatG_len c z hc, hgl] at this
        have hk : j / z < len := Nat.div_lt_of_lt_mul (by rw [Nat.mul_comm]; exact hj)
        have hmz : j % z < z := Nat.mod_lt _ hz
        have e : j = j / z * z + j % z := by have := Nat.div_add_mod j z; rw [Nat.mul_comm] at this; exact this.symm
        have hg : ((List.range len).map f)[j / z]? = some (f (j / z)) := by rw [List.getElem?_map, List.getElem?_range hk]; rfl
        have h2 := flatG_get hc ((List.range len).map f) (j / z) (j % z) _ hg hmz
        rw [← e, hu] at h2
        have h3 := (hf (j / z) hk).1 (j % z) u h2.symm
        rw [Nat.add_assoc, ← e] at h3
        exact h3
      · have := sum_le_bulk sz D f len (fun i hi => (hf i hi).2.1)
        omega
      · intro x hx
        obtain ⟨i, hi, rfl⟩ := List.mem_map.1 hx
        exact (hf i (List.mem_range.1 hi)).2.2
/-- One text as it is read. -/
theorem open_text1 {n : Nat} {b off : Nat} {cs : List Value} {x : DataW H × List MemPlace} (h1 : w.cells? 0 ⟨b, off, none⟩ 1 = some cs) (h : DataW.trod enc Tryd.prog w 0 spare held n 9 cs = some x) :
    ∃ o : ByteArray, (∀ m u, (txL o)[m]? = some u → w.cell? ⟨b, off + m, none⟩ = some u) ∧ o.size ≤ Rows.uptoBulk x.1 ∧ True := by
  obtain ⟨_, hlen, hcell⟩ := World.cells?_some h1
  obtain ⟨v0, rfl⟩ : ∃ v, cs = [v] := by
    match cs, hlen with
    | [v], _ => exact ⟨v, rfl⟩
  obtain ⟨s1, e1, z1, _⟩ := DataW.trod_string Tryd.underlying9 h
  cases e1
  refine ⟨s1, fun i u hu => ?_, ?_, trivial⟩
  · have hi : i < 1 := by
      rcases Nat.lt_or_ge i 1 with h' | h'
      · exact h'
      · rw [List.getElem?_eq_none (by simpa [txL] using h')] at hu; cases hu
    have := hcell i hi
    rw [add_offM] at this
    rw [this]; exact hu
  · rw [z1]
    simp only [Rows.uptoBulk, Array.length_toList]
    show s1.data.size ≤ _
    omega
/-- A list of texts as it is read. -/
theorem open_texts15 {fuel : Nat} {v : Value} {x : DataW H × List MemPlace} (h : DataW.trod enc Tryd.prog w 0 spare held fuel 22 [v] = some x) (hB : Rows.uptoBulk x.1 ≤ 1048576) :
    ∃ l : List ByteArray, RowT w v l ∧ l.length ≤ 1048576 ∧ totT l ≤ 1048576 :=
  (open_list txL 1 (by decide) txL_len _ _ Tryd.underlying22 cellsSM ByteArray.size (fun _ => True) ⟨#[]⟩ (fun n b off cs x h1 h2 => open_text1 h1 h2) h hB).elim fun l h => ⟨l, h.1, h.2.1, h.2.2.1⟩
end
end Go.Proofs.YtmhamlhmmkbkaaaDoor

-- A command handed in by value.
namespace Go.Proofs.YtmhamlhmmkbkaaaDoor
open Go.RowKit Go.ChangeShapes Go.Deep
set_option linter.unusedVariables false
set_option maxRecDepth 100000
theorem cellsB15 : Tryd.prog.cellsOf 4 = 1 := by kernel_rfl
theorem cells515 : Tryd.prog.cellsOf 5 = 1 := by kernel_rfl
theorem cellsK15 : Tryd.prog.cellsOf 23 = 1 := by kernel_rfl
theorem cellsP15 : Tryd.prog.cellsOf 25 = 2 := by kernel_rfl
theorem cellsL15 : Tryd.prog.cellsOf 22 = 1 := by kernel_rfl
theorem cellsC15 : Tryd.prog.cellsOf 27 = 14 := by kernel_rfl
theorem u8of15 {k : Int} (h0 : 0 ≤ k) (h1 : k < 256) : ∃ c : UInt8, k = (c.toNat : Int) := by
  refine ⟨UInt8.ofNat k.toNat, ?_⟩
  rw [UInt8.toNat_ofNat']
  omega
theorem len13C {α : Type} {l : List α} (h : l.length = 13) : ∃ a0 a1 a2 a3 a4 a5 a6 a7 a8 a9 a10 a11 a12, l = [a0, a1, a2, a3, a4, a5, a6, a7, a8, a9, a10, a11, a12] := by
  match l, h with
  | [a0, a1, a2, a3, a4, a5, a6, a7, a8, a9, a10, a11, a12], _ => exact ⟨a0, a1, a2, a3, a4, a5, a6, a7, a8, a9, a10, a11, a12, rfl⟩
theorem len14C {α : Type} {l : List α} (h : l.length = 14) : ∃ a0 a1 a2 a3 a4 a5 a6 a7 a8 a9 a10 a11 a12 a13, l = [a0, a1, a2, a3, a4, a5, a6, a7, a8, a9, a10, a11, a12, a13] := by
  match l, h with
  | [a0, a1, a2, a3, a4, a5, a6, a7, a8, a9, a10, a11, a12, a13], _ => exact ⟨a0, a1, a2, a3, a4, a5, a6, a7, a8, a9, a10, a11, a12, a13, rfl⟩
theorem len2C {α : Type} {l : List α} (h : l.length = 2) : ∃ a b, l = [a, b] := by
  match l, h with
  | [a, b], _ => exact ⟨a, b, rfl⟩
theorem str_bulk {H : Type} {s : ByteArray} {y : DataW H × List MemPlace} (z : y = (.lit (.string s.data.toList), [])) : s.size ≤ Rows.uptoBulk y.1 := by
  rw [z]
  simp only [Rows.uptoBulk, Array.length_toList]
  show s.data.size ≤ _
  omega
section
variable {H : Type} {enc : TypeId × Value → H} {w : World}
theorem open_cmdV {cs : Array Value} {d : DataW H} {p : List MemPlace} (h : DataW.Trod enc Tryd.prog w 0 (fun _ => true) true 27 (.agg cs) d p) (hB : Rows.uptoBulk d ≤ 1048576) :
    ∃ (c : Cm) (v : Value), cs = (cmL c v).toArray ∧ RowT w v c.nms ∧ c.nms.length ≤ 1048576 ∧ totT c.nms ≤ 1048576 ∧ c.anc.size ≤ 1048576 ∧ c.arc.size ≤ 1048576 := by
  obtain ⟨fuel, h⟩ := h
  obtain ⟨xs, m, rfl, hx, hl, hxl, hf⟩ := DataW.trod_struct Tryd.underlying27 h
  rw [cellsC15] at hl
  obtain ⟨y0, y1, y2, y3, y4, y5, y6, y7, y8, y9, y10, y11, y12, rfl⟩ := len13C hxl
  obtain ⟨v0, v1, v2, v3, v4, v5, v6, v7, v8, v9, v10, v11, v12, v13, hv⟩ := len14C hl
  have hv' : cs.toList = [v0, v1, v2, v3, v4, v5, v6, v7, v8, v9, v10, v11, v12, v13] := hv
  rw [hv] at hf
  have g0 : DataW.trod enc Tryd.prog w 0 (fun _ => true) true m 3 [v0] = some y0 := by simpa [cellsIM, cellsSM, cellsB15, cells515, cellsK15, cellsP15, cellsL15] using hf 0 _ rfl
  have g1 : DataW.trod enc Tryd.prog w 0 (fun _ => true) true m 5 [v1] = some y1 := by simpa [cellsIM, cellsSM, cellsB15, cells515, cellsK15, cellsP15, cellsL15] using hf 1 _ rfl
  have g2 : DataW.trod enc Tryd.prog w 0 (fun _ => true) true m 4 [v2] = some y2 := by simpa [cellsIM, cellsSM, cellsB15, cells515, cellsK15, cellsP15, cellsL15] using hf 2 _ rfl
  have g3 : DataW.trod enc Tryd.prog w 0 (fun _ => true) true m 4 [v3] = some y3 := by simpa [cellsIM, cellsSM, cellsB15, cells515, cellsK15, cellsP15, cellsL15] using hf 3 _ rfl
  have g4 : DataW.trod enc Tryd.prog w 0 (fun _ => true) true m 4 [v4] = some y4 := by simpa [cellsIM, cellsSM, cellsB15, cells515, cellsK15, cellsP15, cellsL15] using hf 4 _ rfl
  have g5 : DataW.trod enc Tryd.prog w 0 (fun _ => true) true m 4 [v5] = some y5 := by simpa [cellsIM, cellsSM, cellsB15, cells515, cellsK15, cellsP15, cellsL15] using hf 5 _ rfl
  have g6 : DataW.trod enc Tryd.prog w 0 (fun _ => true) true m 4 [v6] = some y6 := by simpa [cellsIM, cellsSM, cellsB15, cells515, cellsK15, cellsP15, cellsL15] using hf 6 _ rfl
  have g7 : DataW.trod enc Tryd.prog w 0 (fun _ => true) true m 4 [v7] = some y7 := by simpa [cellsIM, cellsSM, cellsB15, cells515, cellsK15, cellsP15, cellsL15] using hf 7 _ rfl
  have g8 : DataW.trod enc Tryd.prog w 0 (fun _ => true) true m 4 [v8] = some y8 := by simpa [cellsIM, cellsSM, cellsB15, cells515, cellsK15, cellsP15, cellsL15] using hf 8 _ rfl
  have g9 : DataW.trod enc Tryd.prog w 0 (fun _ => true) true m 23 [v9] = some y9 := by simpa [cellsIM, cellsSM, cellsB15, cells515, cellsK15, cellsP15, cellsL15] using hf 9 _ rfl
  have g10 : DataW.trod enc Tryd.prog w 0 (fun _ => true) true m 25 [v10, v11] = some y10 := by simpa [cellsIM, cellsSM, cellsB15, cells515, cellsK15, cellsP15, cellsL15] using hf 10 _ rfl
  have g11 : DataW.trod enc Tryd.prog w 0 (fun _ => true) true m 9 [v12] = some y11 := by simpa [cellsIM, cellsSM, cellsB15, cells515, cellsK15, cellsP15, cellsL15] using hf 11 _ rfl
  have g12 : DataW.trod enc Tryd.prog w 0 (fun _ => true) true m 22 [v13] = some y12 := by simpa [cellsIM, cellsSM, cellsB15, cells515, cellsK15, cellsP15, cellsL15] using hf 12 _ rfl
  obtain ⟨k0, e0, _, _⟩ := DataW.trod_int Tryd.underlying3 g0
  obtain ⟨k1, e1, _, hw1⟩ := DataW.trod_int Tryd.underlying5 g1
  obtain ⟨k2, e2, _⟩ := DataW.trod_bool Tryd.underlying4 g2
  obtain ⟨k3, e3, _⟩ := DataW.trod_bool Tryd.underlying4 g3
  obtain ⟨k4, e4, _⟩ := DataW.trod_bool Tryd.underlying4 g4
  obtain ⟨k5, e5, _⟩ := DataW.trod_bool Tryd.underlying4 g5
  obtain ⟨k6, e6, _⟩ := DataW.trod_bool Tryd.underlying4 g6
  obtain ⟨k7, e7, _⟩ := DataW.trod_bool Tryd.underlying4 g7
  obtain ⟨k8, e8, _⟩ := DataW.trod_bool Tryd.underlying4 g8
  obtain ⟨k9, e9, _, _⟩ := DataW.trod_int Tryd.underlying23 g9
  obtain ⟨k11, e11, z11, _⟩ := DataW.trod_string Tryd.underlying9 g11
  obtain ⟨ms, m', _, hmx, _, hml, hmf⟩ := DataW.trod_struct Tryd.underlying25 g10
  obtain ⟨p0, p1, rfl⟩ := len2C hml
  have q0 : DataW.trod enc Tryd.prog w 0 (fun _ => true) true m' 3 [v10] = some p0 := by simpa [cellsIM] using hmf 0 _ rfl
  have q1 : DataW.trod enc Tryd.prog w 0 (fun _ => true) true m' 9 [v11] = some p1 := by simpa [cellsIM, cellsSM] using hmf 1 _ rfl
  obtain ⟨kw, ew, _, _⟩ := DataW.trod_int Tryd.underlying3 q0
  obtain ⟨ka, ea, za, _⟩ := DataW.trod_string Tryd.underlying9 q1
  cases e0; cases e1; cases e2; cases e3; cases e4; cases e5; cases e6; cases e7; cases e8; cases e9; cases e11; cases ew; cases ea
  have hk : 0 ≤ k1 ∧ k1 < 256 := by
    have h5 : IntKind.u8.min ≤ k1 ∧ k1 ≤ IntKind.u8.max := by simpa [Lit.wf] using hw1
    have e1 : IntKind.u8.min = 0 := rfl
    have e2 : IntKind.u8.max = 255 := rfl
    rw [e1, e2] at h5; omega
  obtain ⟨o, rfl⟩ := u8of15 hk.1 hk.2
  have hd : d = .agg ([y0, y1, y2, y3, y4, y5, y6, y7, y8, y9, y10, y11, y12].map Prod.fst) := congrArg Prod.fst hx
  have hy : Rows.uptoBulk y10.1 + Rows.uptoBulk y11.1 + Rows.uptoBulk y12.1 ≤ Rows.uptoBulk d := by
    rw [hd]
    simp only [Rows.uptoBulk, List.map_cons, List.map_nil, Rows.uptoBulkAll]
    omega
  have hy10 : Rows.uptoBulk p1.1 ≤ Rows.uptoBulk y10.1 := by
    rw [hmx]
    simp only [Rows.uptoBulk, List.map_cons, List.map_nil, Rows.uptoBulkAll]
    omega
  have s1 := str_bulk za
  have s2 := str_bulk z11
  obtain ⟨l, r1, r2, r3⟩ := open_texts15 g12 (by omega)
  refine ⟨⟨k0, o, k2, k3, k4, k5, k6, k7, k8, k9, kw, ka, k11, l⟩, v13, ?_, r1, r2, r3, by show ka.size ≤ _; omega, by show k11.size ≤ _; omega⟩
  have h := congrArg List.toArray hv'
  rw [Array.toArray_toList] at h
  exact h
end
end Go.Proofs.YtmhamlhmmkbkaaaDoor

-- readKeys: the key words of ar.
namespace Go.Proofs.YtmhamlhmmkbkaaaDoor
open Go.ChangeShapes Go.WideShapes Go.ChangeAt Go.RowKit Go.MapKept Go.Shelf
set_option linter.unusedVariables false
set_option maxRecDepth 100000
set_option linter.unusedSimpArgs false
theorem trim_und (k : ByteArray) : (⟨(Lib.trimPrefix k.data.toList [45]).toArray⟩ : ByteArray) = byB (und k) := by
  unfold byB und byL
  generalize k.data.toList = l
  congr 2
  cases l with
  | nil => rfl
  | cons a t =>
    by_cases h : a = 45
    · subst h; simp [Lib.trimPrefix, Lib.hasPrefix]
    · have h2 : ((45 : UInt8) == a) = false := beq_eq_false_iff_ne.2 fun q => h q.symm
      simp [Lib.trimPrefix, Lib.hasPrefix, List.isPrefixOf, h2]
      split
      · next q => injection q with q1 q2; exact absurd q1 h
      · rfl
def keyG (r : Rd) : List ByteArray → Sum (ByteArray × Int) (Rd × List ByteArray)
  | [] => .inl (⟨#[]⟩, 151)
  | k :: t => match foldG stB r (letL (und k)) with
    | .inl x => .inl (byB x.1, x.2)
    | .inr r1 => match kwR stB r1 t with
      | .inl x => .inl (byB x.1, x.2)
      | .inr q => if opF q.1.op q.1.s = 0 then .inl (⟨#[]⟩, 151) else .inr q
def KyPost (w0 : World) (b : Nat) (w : World) (pr : Int) (anc arc : ByteArray) (s : Sum (ByteArray × Int) (Rd × List ByteArray)) (e : Ending) (w' : World) : Prop := match s with
  | .inl x => e = .returned (.tuple #[.string x.1, .int .i64 x.2]) ∧ x.2 ≠ 0 ∧ Below w0.heap.size w0 w'
  | .inr q => e = .returned (.tuple #[.string ⟨#[]⟩, .int .i64 0]) ∧ Ln w0 b w' pr q.1 anc arc q.2 ∧ Kq b w w'
theorem keys_nil (w0 : World) (b : Nat) (w : World) (pr : Int) (r : Rd) (anc arc : ByteArray) (h : Ln w0 b w pr r anc arc []) :
    Calls Tryd.prog 22 #[.pointer (some ⟨b, 0, none⟩)] w (KyPost w0 b w pr anc arc (keyG r [])) := by
  have HN := hidK (next_nil_anyW w0 b w pr r anc arc h)
  have HB := hidK h.bel
  clear h
  go_enter Tryd.func22, Tryd.ntmps22
  go_wp2_with (go_at_call 32; refine HN.out.mono ?_; rintro e w1 ⟨rfl, hw1⟩; rw [hw1]; clear hw1)
  go_ret2
  exact ⟨rfl, show (151 : Int) ≠ 0 from by decide, HB.out⟩
theorem keyG_1 {r : Rd} {k : ByteArray} {t : List ByteArray} {x : List UInt8 × Int} (h : foldG stB r (letL (und k)) = .inl x) : keyG r (k :: t) = .inl (byB x.1, x.2) := by
  unfold keyG; simp only [h]
theorem keyG_2 {r r1 : Rd} {k : ByteArray} {t : List ByteArray} {x : List UInt8 × Int} (h : foldG stB r (letL (und k)) = .inr r1) (h2 : kwR stB r1 t = .inl x) : keyG r (k :: t) = .inl (byB x.1, x.2) := by
  unfold keyG; simp only [h, h2]
theorem keyG_3 {r r1 : Rd} {k : ByteArray} {t : List ByteArray} {q : Rd × List ByteArray} (h : foldG stB r (letL (und k)) = .inr r1) (h2 : kwR stB r1 t = .inr q) (h3 : opF q.1.op q.1.s = 0) : keyG r (k :: t) = .inl (⟨#[]⟩, 151) := by
  unfold keyG; simp only [h, h2]; rw [if_pos h3]
theorem keyG_4 {r r1 : Rd} {k : ByteArray} {t : List ByteArray} {q : Rd × List ByteArray} (h : foldG stB r (letL (und k)) = .inr r1) (h2 : kwR stB r1 t = .inr q) (h3 : opF q.1.op q.1.s ≠ 0) : keyG r (k :: t) = .inr q := by
  unfold keyG; simp only [h, h2]; rw [if_neg h3]
theorem Ln.op0 {w0 : World} {b : Nat} {w : World} {pr : Int} {r : Rd} {anc arc : ByteArray} {L : List ByteArray} (h : Ln w0 b w pr r anc arc L) (ho : opF r.op r.s = 0) : w.cell? ⟨b, 2, none⟩ = some (.int .u8 0) := by
  obtain ⟨a, n, c, h1, h2⟩ := h.box
  have x3 : w.cell? ⟨b, 2, none⟩ = some (.int .u8 ((opF r.op r.s).toNat : Int)) := cell_rowK h2 2 _ rfl
  rw [ho] at x3
  exact x3
theorem opF_ne0 {x : UInt8} (h : x ≠ 0) : ((x.toNat : Int) == 0) = false := u8I h
set_option maxHeartbeats 4000000 in
theorem keys_c (HD : DrOk) (w0 : World) (b : Nat) (w : World) (pr : Int) (r : Rd) (anc arc : ByteArray) (L : List ByteArray) (hT : TabU w0) (h : Ln w0 b w pr r anc arc L) :
    Calls Tryd.prog 22 #[.pointer (some ⟨b, 0, none⟩)] w (KyPost w0 b w pr anc arc (keyG r L)) := by
  cases L with
  | nil => exact keys_nil w0 b w pr r anc arc h
  | cons k t =>
    have HN := hidK (next_yes_anyW w0 b w pr r anc arc k t h rfl)
    have HTR : Hid (∀ W, Calls Tryd.prog 37 #[.string k, .string ⟨#[45]⟩] W fun e w' => e = .returned (.string (byB (und k))) ∧ w' = W) := fun W => by
      have := Tryd.strings_TrimPrefix k ⟨#[45]⟩ W
      have e : (⟨(Lib.trimPrefix k.data.toList (⟨#[45]⟩ : ByteArray).data.toList).toArray⟩ : ByteArray) = byB (und k) := trim_und k
      rwa [e] at this
    have HLT : Hid (∀ (W : World) (m : Nat), Ln w0 b W pr r anc arc t → MapAt (.int .i32) W m arP → Calls Tryd.prog 36 #[.pointer (some ⟨b, 0, none⟩), .string (byB (und k)), .map (some m)] W (RlPost w0 b W pr anc arc t (foldG stB r (letL (und k))))) := fun W m h1 h2 => by
      have := letters_c HD act_ar w0 b m W pr r anc arc t (byB (und k)) hT h1 h2
      rwa [byL_byB] at this
    have HKW : Hid (∀ (r1 : Rd) (W : World) (m : Nat), Ln w0 b W pr r1 anc arc t → MapAt (.int .i32) W m arP → Calls Tryd.prog 25 #[.pointer (some ⟨b, 0, none⟩), .map (some m)] W (KwPost w0 b W pr anc arc (kwR stB r1 t))) := fun r1 W m h1 h2 => keyWords_c HD act_ar w0 b m W pr r1 anc arc t hT h1 h2
    have HAR := hidK arLetters_c
    clear h hT HD
    cases hf : foldG stB r (letL (und k)) with
    | inl x =>
      rw [hf] at HLT
      rw [keyG_1 hf]
      clear HKW hf
      go_enter Tryd.func22, Tryd.ntmps22
      go_wp2_with (first
        | (go_at_call 32; refine HN.out.mono ?_; rintro e w1 ⟨rfl, l1, k1⟩)
        | (go_at_call 35; refine (HAR.out _).mono ?_; rintro e w2 ⟨rfl, m2, b2⟩; have l2 := l1.on b2)
        | (go_at_call 37; refine (HTR.out _).mono ?_; rintro e w3 ⟨rfl, hw3⟩; rw [hw3]; clear hw3)
        | (go_at_call 36; refine (HLT.out _ _ l2 m2).mono ?_; rintro e w4 ⟨rfl, hne, hb4⟩; have hz : (x.2 != 0) = true := by simp [hne]))
      go_ret2
      exact ⟨rfl, hne, hb4⟩
    | inr r1 =>
      rw [hf] at HLT
      have HKW1 := hidK (HKW.out r1)
      clear HKW
      cases hk : kwR stB r1 t with
      | inl x =>
        rw [hk] at HKW1
        rw [keyG_2 hf hk]
        clear hk hf
        go_enter Tryd.func22, Tryd.ntmps22
        go_wp2_with (first
          | (go_at_call 32; refine HN.out.mono ?_; rintro e w1 ⟨rfl, l1, k1⟩)
          | (go_at_call 35; refine (HAR.out _).mono ?_; rintro e w2 ⟨rfl, m2, b2⟩; have l2 := l1.on b2)
          | (go_at_call 37; refine (HTR.out _).mono ?_; rintro e w3 ⟨rfl, hw3⟩; rw [hw3]; clear hw3)
          | (go_at_call 36; refine (HLT.out _ _ l2 m2).mono ?_; rintro e w4 ⟨rfl, l4, k4⟩; have m4 := m2.keep (k4.block _ (by obtain ⟨_, _, _, _, h9⟩ := l2.box; exact m2.ne_cells h9) m2.lt))
          | (go_at_call 25; refine (HKW1.out _ _ l4 m4).mono ?_; rintro e w5 ⟨rfl, hne, hb5⟩; have hz : (x.2 != 0) = true := by simp [hne]))
        go_ret2
        exact ⟨rfl, hne, hb5⟩
      | inr q =>
        rw [hk] at HKW1
        by_cases ho : opF q.1.op q.1.s = 0
        · rw [keyG_3 hf hk ho]
          clear hf hk
          go_enter Tryd.func22, Tryd.ntmps22
          go_wp2_with (first
            | (go_at_call 32; refine HN.out.mono ?_; rintro e w1 ⟨rfl, l1, k1⟩)
            | (go_at_call 35; refine (HAR.out _).mono ?_; rintro e w2 ⟨rfl, m2, b2⟩; have l2 := l1.on b2)
            | (go_at_call 37; refine (HTR.out _).mono ?_; rintro e w3 ⟨rfl, hw3⟩; rw [hw3]; clear hw3)
            | (go_at_call 36; refine (HLT.out _ _ l2 m2).mono ?_; rintro e w4 ⟨rfl, l4, k4⟩; have m4 := m2.keep (k4.block _ (by obtain ⟨_, _, _, _, h9⟩ := l2.box; exact m2.ne_cells h9) m2.lt))
            | (go_at_call 25; refine (HKW1.out _ _ l4 m4).mono ?_; rintro e w5 ⟨rfl, l5, k5⟩; have x2 := l5.op0 ho))
          go_ret2
          exact ⟨rfl, show (151 : Int) ≠ 0 from by decide, l5.bel⟩
        · rw [keyG_4 hf hk ho]
          clear hf hk
          go_enter Tryd.func22, Tryd.ntmps22
          go_wp2_with (first
            | (go_at_call 32; refine HN.out.mono ?_; rintro e w1 ⟨rfl, l1, k1⟩)
            | (go_at_call 35; refine (HAR.out _).mono ?_; rintro e w2 ⟨rfl, m2, b2⟩; have l2 := l1.on b2)
            | (go_at_call 37; refine (HTR.out _).mono ?_; rintro e w3 ⟨rfl, hw3⟩; rw [hw3]; clear hw3)
            | (go_at_call 36; refine (HLT.out _ _ l2 m2).mono ?_; rintro e w4 ⟨rfl, l4, k4⟩; have m4 := m2.keep (k4.block _ (by obtain ⟨_, _, _, _, h9⟩ := l2.box; exact m2.ne_cells h9) m2.lt))
            | (go_at_call 25; refine (HKW1.out _ _ l4 m4).mono ?_; rintro e w5 ⟨rfl, l5, k5⟩; obtain ⟨a5, n5, c5, r5, g5⟩ := l5.box; obtain ⟨o5, ho5⟩ : ∃ o5 : Int, o5 = ((opF q.1.op q.1.s).toNat : Int) := ⟨_, rfl⟩; have x2 : w5.cell? ⟨b, 2, none⟩ = some (.int .u8 o5) := (by rw [ho5]; exact cell_rowK g5 2 _ rfl); have hoz : (o5 == 0) = false := (by rw [ho5]; exact opF_ne0 ho); clear ho5))
          go_ret2
          exact ⟨rfl, l5, ((k1.two (Kq.ofBelow b2)).two k4).two k5⟩
end Go.Proofs.YtmhamlhmmkbkaaaDoor

-- 'copy' of elements of z cells into a row that is known whole.
namespace Go.Proofs.YtmhamlhmmkbkaaaDoor
open Go.ChangeShapes Go.WideShapes Go.ChangeAt Go.RowKit
set_option linter.unusedVariables false
set_option maxRecDepth 100000
theorem run_copy_rowZ {P : Program} (w : World) (dT sT ty elem : TypeId) (z : Nat) (g o dLen dCap : Nat) (a : Addr) (sLen sCap : Nat) (cur : Array Value) (t : TypeId) (cs : List Value)
    (hu : P.underlying dT = some (.slice elem)) (hs : (P.info? elem).map (·.size) = some z)
    (hg : w.heap[g]? = some (.cells cur t (0, 0))) (hn : cs.length = Nat.min sLen dLen * z)
    (hsrc : ∀ j v, cs[j]? = some v → w.cell? (a.add j) = some v) (hfit : o + cs.length ≤ cur.size) (h1 : ∀ v ∈ cs, v.oneCell' = true) :
    (Builtin.copy_ #[dT, sT] ty #[.slice (some ⟨g, o, none⟩) dLen dCap, .slice (some a) sLen sCap]).run P w =
      .ok (goInt (Nat.min sLen dLen)) (w.setRow g (cur.toList.take o ++ cs ++ cur.toList.drop (o + cs.length)).toArray) := by
  have hl := run_loadCells_list (P := P) w a cs hsrc
  have hst := run_storeCells_at P g o t cs 0 cur w hg (by simpa using hfit) h1
  cases hq : P.info? elem with
  | none => simp [hq] at hs
  | some i =>
    have hi : i.size = z := by simpa [hq] using hs
    simp [Builtin.copy_, run_underlying hu, Builtin.lenOf, Builtin.firstCells, sizeOf, typeInfo, hq, hi, ← hn, hl, hst]
theorem run_copy_noneZ {P : Program} (w : World) (dT sT ty elem : TypeId) (z : Nat) (d a : Option Addr) (dLen dCap sLen sCap : Nat) (hu : P.underlying dT = some (.slice elem)) (hs : (P.info? elem).map (·.size) = some z) (hn : Nat.min sLen dLen = 0) :
    (Builtin.copy_ #[dT, sT] ty #[.slice d dLen dCap, .slice a sLen sCap]).run P w = .ok (goInt 0) w := by
  cases hq : P.info? elem with
  | none => simp [hq] at hs
  | some i =>
    have hl : ∀ (x : Addr), (loadCells x 0).run P w = .ok #[] w := fun x => by simpa using run_loadCells_list (P := P) w x [] (by simp)
    cases d <;> cases a <;> simp [Builtin.copy_, run_underlying hu, Builtin.lenOf, Builtin.firstCells, sizeOf, typeInfo, hq, hn, storeCells, hl]
theorem copy_runZ {P : Program} {w : World} {dT sT ty elem : TypeId} {z : Nat} (hz : 0 < z) (hu : P.underlying dT = some (.slice elem)) (hsz : (P.info? elem).map (·.size) = some z)
    (dp sp : Option Addr) (dLen dCap sLen sCap : Nat)
    (g off : Nat) (cur : List Value) (t : TypeId) (hg : w.heap[g]? = some (.cells cur.toArray t (0, 0))) (cs : List Value) (hn : cs.length = Nat.min sLen dLen * z)
    (hpos : 0 < cs.length → dp = some ⟨g, off, none⟩ ∧ ∃ ad, sp = some ad ∧ ∀ j v, cs[j]? = some v → w.cell? (ad.add j) = some v)
    (hfit : off + cs.length ≤ cur.length) (h1 : ∀ v ∈ cs, v.oneCell' = true) (B : Nat) (w0 : World) (hb : Below B w0 w) (hBg : B ≤ g) :
    ∃ w', (Builtin.copy_ #[dT, sT] ty #[.slice dp dLen dCap, .slice sp sLen sCap]).run P w = .ok (goInt (Nat.min sLen dLen)) w' ∧ w'.heap[g]? = some (.cells (splice cur off cs).toArray t (0, 0)) ∧ Below B w0 w' := by
  by_cases h0 : cs.length = 0
  · obtain rfl : cs = [] := List.eq_nil_of_length_eq_zero h0
    have hm : Nat.min sLen dLen = 0 := by
      rcases Nat.mul_eq_zero.1 (show Nat.min sLen dLen * z = 0 by rw [← hn]; rfl) with h | h
      · exact h
      · omega
    exact ⟨w, by rw [hm]; exact run_copy_noneZ w dT sT ty elem z dp sp dLen dCap sLen sCap hu hsz hm, by simpa [splice] using hg, hb⟩
  · obtain ⟨rfl, ad, rfl, hsrc⟩ := hpos (by omega)
    refine ⟨_, run_copy_rowZ w dT sT ty elem z g off dLen dCap ad sLen sCap cur.toArray t cs hu hsz hg hn hsrc (by simpa using hfit) h1, ?_, below_setRow hb hBg _⟩
    simpa [splice] using setRow_heap w g _ _ t _ hg
theorem wpList_copy_spliceZ {P : Program} {w : World} {ops : Array Oper} {rest : List Oper} {o : Oper} {a : Act} {Q : Exit → Act → World → Prop} (hgd : o.guard = none) (d s : Operand) (dT sT : TypeId)
    (ho : o.op = .call { callee := .builtin .copy, args := #[d, s], argTypes := #[dT, sT] }) (elem : TypeId) (z : Nat) (hz : 0 < z) (hu : P.underlying dT = some (.slice elem)) (hsz : (P.info? elem).map (·.size) = some z)
    (dp sp : Option Addr) (dLen dCap sLen sCap : Nat) (hd : a.eval d = .slice dp dLen dCap) (hs : a.eval s = .slice sp sLen sCap)
    (g off : Nat) (cur : List Value) (t : TypeId) (hg : w.heap[g]? = some (.cells cur.toArray t (0, 0))) (cs : List Value) (hn : cs.length = Nat.min sLen dLen * z)
    (hpos : 0 < cs.length → dp = some ⟨g, off, none⟩ ∧ ∃ ad, sp = some ad ∧ ∀ j v, cs[j]? = some v → w.cell? (ad.add j) = some v)
    (hfit : off + cs.length ≤ cur.length) (h1 : ∀ v ∈ cs, v.oneCell' = true) (B : Nat) (w0 : World) (hb : Below B w0 w) (hBg : B ≤ g)
    (h : ∀ w', Hid (w'.heap[g]? = some (.cells (splice cur off cs).toArray t (0, 0))) → Below B w0 w' → wpList P ops Q rest (a.put o.dst (goInt (Nat.min sLen dLen))) w') :
    wpList P ops Q (o :: rest) a w := by
  refine wpList_plain hgd fun K hK => ?_
  obtain ⟨w', hrun, hg', hb'⟩ := copy_runZ (ty := o.type) hz hu hsz dp sp dLen dCap sLen sCap g off cur t hg cs hn hpos hfit h1 B w0 hb hBg (sT := sT)
  unfold Oper.wp
  simp [execOp, ho, resolve, invoke, builtin, hd, hs, hrun, Result.andThen]
  exact hK _ _ (h w' hg' hb')
theorem step_copy_spliceZ {P : Program} {ops : Array Oper} {o : Oper} {a : Act} {w : World} {K : Act → World → Prop} {Q : Exit → Act → World → Prop} {E : Prop} (hgd : o.guard = none) (d s : Operand) (dT sT : TypeId)
    (ho : o.op = .call { callee := .builtin .copy, args := #[d, s], argTypes := #[dT, sT] }) (elem : TypeId) (z : Nat) (hz : 0 < z) (hu : P.underlying dT = some (.slice elem)) (hsz : (P.info? elem).map (·.size) = some z)
    (dp sp : Option Addr) (dLen dCap sLen sCap : Nat) (hd : a.eval d = .slice dp dLen dCap) (hs : a.eval s = .slice sp sLen sCap)
    (g off : Nat) (cur : List Value) (t : TypeId) (hg : w.heap[g]? = some (.cells cur.toArray t (0, 0))) (cs : List Value) (hn : cs.length = Nat.min sLen dLen * z)
    (hpos : 0 < cs.length → dp = some ⟨g, off, none⟩ ∧ ∃ ad, sp = some ad ∧ ∀ j v, cs[j]? = some v → w.cell? (ad.add j) = some v)
    (hfit : off + cs.length ≤ cur.length) (h1 : ∀ v ∈ cs, v.oneCell' = true) (B : Nat) (w0 : World) (hb : RowKit.Below B w0 w) (hBg : B ≤ g)
    (h : ∀ w', RowKit.Hid (w'.heap[g]? = some (.cells (splice cur off cs).toArray t (0, 0))) → RowKit.Below B w0 w' → K (a.put o.dst (goInt (Nat.min sLen dLen))) w') :
    if Region.wanted o (yielded ops a.tmps) = true then Oper.wp P o a w K Q else E := by
  have hw : Region.wanted o (yielded ops a.tmps) = true := by simp [Region.wanted, hgd]
  rw [if_pos hw]
  obtain ⟨w', hrun, hg', hb'⟩ := copy_runZ (ty := o.type) hz hu hsz dp sp dLen dCap sLen sCap g off cur t hg cs hn hpos hfit h1 B w0 hb hBg (sT := sT)
  unfold Oper.wp
  simp [execOp, ho, resolve, invoke, builtin, hd, hs, hrun, Result.andThen]
  exact h w' hg' hb'
end Go.Proofs.YtmhamlhmmkbkaaaDoor

-- readOperands: the anchor, the archive, the names.
namespace Go.Proofs.YtmhamlhmmkbkaaaDoor
open Go.ChangeShapes Go.WideShapes Go.ChangeAt Go.RowKit Go.MapKept Go.Shelf
set_option linter.unusedVariables false
set_option maxRecDepth 100000
set_option linter.unusedSimpArgs false
theorem made_flat {α : Type} (c : α → List Value) (z : Nat) (hz : 0 < z) (hc : ∀ x, (c x).length = z) (x0 : α) (n : Nat) : (madeCells (c x0).toArray (n * z)).toList = (List.replicate n x0).flatMap c := by
  apply List.ext_getElem?
  intro j
  by_cases hj : j < n * z
  · have hk : j / z < n := Nat.div_lt_of_lt_mul (by rw [Nat.mul_comm]; exact hj)
    have hm : j % z < z := Nat.mod_lt _ hz
    have e : j = j / z * z + j % z := by have := Nat.div_add_mod j z; rw [Nat.mul_comm] at this; exact this.symm
    have hr : (List.replicate n x0)[j / z]? = some x0 := by rw [List.getElem?_replicate, if_pos hk]
    have h2 := flatG_get hc (List.replicate n x0) (j / z) (j % z) x0 hr hm
    rw [← e] at h2
    have hcx := hc x0
    have h3 : (c x0)[j % z]? = some ((c x0)[j % z]'(by omega)) := List.getElem?_eq_getElem (by omega)
    rw [h2, h3]
    simp only [madeCells, Array.toList_map, Array.toList_range, List.getElem?_map, List.getElem?_range hj, Option.map_some, List.size_toArray, hcx]
    rw [getElem!_pos (c x0).toArray (j % z) (by simpa [hcx] using hm)]
    simp
  · rw [List.getElem?_eq_none (by rw [Array.length_toList, size_madeCells]; omega), List.getElem?_eq_none (by rw [flatG_len c z hc, List.length_replicate]; omega)]
def zMx : Mx := ⟨0, 0, 0, 0, ⟨#[]⟩, 0, ⟨#[]⟩⟩
theorem mk_texts (n : Nat) (hn : n ≤ 67108864) (W : World) : (Instr.makeSlice 22 (.int .i64 n) (.int .i64 n)).run Tryd.prog W = .ok (.slice (some ⟨W.heap.size, 0, none⟩) n n) (W.alloc (.cells ((List.replicate n (⟨#[]⟩ : ByteArray)).flatMap txL).toArray 9)) := by
  obtain ⟨i0, hi, hz0, hz1, hz2⟩ := info_parts infoTx15
  rw [run_make W 22 9 i0 _ Tryd.underlying22 hi hz0 .i64 .i64 n n (by omega) (by omega) (by rw [hz2]; omega) (by omega), hz1, Int.toNat_natCast, ← made_flat txL 1 (by decide) txL_len (⟨#[]⟩ : ByteArray) n]
  rfl
/-- the command that was read, but for its archive and its names -/
def cmLn (pr : Int) (r : Rd) (anc arc : ByteArray) (nms : List ByteArray) : Cm := ⟨pr, opF r.op r.s, r.vb, r.up, r.qu, r.det, r.dat, r.bare, r.thin, r.kind, whOf r.po, anc, arc, nms⟩
def restG (pr : Int) (r : Rd) (anc : ByteArray) : List ByteArray → Ans
  | [] => .inl (⟨#[]⟩, 156)
  | a :: t => .inr (cmLn pr r anc a t)
def lastG (pr : Int) (r : Rd) (t : List ByteArray) : Ans :=
  if r.po = 0 then restG pr r ⟨#[]⟩ t else match t with
    | [] => .inl (⟨#[]⟩, 157)
    | a :: t => restG pr r a t
def RoPost (w0 : World) (b : Nat) (a : Ans) (e : Ending) (w' : World) : Prop := match a with
  | .inl x => e = .returned (.tuple #[.string x.1, .int .i64 x.2]) ∧ x.2 ≠ 0 ∧ Below w0.heap.size w0 w'
  | .inr c => e = .returned (.tuple #[.string ⟨#[]⟩, .int .i64 0]) ∧ Below w0.heap.size w0 w' ∧ ∃ ws g n ps, w'.heap[b]? = some (.cells #[ws, .int .i64 c.prog, .int .u8 (c.op.toNat : Int), .bool c.vb, .bool c.up, .bool c.qu, .bool c.det, .bool c.dat, .bool c.bare, .bool c.thin, .int .i64 c.kind, .int .i64 c.wh, .string c.anc, .string c.arc, .slice (some ⟨g, 0, none⟩) n n, ps] 43 (0, 0)) ∧ OwnT w0.heap.size w' (.slice (some ⟨g, 0, none⟩) n n) c.nms
theorem whOf_ne {p : UInt8} (h : p ≠ 0) : (whOf p != 0) = true := by
  unfold whOf
  rw [if_neg h]
  split <;> rfl
theorem own_made {w : World} {B g : Nat} {L : List ByteArray} (hB : B ≤ g) (hl : L.length ≤ 67108864) (h : w.heap[g]? = some (.cells (L.flatMap txL).toArray 9 (0, 0))) : OwnT B w (.slice (some ⟨g, 0, none⟩) L.length L.length) L := by
  have e : (L.flatMap txL).length = L.length := by rw [flatG_len txL 1 txL_len, Nat.mul_one]
  refine ⟨by rw [e, Nat.mul_one], .inr ⟨g, L.length, (L.flatMap txL).toArray, rfl, hB, h, Nat.le_refl _, by unfold maxLen; omega, by simpa using e, ?_⟩⟩
  simp only [Nat.mul_one]
  rw [List.take_of_length_le (by simp [e])]
theorem spl_all (L : List ByteArray) : splice ((List.replicate L.length (⟨#[]⟩ : ByteArray)).flatMap txL) 0 (L.flatMap txL) = L.flatMap txL := by
  unfold splice
  rw [List.take_zero, List.nil_append, Nat.zero_add, List.drop_eq_nil_of_le, List.append_nil]
  rw [flatG_len txL 1 txL_len, flatG_len txL 1 txL_len, List.length_replicate]
  exact Nat.le_refl _
set_option maxHeartbeats 4000000 in
theorem ro_a (w0 : World) (b : Nat) (w : World) (pr : Int) (r : Rd) (x : ByteArray) (t : List ByteArray) (h : Ln w0 b w pr r ⟨#[]⟩ ⟨#[]⟩ (x :: t)) (h0 : r.po = 0) (hl : t.length ≤ 16777216) :
    Calls Tryd.prog 24 #[.pointer (some ⟨b, 0, none⟩)] w (RoPost w0 b (.inr (cmLn pr r ⟨#[]⟩ x t))) := by
  obtain ⟨a, n, c, g1, g2⟩ := h.box
  unfold lnRow at g2
  have hw0 : whOf r.po = 0 := by rw [h0]; rfl
  have c11 := cell_rowK g2 11 _ rfl
  rw [hw0] at c11
  have HN := hidK (next_yes_anyW w0 b w pr r ⟨#[]⟩ ⟨#[]⟩ x t h rfl)
  clear g1 g2 hw0 h0 h
  go_enter Tryd.func24, Tryd.ntmps24
  go_upto_region 9 with (go_at_call 32; refine HN.out.mono ?_; rintro e w1 ⟨rfl, l1, k1⟩)
  obtain ⟨a1, n1, c1, r1, g1⟩ := l1.box
  have hn1 : n1 = t.length := by obtain ⟨_, _, e, _⟩ := r1; injection e
  subst hn1
  unfold lnRow at g1
  have HR1 := hidK r1
  clear r1
  go_upto_region 10 with (refine wpList_store_kz rfl rfl _ _ _ rfl b 13 (.string x) rfl rfl _ _ #[.slice a1 t.length c1, .int .i64 pr, .int .u8 ((opF r.op r.s).toNat : Int), .bool r.vb, .bool r.up, .bool r.qu, .bool r.det, .bool r.dat, .bool r.bare, .bool r.thin, .int .i64 r.kind, .int .i64 (whOf r.po), .string ⟨#[]⟩, .string x, .slice none 0 0, .string (byB (poL r.po))] g1 (by kernel_rfl) rfl rfl rfl ?_; intro W2 S2 q2)
  have c0 := cell_rowK S2 0 _ rfl
  have HMK := mk_texts t.length (by omega)
  have hbW : b < W2.heap.size := (Array.getElem?_eq_some_iff.1 S2).1
  have S3 := hupK S2 (.cells ((List.replicate t.length (⟨#[]⟩ : ByteArray)).flatMap txL).toArray 9)
  have HN3 := hidK (heap_alloc_new W2 (.cells ((List.replicate t.length (⟨#[]⟩ : ByteArray)).flatMap txL).toArray 9))
  have HB2 := hidK (q2.belowN l1.bel l1.lo (Nat.le_refl _))
  clear S2 g1
  go_upto_region 11 with (refine wpList_store_kz rfl rfl _ _ _ rfl b 14 (.slice (some ⟨W2.heap.size, 0, none⟩) t.length t.length) rfl rfl _ _ #[.slice a1 t.length c1, .int .i64 pr, .int .u8 ((opF r.op r.s).toNat : Int), .bool r.vb, .bool r.up, .bool r.qu, .bool r.det, .bool r.dat, .bool r.bare, .bool r.thin, .int .i64 r.kind, .int .i64 (whOf r.po), .string ⟨#[]⟩, .string x, .slice (some ⟨W2.heap.size, 0, none⟩) t.length t.length, .string (byB (poL r.po))] S3 (by kernel_rfl) rfl rfl rfl ?_; intro W4 S4 q4)
  have HN4 : Hid (W4.heap[W2.heap.size]? = some (.cells ((List.replicate t.length (⟨#[]⟩ : ByteArray)).flatMap txL).toArray 9 (0, 0))) := q4.keeps (by omega) HN3.out
  have hB4 : Below w0.heap.size w0 W4 := q4.belowN (HB2.out.alloc HB2.out.size _) l1.lo (Nat.le_refl _)
  have HS4 := hidK S4
  have d0 := cell_rowK S4 0 _ rfl
  have d14 := cell_rowK S4 14 _ rfl
  have HB4 := hidK hB4
  have HR4 := hidK (HR1.out.on hB4)
  have hg4 : W2.heap.size < W4.heap.size := (Array.getElem?_eq_some_iff.1 HN4.out).1
  have hw2 : w0.heap.size ≤ W2.heap.size := HB2.out.size
  have KB : Hid (∀ W', Below W2.heap.size W4 W' → W'.cell? ⟨b, 0, none⟩ = some (.slice a1 t.length c1) ∧ W'.cell? ⟨b, 14, none⟩ = some (.slice (some ⟨W2.heap.size, 0, none⟩) t.length t.length) ∧ Below W2.heap.size W4 W') := fun W' hb => ⟨(hb.cell (p := ⟨b, 0, none⟩) hbW).trans d0, (hb.cell (p := ⟨b, 14, none⟩) hbW).trans d14, hb⟩
  have HPO : Hid (0 < (t.flatMap txL).length → (some (⟨W2.heap.size, 0, none⟩ : Addr)) = some ⟨W2.heap.size, 0, none⟩ ∧ ∃ ad, a1 = some ad ∧ ∀ j v, (t.flatMap txL)[j]? = some v → W4.drew.cell? (ad.add j) = some v) := by
    intro hp
    refine ⟨rfl, ?_⟩
    obtain ⟨ao, cp, e, _, _, _, h4⟩ := HR1.out
    injection e with e1 e2 e3
    rw [flatG_len txL 1 txL_len, Nat.mul_one] at hp
    obtain ⟨b9, o9, e4, hc⟩ := h4 hp
    subst e4
    refine ⟨⟨b9, o9, none⟩, e1, fun j v hv => ?_⟩
    have h8 := cell_onG (hc j v hv) HB4.out
    rw [Addr.add_mid]
    exact h8
  clear S4 S3 q4 q2 HN3 HMK c0 hB4 HR1 HB2 HR4
  go_region_held3 (fun w' : World => w'.cell? ⟨b, 0, none⟩ = some (.slice a1 t.length c1) ∧ w'.cell? ⟨b, 14, none⟩ = some (.slice (some ⟨W2.heap.size, 0, none⟩) t.length t.length) ∧ Below W2.heap.size W4 w') (first | exact KB.out _ hb9 | exact KB.out _ (Below.refl _ _).drew) ((refine step_copy_spliceZ rfl (.tmp 54) (.tmp 58) 22 22 rfl 9 1 (by decide) Tryd.underlying22 (by kernel_rfl) (some ⟨W2.heap.size, 0, none⟩) a1 t.length t.length t.length c1 rfl rfl W2.heap.size 0 ((List.replicate t.length (⟨#[]⟩ : ByteArray)).flatMap txL) 9 HN4.out (t.flatMap txL) (by rw [flatG_len txL 1 txL_len]; exact congrArg (fun k => k * 1) (Nat.min_self _).symm) HPO.out (by rw [flatG_len txL 1 txL_len, flatG_len txL 1 txL_len, List.length_replicate]; omega) (flatG_one txL_one t) W2.heap.size W4 (Below.refl _ _).drew (Nat.le_refl _) ?_; intro w9 hs9 hb9))
  go_wp2
  go_ret2
  rw [spl_all] at hs9
  exact ⟨rfl, HB4.out.trans (hb9.mono hw2), _, _, _, _, (hb9.block b hbW).trans HS4.out, own_made hw2 (Nat.le_trans hl (by decide)) hs9.out⟩
set_option maxHeartbeats 4000000 in
theorem ro_b (w0 : World) (b : Nat) (w : World) (pr : Int) (r : Rd) (y x : ByteArray) (t : List ByteArray) (h : Ln w0 b w pr r ⟨#[]⟩ ⟨#[]⟩ (y :: x :: t)) (h0 : r.po ≠ 0) (hl : t.length ≤ 16777216) :
    Calls Tryd.prog 24 #[.pointer (some ⟨b, 0, none⟩)] w (RoPost w0 b (.inr (cmLn pr r y x t))) := by
  obtain ⟨a, n, c, g1, g2⟩ := h.box
  unfold lnRow at g2
  have hw0 : (whOf r.po != 0) = true := whOf_ne h0
  have c11 := cell_rowK g2 11 _ rfl
  have HN := hidK (next_yes_anyW w0 b w pr r ⟨#[]⟩ ⟨#[]⟩ y (x :: t) h rfl)
  have HNN : Hid (∀ W, Ln w0 b W pr r y ⟨#[]⟩ (x :: t) → Calls Tryd.prog 32 #[.pointer (some ⟨b, 0, none⟩), .func (.func 34) #[] #[]] W fun e w' => e = .returned (.tuple #[.string x, .bool true]) ∧ Ln w0 b w' pr r y ⟨#[]⟩ t ∧ Kq b W w') := fun W hW => next_yes_anyW w0 b W pr r y ⟨#[]⟩ x t hW rfl
  clear g1 g2 h0 h
  go_enter Tryd.func24, Tryd.ntmps24
  go_upto_region 5 with (go_at_call 32; refine HN.out.mono ?_; rintro e w1 ⟨rfl, l1, k1⟩)
  obtain ⟨a5, n5, c5, r5, g5⟩ := l1.box
  unfold lnRow at g5
  go_upto_region 6 with (refine wpList_store_kz rfl rfl _ _ _ rfl b 12 (.string y) rfl rfl _ _ #[.slice a5 n5 c5, .int .i64 pr, .int .u8 ((opF r.op r.s).toNat : Int), .bool r.vb, .bool r.up, .bool r.qu, .bool r.det, .bool r.dat, .bool r.bare, .bool r.thin, .int .i64 r.kind, .int .i64 (whOf r.po), .string y, .string ⟨#[]⟩, .slice none 0 0, .string (byB (poL r.po))] g5 (by kernel_rfl) rfl rfl rfl ?_; intro W1 S1 q1)
  have l5 : Ln w0 b W1 pr r y ⟨#[]⟩ (x :: t) := l1.turn q1 l1.ops ⟨_, _, _, r5, S1⟩
  have HL5 := hidK (HNN.out W1 l5)
  clear c11 hw0 g5 r5 S1 HN HNN
  go_upto_region 9 with (go_at_call 32; refine HL5.out.mono ?_; rintro e w5 ⟨rfl, l6, k6⟩)
  obtain ⟨a1, n1, c1, r1, g1⟩ := l6.box
  have hn1 : n1 = t.length := by obtain ⟨_, _, e, _⟩ := r1; injection e
  subst hn1
  unfold lnRow at g1
  have HR1 := hidK r1
  clear r1
  go_upto_region 10 with (refine wpList_store_kz rfl rfl _ _ _ rfl b 13 (.string x) rfl rfl _ _ #[.slice a1 t.length c1, .int .i64 pr, .int .u8 ((opF r.op r.s).toNat : Int), .bool r.vb, .bool r.up, .bool r.qu, .bool r.det, .bool r.dat, .bool r.bare, .bool r.thin, .int .i64 r.kind, .int .i64 (whOf r.po), .string y, .string x, .slice none 0 0, .string (byB (poL r.po))] g1 (by kernel_rfl) rfl rfl rfl ?_; intro W2 S2 q2)
  have c0 := cell_rowK S2 0 _ rfl
  have HMK := mk_texts t.length (by omega)
  have hbW : b < W2.heap.size := (Array.getElem?_eq_some_iff.1 S2).1
  have S3 := hupK S2 (.cells ((List.replicate t.length (⟨#[]⟩ : ByteArray)).flatMap txL).toArray 9)
  have HN3 := hidK (heap_alloc_new W2 (.cells ((List.replicate t.length (⟨#[]⟩ : ByteArray)).flatMap txL).toArray 9))
  have HB2 := hidK (q2.belowN l6.bel l6.lo (Nat.le_refl _))
  clear S2 g1
  go_upto_region 11 with (refine wpList_store_kz rfl rfl _ _ _ rfl b 14 (.slice (some ⟨W2.heap.size, 0, none⟩) t.length t.length) rfl rfl _ _ #[.slice a1 t.length c1, .int .i64 pr, .int .u8 ((opF r.op r.s).toNat : Int), .bool r.vb, .bool r.up, .bool r.qu, .bool r.det, .bool r.dat, .bool r.bare, .bool r.thin, .int .i64 r.kind, .int .i64 (whOf r.po), .string y, .string x, .slice (some ⟨W2.heap.size, 0, none⟩) t.length t.length, .string (byB (poL r.po))] S3 (by kernel_rfl) rfl rfl rfl ?_; intro W4 S4 q4)
  have HN4 : Hid (W4.heap[W2.heap.size]? = some (.cells ((List.replicate t.length (⟨#[]⟩ : ByteArray)).flatMap txL).toArray 9 (0, 0))) := q4.keeps (by omega) HN3.out
  have hB4 : Below w0.heap.size w0 W4 := q4.belowN (HB2.out.alloc HB2.out.size _) l6.lo (Nat.le_refl _)
  have HS4 := hidK S4
  have d0 := cell_rowK S4 0 _ rfl
  have d14 := cell_rowK S4 14 _ rfl
  have HB4 := hidK hB4
  have HR4 := hidK (HR1.out.on hB4)
  have hg4 : W2.heap.size < W4.heap.size := (Array.getElem?_eq_some_iff.1 HN4.out).1
  have hw2 : w0.heap.size ≤ W2.heap.size := HB2.out.size
  have KB : Hid (∀ W', Below W2.heap.size W4 W' → W'.cell? ⟨b, 0, none⟩ = some (.slice a1 t.length c1) ∧ W'.cell? ⟨b, 14, none⟩ = some (.slice (some ⟨W2.heap.size, 0, none⟩) t.length t.length) ∧ Below W2.heap.size W4 W') := fun W' hb => ⟨(hb.cell (p := ⟨b, 0, none⟩) hbW).trans d0, (hb.cell (p := ⟨b, 14, none⟩) hbW).trans d14, hb⟩
  have HPO : Hid (0 < (t.flatMap txL).length → (some (⟨W2.heap.size, 0, none⟩ : Addr)) = some ⟨W2.heap.size, 0, none⟩ ∧ ∃ ad, a1 = some ad ∧ ∀ j v, (t.flatMap txL)[j]? = some v → W4.drew.cell? (ad.add j) = some v) := by
    intro hp
    refine ⟨rfl, ?_⟩
    obtain ⟨ao, cp, e, _, _, _, h4⟩ := HR1.out
    injection e with e1 e2 e3
    rw [flatG_len txL 1 txL_len, Nat.mul_one] at hp
    obtain ⟨b9, o9, e4, hc⟩ := h4 hp
    subst e4
    refine ⟨⟨b9, o9, none⟩, e1, fun j v hv => ?_⟩
    have h8 := cell_onG (hc j v hv) HB4.out
    rw [Addr.add_mid]
    exact h8
  clear S4 S3 q4 q2 HN3 HMK c0 hB4 HR1 HB2 HR4
  go_region_held3 (fun w' : World => w'.cell? ⟨b, 0, none⟩ = some (.slice a1 t.length c1) ∧ w'.cell? ⟨b, 14, none⟩ = some (.slice (some ⟨W2.heap.size, 0, none⟩) t.length t.length) ∧ Below W2.heap.size W4 w') (first | exact KB.out _ hb9 | exact KB.out _ (Below.refl _ _).drew) ((refine step_copy_spliceZ rfl (.tmp 54) (.tmp 58) 22 22 rfl 9 1 (by decide) Tryd.underlying22 (by kernel_rfl) (some ⟨W2.heap.size, 0, none⟩) a1 t.length t.length t.length c1 rfl rfl W2.heap.size 0 ((List.replicate t.length (⟨#[]⟩ : ByteArray)).flatMap txL) 9 HN4.out (t.flatMap txL) (by rw [flatG_len txL 1 txL_len]; exact congrArg (fun k => k * 1) (Nat.min_self _).symm) HPO.out (by rw [flatG_len txL 1 txL_len, flatG_len txL 1 txL_len, List.length_replicate]; omega) (flatG_one txL_one t) W2.heap.size W4 (Below.refl _ _).drew (Nat.le_refl _) ?_; intro w9 hs9 hb9))
  go_wp2
  go_ret2
  rw [spl_all] at hs9
  exact ⟨rfl, HB4.out.trans (hb9.mono hw2), _, _, _, _, (hb9.block b hbW).trans HS4.out, own_made hw2 (Nat.le_trans hl (by decide)) hs9.out⟩
theorem ro_a0 (w0 : World) (b : Nat) (w : World) (pr : Int) (r : Rd) (h : Ln w0 b w pr r ⟨#[]⟩ ⟨#[]⟩ []) (h0 : r.po = 0) :
    Calls Tryd.prog 24 #[.pointer (some ⟨b, 0, none⟩)] w (RoPost w0 b (.inl (⟨#[]⟩, 156))) := by
  obtain ⟨a, n, c, g1, g2⟩ := h.box
  unfold lnRow at g2
  have hw0 : whOf r.po = 0 := by rw [h0]; rfl
  have c11 := cell_rowK g2 11 _ rfl
  rw [hw0] at c11
  have HN := hidK (next_nil_anyW w0 b w pr r ⟨#[]⟩ ⟨#[]⟩ h)
  have HB := hidK h.bel
  clear g1 g2 hw0 h0 h
  go_enter Tryd.func24, Tryd.ntmps24
  go_wp2_with (go_at_call 32; refine HN.out.mono ?_; rintro e w1 ⟨rfl, hw1⟩; rw [hw1]; clear hw1)
  go_ret2
  exact ⟨rfl, show (156 : Int) ≠ 0 from by decide, HB.out⟩
theorem ro_b0 (w0 : World) (b : Nat) (w : World) (pr : Int) (r : Rd) (h : Ln w0 b w pr r ⟨#[]⟩ ⟨#[]⟩ []) (h0 : r.po ≠ 0) :
    Calls Tryd.prog 24 #[.pointer (some ⟨b, 0, none⟩)] w (RoPost w0 b (.inl (⟨#[]⟩, 157))) := by
  obtain ⟨a, n, c, g1, g2⟩ := h.box
  unfold lnRow at g2
  have hw0 : (whOf r.po != 0) = true := whOf_ne h0
  have c11 := cell_rowK g2 11 _ rfl
  have HN := hidK (next_nil_anyW w0 b w pr r ⟨#[]⟩ ⟨#[]⟩ h)
  have HB := hidK h.bel
  clear g1 g2 h0 h
  go_enter Tryd.func24, Tryd.ntmps24
  go_wp2_with (go_at_call 32; refine HN.out.mono ?_; rintro e w1 ⟨rfl, hw1⟩; rw [hw1]; clear hw1)
  go_ret2
  exact ⟨rfl, show (157 : Int) ≠ 0 from by decide, HB.out⟩
theorem ro_b1 (w0 : World) (b : Nat) (w : World) (pr : Int) (r : Rd) (y : ByteArray) (h : Ln w0 b w pr r ⟨#[]⟩ ⟨#[]⟩ [y]) (h0 : r.po ≠ 0) :
    Calls Tryd.prog 24 #[.pointer (some ⟨b, 0, none⟩)] w (RoPost w0 b (.inl (⟨#[]⟩, 156))) := by
  obtain ⟨a, n, c, g1, g2⟩ := h.box
  unfold lnRow at g2
  have hw0 : (whOf r.po != 0) = true := whOf_ne h0
  have c11 := cell_rowK g2 11 _ rfl
  have HN := hidK (next_yes_anyW w0 b w pr r ⟨#[]⟩ ⟨#[]⟩ y [] h rfl)
  have HNN : Hid (∀ W, Ln w0 b W pr r y ⟨#[]⟩ [] → Calls Tryd.prog 32 #[.pointer (some ⟨b, 0, none⟩), .func (.func 34) #[] #[]] W fun e w' => e = .returned (.tuple #[.string ⟨#[]⟩, .bool false]) ∧ w' = W) := fun W hW => next_nil_anyW w0 b W pr r y ⟨#[]⟩ hW
  clear g1 g2 h0 h
  go_enter Tryd.func24, Tryd.ntmps24
  go_upto_region 5 with (go_at_call 32; refine HN.out.mono ?_; rintro e w1 ⟨rfl, l1, k1⟩)
  obtain ⟨a5, n5, c5, r5, g5⟩ := l1.box
  unfold lnRow at g5
  go_upto_region 6 with (refine wpList_store_kz rfl rfl _ _ _ rfl b 12 (.string y) rfl rfl _ _ #[.slice a5 n5 c5, .int .i64 pr, .int .u8 ((opF r.op r.s).toNat : Int), .bool r.vb, .bool r.up, .bool r.qu, .bool r.det, .bool r.dat, .bool r.bare, .bool r.thin, .int .i64 r.kind, .int .i64 (whOf r.po), .string y, .string ⟨#[]⟩, .slice none 0 0, .string (byB (poL r.po))] g5 (by kernel_rfl) rfl rfl rfl ?_; intro W1 S1 q1)
  have l5 : Ln w0 b W1 pr r y ⟨#[]⟩ [] := l1.turn q1 l1.ops ⟨_, _, _, r5, S1⟩
  have HL5 := hidK (HNN.out W1 l5)
  have HB := hidK l5.bel
  clear c11 hw0 g5 r5 S1 HN HNN
  go_wp2_with (go_at_call 32; refine HL5.out.mono ?_; rintro e w5 ⟨rfl, hw1⟩; rw [hw1]; clear hw1)
  go_ret2
  exact ⟨rfl, show (156 : Int) ≠ 0 from by decide, HB.out⟩
theorem operands_c (w0 : World) (b : Nat) (w : World) (pr : Int) (r : Rd) (L : List ByteArray) (h : Ln w0 b w pr r ⟨#[]⟩ ⟨#[]⟩ L) (hl : L.length ≤ 16777216) :
    Calls Tryd.prog 24 #[.pointer (some ⟨b, 0, none⟩)] w (RoPost w0 b (lastG pr r L)) := by
  unfold lastG
  by_cases h0 : r.po = 0
  · rw [if_pos h0]
    cases L with
    | nil => exact ro_a0 w0 b w pr r h h0
    | cons x t => exact ro_a w0 b w pr r x t h h0 (by simp only [List.length_cons] at hl; omega)
  · rw [if_neg h0]
    cases L with
    | nil => exact ro_b0 w0 b w pr r h h0
    | cons y u =>
      cases u with
      | nil => exact ro_b1 w0 b w pr r y h h0
      | cons x t => exact ro_b w0 b w pr r y x t h h0 (by simp only [List.length_cons] at hl; omega)
end Go.Proofs.YtmhamlhmmkbkaaaDoor

-- Plain: the landed steps come to what a line means.
namespace Go.Proofs.YtmhamlhmmkbkaaaDoor
set_option linter.unusedVariables false
set_option maxRecDepth 100000
set_option linter.unusedSimpArgs false
def mixQ (r : Rd) : List UInt8 := mixL (opF r.op r.s) (whOf r.po) r.up r.det r.thin r.kind r.dat r.qu r.bare (poL r.po)
def ar3 (r : Rd) (L : List ByteArray) : Ans := lastG 0 r L
def ar2 (r : Rd) (L : List ByteArray) : Ans := if mixQ r = [] then ar3 r L else .inl (byB (mixQ r), 155)
def ar1 (r : Rd) (L : List ByteArray) : Ans := match keyG r L with
  | .inl x => .inl x
  | .inr q => ar2 q.1 q.2
def ar0 (r : Rd) (L : List ByteArray) : Ans := match optR r L with
  | .inl x => .inl (x, 154)
  | .inr q => ar1 q.1 q.2
theorem fin_mix (r : Rd) : mixR (fin r) = mixQ r := by
  unfold mixR mixQ
  rw [opF_fin]
  unfold fin
  split <;> rfl
theorem fin_cm (r : Rd) (a b : ByteArray) (t : List ByteArray) : ({ cmOf (fin r) a with arc := b, nms := t } : Cm) = cmLn 0 r a b t := by
  unfold cmOf cmLn
  rw [opF_fin]
  unfold fin
  split <;> rfl
theorem fin_po (r : Rd) : (fin r).po = r.po := by unfold fin; split <;> rfl
theorem rest_eq (r : Rd) (a : ByteArray) (t : List ByteArray) : restC (cmOf (fin r) a) t = restG 0 r a t := by
  cases t with
  | nil => rfl
  | cons b u =>
    show Sum.inr _ = Sum.inr _
    rw [fin_cm]
theorem last_eq (r : Rd) (t : List ByteArray) : lastC (fin r) t = lastG 0 r t := by
  unfold lastC lastG
  rw [fin_po, rest_eq]
  by_cases h : r.po = 0
  · rw [if_pos h, if_pos h]
  · rw [if_neg h, if_neg h]
    cases t with
    | nil => rfl
    | cons a u => exact rest_eq r a u
theorem key_eq (r : Rd) (L : List ByteArray) : keyR r L = match keyG r L with
    | .inl x => .inl x
    | .inr q => .inr (fin q.1, q.2) := by
  cases L with
  | nil => rfl
  | cons k t =>
    unfold keyR
    dsimp only
    rw [← foldG_B, foldG_app]
    cases hf : foldG stB r (letL (und k)) with
    | inl x => rw [keyG_1 hf]
    | inr r1 =>
      simp only []
      cases hk : kwR stB r1 t with
      | inl x =>
        rw [keyG_2 hf hk]
        have hk2 := hk
        unfold kwR at hk2
        cases hd : foldG stB r1 (dashL t) with
        | inl y => rw [hd] at hk2; injection hk2 with hk2; subst hk2; rfl
        | inr r2 => rw [hd] at hk2; cases hk2
      | inr q =>
        have hk2 := hk
        unfold kwR at hk2
        cases hd : foldG stB r1 (dashL t) with
        | inl y => rw [hd] at hk2; cases hk2
        | inr r2 =>
          rw [hd] at hk2
          injection hk2 with hk2
          subst hk2
          by_cases ho : opF r2.op r2.s = 0
          · rw [keyG_3 hf hk ho]
            simp only []
            rw [opF_fin, if_pos ho]
          · rw [keyG_4 hf hk ho]
            simp only []
            rw [opF_fin, if_neg ho]
theorem ar_eq (t : List ByteArray) : arC t = ar0 rd0 t := by
  unfold arC ar0
  cases optR rd0 t with
  | inl w => rfl
  | inr q =>
    obtain ⟨r, t1⟩ := q
    simp only []
    unfold ar1
    rw [key_eq]
    cases keyG r t1 with
    | inl x => rfl
    | inr q =>
      simp only []
      unfold ar2 ar3
      rw [fin_mix, last_eq]
theorem stR_eq (r : Rd) (x : List UInt8) : stG stR r x = if x = [68] then .inr { r with det := true } else .inl 153 := by
  cases x with
  | nil => rfl
  | cons a t =>
    cases t with
    | nil =>
      show stR r a = _
      unfold stR
      by_cases h : a = 68
      · subst h; rfl
      · rw [if_neg h, if_neg (fun q => h (by injection q))]
    | cons c u =>
      show Sum.inl 153 = _
      rw [if_neg (fun q => by injection q with _ q; cases q)]
theorem ranF_eq (l : List (List UInt8)) : ∀ r : Rd, foldG stR r l = match ranF r.det l with
    | .inl x => .inl (x, 153)
    | .inr d => .inr { r with det := d } := by
  induction l with
  | nil => intro r; rfl
  | cons x xs ih =>
    intro r
    rw [foldG.eq_2, stR_eq]
    unfold ranF
    by_cases h : x = [68]
    · rw [if_pos h, if_pos h]
      simp only []
      rw [ih]
    · rw [if_neg h, if_neg h]
def rdRan : Rd := { rd0 with s := true }
def ranG (L : List ByteArray) : Ans := match kwR stR rdRan L with
  | .inl x => .inl (byB x.1, x.2)
  | .inr q => lastG 1 q.1 q.2
theorem ran_eq (t : List ByteArray) : ranC t = ranG t := by
  unfold ranC ranG kwR
  rw [ranF_eq]
  cases hd : ranF rdRan.det (dashL t) with
  | inl x =>
    have : ranF false (dashL t) = .inl x := hd
    rw [this]
  | inr d =>
    have : ranF false (dashL t) = .inr d := hd
    rw [this]
    simp only []
    cases t.dropWhile dsh with
    | nil => rfl
    | cons a u => rfl
theorem dec_eq (p : ByteArray) (t : List ByteArray) : decC (p :: t) = if p = wAr then ar0 rd0 t else if p = wRan then ranG t else .inl (p, 150) := by
  unfold decC
  dsimp only
  by_cases h : p = wRan
  · rw [if_pos h, if_neg (by rw [h]; decide), if_pos h, ran_eq]
  · rw [if_neg h]
    by_cases h2 : p = wAr
    · rw [if_pos h2, if_pos h2, ar_eq]
    · rw [if_neg h2, if_neg h2, if_neg h]
end Go.Proofs.YtmhamlhmmkbkaaaDoor
