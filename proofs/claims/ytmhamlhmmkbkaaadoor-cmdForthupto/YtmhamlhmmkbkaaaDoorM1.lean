import Derived.Test.YtmhamlhmmkbkaaaDoorC0
import Derived.Test.YtmhamlhmmkbkaaaDoorRows
import Derived.WalkKit
import Derived.Deep.Slices
import Derived.ChangeSlices
import Derived.ProofKit
import Derived.OpenShut
import Derived.ChangeArms
import Derived.Shelf.Small.Strs
import Derived.Shelf.Strings.Search1
import Derived.Shelf.Strings.Prefix
import Derived.Shelf.Unicode.DecodeSlow
import Derived.Shelf.Unicode.DecodeAny
import Derived.Test.YtmhamlhmmkbkaaaDoorProg
import Derived.Test.YtmhamlhmmkbkaaaDoorDD
import Derived.Lib.LaidU8

-- Lists of texts as they are read, with what they hold; a command.
namespace Go.Proofs.YtmhamlhmmkbkaaaDoor
open Go.RowKit Go.ChangeShapes Go.Deep
set_option linter.unusedVariables false
set_option maxRecDepth 100000
theorem bulk_memM {H : Type} (l : List (DataW H)) (d : DataW H) (h : d ∈ l) : Rows.uptoBulk d ≤ Rows.uptoBulkAll l := by
  induction l with
  | nil => simp at h
  | cons x r ih =>
    simp only [Rows.uptoBulkAll]
    rcases List.mem_cons.1 h with rfl | h
    · omega
    · have := ih h; omega
theorem bulk_posM {H : Type} (d : DataW H) : 1 ≤ Rows.uptoBulk d := by
  cases d with
  | lit l => cases l <;> simp [Rows.uptoBulk]
  | _ => simp [Rows.uptoBulk]
theorem bulk_lenM {H : Type} (l : List (DataW H)) : l.length ≤ Rows.uptoBulkAll l := by
  induction l with
  | nil => simp [Rows.uptoBulkAll]
  | cons x r ih => simp only [Rows.uptoBulkAll, List.length_cons]; have := bulk_posM x; omega
theorem cellsIM : Tryd.prog.cellsOf 3 = 1 := by kernel_rfl
theorem cellsSM : Tryd.prog.cellsOf 9 = 1 := by kernel_rfl
theorem add_offM (b off k : Nat) : (⟨b, off, none⟩ : Addr).add k = ⟨b, off + k, none⟩ := by unfold Addr.add; split <;> simp_all
section
variable {H : Type} {enc : TypeId × Value → H} {w : World} {spare : Nat → Bool} {held : Bool}
/-- One member as it is read. -/
theorem sum_le_bulk {α : Type} (sz : α → Nat) (D : Nat → DataW H) (f : Nat → α) : ∀ n, (∀ i, i < n → sz (f i) ≤ Rows.uptoBulk (D i)) → (((List.range n).map f).map sz).sum ≤ Rows.uptoBulkAll ((List.range n).map D)
  | 0, _ => by simp
  | n + 1, h => by
    have ih := sum_le_bulk sz D f n (fun i hi => h i (by omega))
    rw [List.range_succ, List.map_append, List.map_append, List.sum_append_nat, List.map_append]
    have e : ∀ a b : List (DataW H), Rows.uptoBulkAll (a ++ b) = Rows.uptoBulkAll a + Rows.uptoBulkAll b := by
      intro a b
      induction a with
      | nil => simp [Rows.uptoBulkAll]
      | cons x r ih => simp only [List.cons_append, Rows.uptoBulkAll]; omega
    rw [e]
    have := h n (by omega)
    simp only [List.map_cons, List.map_nil, List.sum_cons, List.sum_nil, Rows.uptoBulkAll]
    omega
/-- A list as it is read. -/
theorem open_list {α : Type} (c : α → List Value) (z : Nat) (hz : 0 < z) (hc : ∀ x, (c x).length = z) (T E : TypeId) (hu : Tryd.prog.underlying T = some (.slice E)) (hcl : Tryd.prog.cellsOf E = z) (sz : α → Nat) (pr : α → Prop) (dflt : α)
    (open1 : ∀ (n b off : Nat) (cs : List Value) (x : DataW H × List MemPlace), w.cells? 0 ⟨b, off, none⟩ z = some cs → DataW.trod enc Tryd.prog w 0 spare held n E cs = some x → ∃ o : α, (∀ m u, (c o)[m]? = some u → w.cell? ⟨b, off + m, none⟩ = some u) ∧ sz o ≤ Rows.uptoBulk x.1 ∧ pr o)
    {fuel : Nat} {v : Value} {x : DataW H × List MemPlace} (h : DataW.trod enc Tryd.prog w 0 spare held fuel T [v] = some x) (hB : Rows.uptoBulk x.1 ≤ 1048576) :
    ∃ l : List α, RowG c w v l ∧ l.length ≤ 1048576 ∧ (l.map sz).sum ≤ 1048576 ∧ ∀ x ∈ l, pr x := by
  rcases open_slice hu h with ⟨hcs, _⟩ | ⟨a, len, cap, m, n, D, Pl, hcs, _, hl, hm, hmm, hx, hel⟩
  · cases hcs
    exact ⟨[], ⟨none, 0, rfl, Nat.le_refl _, by decide, fun _ => rfl, fun h => by simp at h⟩, by simp, by simp, by simp⟩
  · cases hcs
    have hlm : len ≤ m := by rw [hmm]; split <;> omega
    have hxb : Rows.uptoBulk x.1 = Rows.uptoBulkAll ((List.range len).map D) + Rows.uptoBulkAll ((List.range (m - len)).map fun j => D (len + j)) + 1 := by rw [hx]; simp only [Rows.uptoBulk]
    have hlen : len ≤ 1048576 := by
      have := bulk_lenM ((List.range len).map D)
      simp at this; omega
    rcases Nat.eq_zero_or_pos len with h0 | h0
    · subst h0
      exact ⟨[], ⟨some a, cap, rfl, Nat.zero_le _, hm, (fun h => by cases h), fun h => by simp at h⟩, by simp, by simp, by simp⟩
    · rw [hcl] at hel
      obtain ⟨b, off, spot⟩ := a
      have hs : spot = none := by
        obtain ⟨cs', h1, _⟩ := hel 0 (by omega)
        obtain ⟨_, hl1, hc1⟩ := World.cells?_some h1
        have := hc1 0 (by omega)
        rw [List.getElem?_eq_getElem (by omega)] at this
        simpa [Addr.add] using World.cell?_spot this
      subst hs
      have each : ∀ i, i < len → ∃ o : α, (∀ m u, (c o)[m]? = some u → w.cell? ⟨b, off + i * z + m, none⟩ = some u) ∧ sz o ≤ Rows.uptoBulk (D i) ∧ pr o := by
        intro i hi
        obtain ⟨cs', h1, h2⟩ := hel i (by omega)
        rw [add_offM] at h1
        obtain ⟨o, a1, a2, a3⟩ := open1 _ _ _ _ _ h1 h2
        exact ⟨o, a1, a2, a3⟩
      haveI : Inhabited α := ⟨dflt⟩
      obtain ⟨f, hf⟩ := choose_lt each
      have hgl : ((List.range len).map f).length = len := by simp
      refine ⟨(List.range len).map f, ⟨_, cap, by rw [hgl], by rw [hgl]; exact hl, hm, (fun h => by cases h), fun _ => ⟨b, off, rfl, fun j u hu => ?_⟩⟩, by rw [hgl]; exact hlen, ?_, ?_⟩
      · have hj : j < len * z := by have := (List.getElem?_eq_some_iff.1 hu).1; rwa [flatG_len c z hc, hgl] at this
        have hk : j / z < len := Nat.div_lt_of_lt_mul (by rw [Nat.mul_comm]; exact hj)
        have hmz : j % z < z := Nat.mod_lt _ hz
        have e : j = j / z * z + j % z := by have := Nat.div_add_mod j z; rw [Nat.mul_comm] at this; exact this.symm
        have hg : ((List.range len).map f)[j / z]? = some (f (j / z)) := by rw [List.getElem?_map, List.getElem?_range hk]; rfl
        have h2 := flatG_get hc ((List.range len).map f) (j / z) (j % z) _ hg hmz
        rw [← e, hu] at h2
        have h3 := (hf (j / z) hk).1 (j % z) u h2.symm
        rw [Nat.add_assoc, ← e] at h3
        exact h3
      · have := sum_le_bulk sz D f len (fun i hi => (hf i hi).2.1)
        omega
      · intro x hx
        obtain ⟨i, hi, rfl⟩ := List.mem_map.1 hx
        exact (hf i (List.mem_range.1 hi)).2.2
/-- One text as it is read. -/
theorem open_text1 {n : Nat} {b off : Nat} {cs : List Value} {x : DataW H × List MemPlace} (h1 : w.cells? 0 ⟨b, off, none⟩ 1 = some cs) (h : DataW.trod enc Tryd.prog w 0 spare held n 9 cs = some x) :
    ∃ o : ByteArray, (∀ m u, (txL o)[m]? = some u → w.cell? ⟨b, off + m, none⟩ = some u) ∧ o.size ≤ Rows.uptoBulk x.1 ∧ True := by
  obtain ⟨_, hlen, hcell⟩ := World.cells?_some h1
  obtain ⟨v0, rfl⟩ : ∃ v, cs = [v] := by
    match cs, hlen with
    | [v], _ => exact ⟨v, rfl⟩
  obtain ⟨s1, e1, z1, _⟩ := DataW.trod_string Tryd.underlying9 h
  cases e1
  refine ⟨s1, fun i u hu => ?_, ?_, trivial⟩
  · have hi : i < 1 := by
      rcases Nat.lt_or_ge i 1 with h' | h'
      · exact h'
      · rw [List.getElem?_eq_none (by simpa [txL] using h')] at hu; cases hu
    have := hcell i hi
    rw [add_offM] at this
    rw [this]; exact hu
  · rw [z1]
    simp only [Rows.uptoBulk, Array.length_toList]
    show s1.data.size ≤ _
    omega
/-- A list of texts as it is read. -/
theorem open_texts15 {fuel : Nat} {v : Value} {x : DataW H × List MemPlace} (h : DataW.trod enc Tryd.prog w 0 spare held fuel 22 [v] = some x) (hB : Rows.uptoBulk x.1 ≤ 1048576) :
    ∃ l : List ByteArray, RowT w v l ∧ l.length ≤ 1048576 ∧ totT l ≤ 1048576 :=
  (open_list txL 1 (by decide) txL_len _ _ Tryd.underlying22 cellsSM ByteArray.size (fun _ => True) ⟨#[]⟩ (fun n b off cs x h1 h2 => open_text1 h1 h2) h hB).elim fun l h => ⟨l, h.1, h.2.1, h.2.2.1⟩
end
end Go.Proofs.YtmhamlhmmkbkaaaDoor
-- Contracts of the library, laid at this program by the guide's command, in plain words.
namespace Go.Proofs
open Go.Shelf
def Tryd.lays260_ren : Go.Shelf.Ren := ⟨fun | 260 => 59 | n => n, fun | 9 => 9 | 21 => 21 | 3 => 3 | 4 => 4 | 5 => 5 | 119 => 75 | 0 => 0 | 46 => 76 | 139 => 79 | 138 => 78 | n => n, fun | 3 => 1 | 4 => 2 | n => n⟩
theorem Tryd.lays260 : Go.Proofs.Lays.n260 Tryd.prog Tryd.lays260_ren := {
  mixed := by kernel_rfl
  f260 := Tryd.func59.trans (congrArg some (by kernel_rfl))
  t0 := Tryd.underlying0
  a0 := Tryd.isAgg0
  z0 := Tryd.sizeOf0
  v0 := Tryd.zeroValue0
  t3 := Tryd.underlying3
  a3 := Tryd.isAgg3
  z3 := Tryd.sizeOf3
  v3 := Tryd.zeroValue3
  t4 := Tryd.underlying4
  a4 := Tryd.isAgg4
  z4 := Tryd.sizeOf4
  v4 := Tryd.zeroValue4
  t5 := Tryd.underlying5
  a5 := Tryd.isAgg5
  z5 := Tryd.sizeOf5
  v5 := Tryd.zeroValue5
  t9 := Tryd.underlying9
  a9 := Tryd.isAgg9
  z9 := Tryd.sizeOf9
  v9 := Tryd.zeroValue9
  t21 := Tryd.underlying21
  a21 := Tryd.isAgg21
  z21 := Tryd.sizeOf21
  v21 := Tryd.zeroValue21
  t46 := Tryd.underlying76
  a46 := Tryd.isAgg76
  z46 := Tryd.sizeOf76
  v46 := Tryd.zeroValue76
  t119 := Tryd.underlying75
  a119 := Tryd.isAgg75
  z119 := Tryd.sizeOf75
  t138 := Tryd.underlying78
  a138 := Tryd.isAgg78
  z138 := Tryd.sizeOf78
  v138 := Tryd.zeroValue78
  t139 := Tryd.underlying79
  a139 := Tryd.isAgg79
  z139 := Tryd.sizeOf79
  v139 := Tryd.zeroValue79
  g3 := by kernel_rfl
  g4 := by kernel_rfl }
end Go.Proofs

-- What the library's tables hold; Decode, whole.
namespace Go.Proofs.YtmhamlhmmkbkaaaDoor
open Go.ChangeShapes Go.WideShapes Go.ChangeAt Go.RowKit Go.Shelf
set_option linter.unusedVariables false
set_option maxRecDepth 100000
theorem u8x15 : U8Extra Tryd.prog Tryd.lays260_ren where
  n3 := by kernel_rfl
  n4 := by kernel_rfl
  y3 := by kernel_rfl
  y4 := by kernel_rfl
  c5 := by kernel_rfl
  c119 := by kernel_rfl
  c138 := by kernel_rfl
theorem first15 : (Rows.laid_unicode_utf8_first : DataW Unit) = Lib.firstData := by kernel_rfl
theorem accept15 : (Rows.laid_unicode_utf8_acceptRanges : DataW Unit) = Lib.acceptData := by kernel_rfl
theorem tabU_of {W : World} {l : List (String × DataW Unit)} (h : laidMet Tryd.prog l W) (h1 : ("unicode/utf8.first", Rows.laid_unicode_utf8_first) ∈ l) (h2 : ("unicode/utf8.acceptRanges", Rows.laid_unicode_utf8_acceptRanges) ∈ l) : TabU W := by
  have r1 := Lib.laidMet.reads h h1
  have r2 := Lib.laidMet.reads h h2
  rw [first15] at r1
  rw [accept15] at r2
  exact utf8Tabs_of_reads Tryd.lays260 u8x15 r1 r2
theorem drOk15 : DrOk := fun s w hT => Tryd.utf8_DecodeRuneInString s w hT
theorem Decode_ok : DecodeOkT 8 := Decode_okT drOk15
end Go.Proofs.YtmhamlhmmkbkaaaDoor
