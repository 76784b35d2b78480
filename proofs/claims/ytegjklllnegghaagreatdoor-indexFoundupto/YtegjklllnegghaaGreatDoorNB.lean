
-- slices.SortFunc at nameAll's closure: a contract.
import Derived.Test.YtegjklllnegghaaGreatDoorNA
namespace Go.Proofs.YtegjklllnegghaaGreatDoor
open Go.ChangeShapes Go.WideShapes Go.ChangeAt Go.RowKit
set_option linter.unusedVariables false
set_option maxRecDepth 100000
def encF (n : Nat) (i : Fin n) : Value := .int .i64 (i.val : Int)
def cfF (n : Nat) (bg : Nat → Nat) (x y : Fin n) : Int := Lib.compareInt (bg x.val : Nat) (bg y.val : Nat)
theorem ltF (n : Nat) (bg : Nat → Nat) (x y : Fin n) : ltOf (cfF n bg) x y = decide (bg x.val < bg y.val) := by
  unfold ltOf cfF Lib.compareInt
  by_cases h1 : (bg x.val : Int) < (bg y.val : Int)
  · have : bg x.val < bg y.val := by omega
    simp [h1, this]
  · have : ¬ bg x.val < bg y.val := by omega
    by_cases h2 : (bg y.val : Int) < (bg x.val : Int) <;> simp [h1, h2, this]
theorem swoF (n : Nat) (bg : Nat → Nat) [Inhabited (Fin n)] : Go.Sort.SWO (ltOf (cfF n bg)) where
  irrefl x := by rw [ltF]; simp
  trans x y z h1 h2 := by rw [ltF] at *; simp at *; omega
  ntrans x y z h1 h2 := by rw [ltF] at *; simp at *; omega
theorem heap_put {α : Type} [Inhabited α] (enc : α → Value) (w : World) (blk m : Nat) (dk : Array α) (os : Array Obj) (b : Nat) (hb : b ≠ blk) (hl : b < w.heap.size) : (sortWorld enc w blk 0 m dk os).heap[b]? = w.heap[b]? := by
  unfold sortWorld Go.Sort.grow Go.Sort.putRow Go.Sort.mapBlock Go.Sort.ahead
  simp only []
  rw [Array.getElem?_append_left (by simpa using hl), Array.getElem?_modify, if_neg (Ne.symm hb)]
theorem cell_put {α : Type} [Inhabited α] (enc : α → Value) (w : World) (blk m : Nat) (dk : Array α) (os : Array Obj) (b o : Nat) (v : Value) (hb : b ≠ blk) (h : w.cell? ⟨b, o, none⟩ = some v) : (sortWorld enc w blk 0 m dk os).cell? ⟨b, o, none⟩ = some v := by
  have hl := World.block_lt_of_cell? _ _ h
  have := heap_put enc w blk m dk os b hb hl
  simp only [World.cell?] at h ⊢
  rw [this]; exact h
set_option maxHeartbeats 2000000 in
theorem sort_c (B G U c m : Nat) (bg : Nat → Nat) (w : World) (hn : m + 1 ≤ 67108864) (hB : w.cell? ⟨B, 0, none⟩ = some (.slice (some ⟨G, 0, none⟩) (m + 1) c)) (hG : ∀ j, j < m + 1 → w.cell? ⟨G, j, none⟩ = some (.int .i64 (bg j : Nat)))
    (hUB : B ≠ U) (hUG : G ≠ U) (cu : Array Value) (hU : w.heap[U]? = some (.cells cu 3 (0, 0))) (hc : ∀ j, j < m + 1 → cu[j]? = some (.int .i64 j)) :
    Calls Tryz.prog 70 #[.slice (some ⟨U, 0, none⟩) (m + 1 : Nat) (m + 1 : Nat), .func (.func 71) #[] #[.pointer (some ⟨B, 0, none⟩)]] w fun e w' => e = .returned (.tuple #[]) ∧ Kq U w w' ∧
      ∃ p : Nat → Nat, (∀ i, i < m + 1 → p i < m + 1) ∧ (∀ i, i < m + 1 → ∃ j, j < m + 1 ∧ p j = i) ∧ (∀ i j, i < j → j < m + 1 → bg (p i) ≤ bg (p j)) ∧ (∀ j, j < m + 1 → w'.cell? ⟨U, j, none⟩ = some (.int .i64 (p j : Nat))) := by
  have hUl := (Array.getElem?_eq_some_iff.1 hU).1
  obtain ⟨d, hd⟩ : ∃ d : Array (Fin (m + 1)), d = Array.ofFn (fun i => i) := ⟨_, rfl⟩
  have hds : d.size = m + 1 := by rw [hd]; simp
  have hdj : ∀ j, (hj : j < m + 1) → d[j]! = ⟨j, hj⟩ := fun j hj => by
    have : d[j]? = some ⟨j, hj⟩ := by rw [hd]; simp [hj]
    simp [Array.getElem!_eq_getD, Array.getD_eq_getD_getElem?, this]
  have hH : Go.Sort.Holds (encF (m + 1)) w U 0 d := by
    intro j hj
    rw [hds] at hj
    refine ⟨?_, ?_⟩
    · rw [hdj j hj, Nat.zero_add]; exact cell_rowK hU j _ (hc j hj)
    · rw [Nat.zero_add]; simp [World.frozen?, hU]
  have eg : ∀ args w, (callFunc 71 args).run Tryz.prog w = .ok (.enter 71 args) w := enters_of Tryz.func71 (by kernel_rfl) rfl
  have hcmp : CmpReads Tryz.prog 71 #[.pointer (some ⟨B, 0, none⟩)] (encF (m + 1)) (cfF (m + 1) bg) U 0 d.size w := by
    intro q os dk _ x y
    exact clos_c B G (m + 1) c bg x.val y.val _ x.isLt y.isLt (cell_put _ w U q dk os B 0 _ hUB hB) (fun j hj => cell_put _ w U q dk os G j _ hUG (hG j hj)) hn
  have h := Tryz.slices_SortFunc (encF (m + 1)) (fun _ => rfl) (cfF (m + 1) bg) (swoF _ _) 71 #[.pointer (some ⟨B, 0, none⟩)] U 0 (m + 1) d w eg hcmp.lays hH hUl (by rw [hds]; omega)
  rw [hds] at h
  refine h.mono ?_
  rintro e w' ⟨rfl, d', q, os, hp, hs, rfl⟩
  have hds' : d'.size = m + 1 := by rw [hp.1, hds]
  refine ⟨rfl, ?_, fun j => (d'[j]!).val, fun i _ => (d'[i]!).isLt, ?_, ?_, ?_⟩
  · exact ⟨rfl, rfl, rfl, by unfold sortWorld Go.Sort.grow Go.Sort.putRow Go.Sort.mapBlock Go.Sort.ahead; simp, fun j hj hl => heap_put _ w U q d' os j hj hl⟩
  · intro i hi
    have hmem : (⟨i, hi⟩ : Fin (m + 1)) ∈ (d'.extract 0 (m + 1)).toList := by
      rw [hp.2.2.mem_iff]
      rw [show d.extract 0 (m + 1) = d by have h0 := Array.extract_size (xs := d); rwa [hds] at h0, hd, Array.toList_ofFn, List.mem_ofFn]
      exact ⟨_, rfl⟩
    obtain ⟨j, hj, e⟩ := List.mem_iff_getElem.1 hmem
    have hj' : j < m + 1 := by simpa [hds'] using hj
    refine ⟨j, hj', ?_⟩
    have hj2 : j < d'.size := by omega
    have : d'[j]! = ⟨i, hi⟩ := by
      rw [getElem!_pos d' j hj2, ← e]; simp
    show (d'[j]!).val = i
    rw [this]
  · intro i j hij hj
    have := hs i j (Nat.zero_le _) hij hj
    rw [ltF] at this
    simpa using this
  · intro j hj
    have := (holds_sortWorld (encF (m + 1)) w U 0 q d d' os hUl hH (by rw [hds', hds])) j (by omega)
    rw [Nat.zero_add] at this
    exact this.1
end Go.Proofs.YtegjklllnegghaaGreatDoor
