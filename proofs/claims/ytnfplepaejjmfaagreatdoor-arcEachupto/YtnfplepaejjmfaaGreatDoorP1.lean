
-- arc: what a part tells of itself.
import Derived.Test.YtnfplepaejjmfaaGreatDoorP0
import Derived.Test.YtnfplepaejjmfaaGreatDoorQ3
import Derived.Test.YtnfplepaejjmfaaGreatDoorFV
import Derived.WalkKit
import Derived.BigQuiet
import Derived.Deep.QuietTactic
import Derived.Laws.ResultCell
import Derived.Laws.NewBlocks
namespace Go.Proofs.YtnfplepaejjmfaaGreatDoor
open Go.ChangeShapes Go.WideShapes Go.ChangeAt Go.RowKit
set_option linter.unusedVariables false
set_option maxRecDepth 100000

def ptV (x : Pt) : Value := .agg #[.int .i64 x.h.date, .int .i64 x.h.uid, .int .i64 x.h.gid, .int .i64 x.h.mode, .string x.h.name, .int .i64 x.h.size, .int .i64 x.pos, .int .i64 x.fin, .int .i64 x.kind, .int .i64 x.f.sort, .int .i64 x.f.num, .string x.f.name, .string x.name, .string x.data]
def mbV (x : Mb) : Value := .agg #[.int .i64 x.h.date, .int .i64 x.h.uid, .int .i64 x.h.gid, .int .i64 x.h.mode, .string x.h.name, .int .i64 x.h.size, .string x.data]

theorem cell_row {w : World} {k : Nat} {cs : Array Value} {t : TypeId} (h : w.heap[k]? = some (.cells cs t (0, 0))) (i : Nat) (v : Value) (hv : cs[i]? = some v) : w.cell? ⟨k, i, none⟩ = some v := by
  simp [World.cell?, h, hv]
theorem cells14 {d u g m s a z k so nu : Int} {n fn nm da : ByteArray} {W : World} {B : Nat} {t : TypeId} (h : W.heap[B]? = some (.cells #[.int .i64 d, .int .i64 u, .int .i64 g, .int .i64 m, .string n, .int .i64 s, .int .i64 a, .int .i64 z, .int .i64 k, .int .i64 so, .int .i64 nu, .string fn, .string nm, .string da] t (0, 0))) : W.cell? ⟨B, 0, none⟩ = some (.int .i64 d) ∧ W.cell? ⟨B, 1, none⟩ = some (.int .i64 u) ∧ W.cell? ⟨B, 2, none⟩ = some (.int .i64 g) ∧ W.cell? ⟨B, 3, none⟩ = some (.int .i64 m) ∧ W.cell? ⟨B, 4, none⟩ = some (.string n) ∧ W.cell? ⟨B, 5, none⟩ = some (.int .i64 s) ∧ W.cell? ⟨B, 6, none⟩ = some (.int .i64 a) ∧ W.cell? ⟨B, 7, none⟩ = some (.int .i64 z) ∧ W.cell? ⟨B, 8, none⟩ = some (.int .i64 k) ∧ W.cell? ⟨B, 9, none⟩ = some (.int .i64 so) ∧ W.cell? ⟨B, 10, none⟩ = some (.int .i64 nu) ∧ W.cell? ⟨B, 11, none⟩ = some (.string fn) ∧ W.cell? ⟨B, 12, none⟩ = some (.string nm) ∧ W.cell? ⟨B, 13, none⟩ = some (.string da) := by
  exact ⟨cell_row h 0 _ rfl, cell_row h 1 _ rfl, cell_row h 2 _ rfl, cell_row h 3 _ rfl, cell_row h 4 _ rfl, cell_row h 5 _ rfl, cell_row h 6 _ rfl, cell_row h 7 _ rfl, cell_row h 8 _ rfl, cell_row h 9 _ rfl, cell_row h 10 _ rfl, cell_row h 11 _ rfl, cell_row h 12 _ rfl, cell_row h 13 _ rfl⟩

theorem form_c (d u g m s a z k so nu : Int) (n fn nm da : ByteArray) (w : World) :
    Calls Tryz.prog 56 #[.agg #[.int .i64 d, .int .i64 u, .int .i64 g, .int .i64 m, .string n, .int .i64 s, .int .i64 a, .int .i64 z, .int .i64 k, .int .i64 so, .int .i64 nu, .string fn, .string nm, .string da]] w fun e w' => e = .returned (.int .i64 (formS so)) ∧ Below w.heap.size w w' := by
  unfold formS
  by_cases h1 : so = 1
  · subst h1
    go_enter Tryz.func56, Tryz.ntmps56
    go_wp2
    go_ret
    exact ⟨rfl, bup (Below.refl _ _) _⟩
  by_cases h2 : so = 2
  · subst h2
    go_enter Tryz.func56, Tryz.ntmps56
    go_wp2
    go_ret
    exact ⟨rfl, bup (Below.refl _ _) _⟩
  by_cases h8 : so = 8
  · subst h8
    go_enter Tryz.func56, Tryz.ntmps56
    go_wp2
    go_ret
    exact ⟨rfl, bup (Below.refl _ _) _⟩
  rw [if_neg h1, if_neg h2, if_neg h8]
  have c1 : (so == 1) = false := by simp [h1]
  have c2 : (so == 2) = false := by simp [h2]
  have c8 : (so == 8) = false := by simp [h8]
  clear h1 h2 h8
  go_enter Tryz.func56, Tryz.ntmps56
  go_wp2
  go_ret
  exact ⟨rfl, bup (Below.refl _ _) _⟩

theorem isIndex_c (d u g m s a z k so nu : Int) (n fn nm da : ByteArray) (w : World) :
    Calls Tryz.prog 55 #[.agg #[.int .i64 d, .int .i64 u, .int .i64 g, .int .i64 m, .string n, .int .i64 s, .int .i64 a, .int .i64 z, .int .i64 k, .int .i64 so, .int .i64 nu, .string fn, .string nm, .string da]] w fun e w' => e = .returned (.bool (decide (ixS so))) ∧ Below w.heap.size w w' := by
  obtain ⟨F, hF⟩ : ∃ F, F = formS so := ⟨_, rfl⟩
  have hd : (!(F == 0)) = decide (ixS so) := by
    have := formS_ix so
    rw [hF]
    by_cases h : ixS so
    · rw [decide_eq_true h]; simp; intro e; exact (this.1 e) h
    · rw [decide_eq_false h]; simp; exact this.2 h
  rw [← hd]
  have HF := fun w => form_c d u g m s a z k so nu n fn nm da w
  rw [← hF] at HF
  clear hd hF
  go_enter Tryz.func55, Tryz.ntmps55
  go_wp2_with (go_at_call 56; refine (HF _).mono ?_; rintro e w1 ⟨rfl, hb1⟩)
  go_ret
  exact ⟨by simp [bne], bel3 (bup (Below.refl _ _) _) hb1⟩

theorem isTable_c (d u g m s a z k so nu : Int) (n fn nm da : ByteArray) (w : World) :
    Calls Tryz.prog 65 #[.agg #[.int .i64 d, .int .i64 u, .int .i64 g, .int .i64 m, .string n, .int .i64 s, .int .i64 a, .int .i64 z, .int .i64 k, .int .i64 so, .int .i64 nu, .string fn, .string nm, .string da]] w fun e w' => e = .returned (.bool (decide (so = 3))) ∧ Below w.heap.size w w' := by
  have hd : (so == 3) = decide (so = 3) := by by_cases h : so = 3 <;> simp [h]
  rw [← hd]
  clear hd
  go_enter Tryz.func65, Tryz.ntmps65
  go_wp2
  go_ret
  exact ⟨rfl, bup (Below.refl _ _) _⟩

theorem isOrd_c (d u g m s a z k so nu : Int) (n fn nm da : ByteArray) (w : World) :
    Calls Tryz.prog 48 #[.agg #[.int .i64 d, .int .i64 u, .int .i64 g, .int .i64 m, .string n, .int .i64 s, .int .i64 a, .int .i64 z, .int .i64 k, .int .i64 so, .int .i64 nu, .string fn, .string nm, .string da]] w fun e w' => e = .returned (.bool (decide (ordS so))) ∧ Below w.heap.size w w' := by
  have HI := fun w => isIndex_c d u g m s a z k so nu n fn nm da w
  have HT := fun w => isTable_c d u g m s a z k so nu n fn nm da w
  by_cases h : ixS so
  · rw [decide_eq_false (fun q : ordS so => q.1 h)]
    rw [decide_eq_true h] at HI
    clear h HT
    go_enter Tryz.func48, Tryz.ntmps48
    go_wp2_with (go_at_call 55; refine (HI _).mono ?_; rintro e w1 ⟨rfl, hb1⟩)
    go_ret
    exact ⟨rfl, bel3 (bup (Below.refl _ _) _) hb1⟩
  · have e : decide (ordS so) = !decide (so = 3) := by
      by_cases q : so = 3
      · rw [decide_eq_true q, decide_eq_false (fun r : ordS so => r.2 q)]; rfl
      · rw [decide_eq_false q, decide_eq_true (show ordS so from ⟨h, q⟩)]; rfl
    rw [e]
    rw [decide_eq_false h] at HI
    generalize decide (so = 3) = T at HT ⊢
    clear h e
    go_enter Tryz.func48, Tryz.ntmps48
    have hc : ∀ w1 : World, Below (w.heap.size + 1) (w.alloc (.cells #[.int .i64 d, .int .i64 u, .int .i64 g, .int .i64 m, .string n, .int .i64 s, .int .i64 a, .int .i64 z, .int .i64 k, .int .i64 so, .int .i64 nu, .string fn, .string nm, .string da] 86)) w1 → w1.heap[w.heap.size]? = some (.cells #[.int .i64 d, .int .i64 u, .int .i64 g, .int .i64 m, .string n, .int .i64 s, .int .i64 a, .int .i64 z, .int .i64 k, .int .i64 so, .int .i64 nu, .string fn, .string nm, .string da] 86 (0, 0)) := fun w1 h => (h.block w.heap.size (by omega)).trans (heap_alloc_new w _)
    go_wp2_with first | (go_at_call 55; refine (HI _).mono ?_; rintro e w1 ⟨rfl, hb1⟩; rw [World.size_alloc] at hb1; have hx1 := hc w1 hb1; obtain ⟨q0, q1, q2, q3, q4, q5, q6, q7, q8, q9, q10, q11, q12, q13⟩ := cells14 hx1) | (go_at_call 65; refine (HT _).mono ?_; rintro e w2 ⟨rfl, hb2⟩)
    go_ret
    exact ⟨rfl, bel3 ((bup (Below.refl _ _) _).trans (hb1.mono (Nat.le_succ _))) hb2⟩

end Go.Proofs.YtnfplepaejjmfaaGreatDoor
