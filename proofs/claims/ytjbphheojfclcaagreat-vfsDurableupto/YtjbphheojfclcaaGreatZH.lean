
-- The handle of a step.
import Derived.Test.YtjbphheojfclcaaGreatZC
import Derived.Deep.QuietTactic
import Derived.BigQuiet
import Derived.Deep.RegionWith
import Derived.Deep.DrawnRows
import Derived.Deep.CutRange
namespace Go.Proofs.YtjbphheojfclcaaGreat
open Go.RowKit
set_option linter.unusedVariables false
set_option maxRecDepth 100000
variable {PS : (Nat → Prop) → Nat → St → World → Prop}
attribute [local go_sem ↓] Go.wp_at_zero Go.wp_at_succ
/-- The handle of a step, by its place. -/
def pick (hs : List (Nat × Hd)) (n : Int) : Option (Nat × Hd) := if n < 0 then none else hs[n.toNat]?
def pickV (p : Option (Nat × Hd)) : Value := match p with | none => .pointer none | some h => .pointer (some ⟨h.1, 0, none⟩)
set_option maxHeartbeats 4000000 in
theorem handle_c (S : Nat → Prop) (vb q : Nat) (x : Vl) (mv : Value) (G : Nat → Prop) (hs : List (Nat × Hd)) (K n : Int) (a b : ByteArray) (m0 m1 m2 m3 : Int) (po : Option Addr) (pl pc : Nat) (co : Option Addr) (cl cc : Nat) (w : World) (T : VLo PS S vb x w q mv G hs) (hl : hs.length ≤ 2097152) :
    Calls Tryz.prog 42 #[.pointer (some ⟨vb, 0, none⟩), .agg #[.int .i64 K, .int .i64 n, .string a, .string b, .int .i64 m0, .int .i64 m1, .int .i64 m2, .int .i64 m3, .slice po pl pc, .slice co cl cc]] w fun e w' => e = .returned (pickV (pick hs n)) ∧ Below w.heap.size w w' := by
  obtain ⟨c0, c1, cf⟩ := T.cells
  obtain ⟨ao, cp, rfl⟩ := own_shape T.row
  have hvl := T.lt
  have HP : ∀ i a y, hs[i]? = some (a, y) → ∃ g, ao = some ⟨g, 0, none⟩ ∧ w.cell? ⟨g, i, none⟩ = some (.pointer (some ⟨a, 0, none⟩)) := fun i a y hi => by
    have hin : i < hs.length := (List.getElem?_eq_some_iff.1 hi).1
    rcases T.row.2 with ⟨h0, h00⟩ | ⟨g, cap, cur, hg, _⟩
    · omega
    · have hg' : ao = some ⟨g, 0, none⟩ := by injection hg
      subst hg'
      refine ⟨g, rfl, ?_⟩
      have := T.row.cells (g := g) rfl i (.pointer (some ⟨a, 0, none⟩)) (by unfold hptrs; rw [List.getElem?_map, hi]; rfl)
      rw [add_lit0] at this; exact this
  have hb0 : Below w.heap.size w (w.alloc (.cells #[.int .i64 K, .int .i64 n, .string a, .string b, .int .i64 m0, .int .i64 m1, .int .i64 m2, .int .i64 m3, .slice po pl pc, .slice co cl cc] 39)) := (Below.refl _ w).alloc (Nat.le_refl _) _
  have d1 := cell_below hb0 c1
  have HB : Hid (∀ m, Below w.heap.size w ((w.alloc (.cells #[.int .i64 K, .int .i64 n, .string a, .string b, .int .i64 m0, .int .i64 m1, .int .i64 m2, .int .i64 m3, .slice po pl pc, .slice co cl cc] 39)).drewN m)) := fun m => below_drewN hb0 m
  obtain ⟨L, hL⟩ : ∃ L, L = hs.length := ⟨_, rfl⟩
  rw [← hL] at d1
  by_cases h1 : n < 0
  · have hp : pick hs n = none := by unfold pick; rw [if_pos h1]
    have b1 : decide (n < (0 : Int)) = true := by simpa using h1
    rw [hp]
    unfold pickV
    simp only
    clear HP T c0 c1 cf hb0 hL hl hp
    go_enter Tryz.func42, Tryz.ntmps42
    go_wp2_with fail
    go_quiet (fail)
    go_wp2
    go_ret
    exact ⟨rfl, HB.out _⟩
  · have b1 : decide (n < (0 : Int)) = false := by simpa using h1
    by_cases h2 : n < (L : Int)
    · obtain ⟨i, rfl⟩ := Int.eq_ofNat_of_zero_le (show 0 ≤ n by omega)
      have hi : i < hs.length := by omega
      obtain ⟨⟨h', y⟩, hh⟩ : ∃ z, hs[i]? = some z := ⟨_, List.getElem?_eq_getElem hi⟩
      have hp : pick hs (i : Int) = some (h', y) := by unfold pick; rw [if_neg h1]; exact hh
      obtain ⟨g, rfl, hc⟩ := HP i h' y hh
      have hd := cell_below hb0 hc
      have b2 : decide ((i : Int) ≥ (L : Int)) = false := by simp; omega
      have i1 : (i : Int) < (L : Int) := h2
      have i2 : (0 : Int) ≤ (i : Int) := by omega
      rw [hp]
      unfold pickV
      simp only
      clear HP T c0 c1 cf hb0 hL hl hp hh hi h1 h2 hc
      go_enter Tryz.func42, Tryz.ntmps42
      go_wp2_with fail
      go_quiet (fail)
      go_wp2_with fail
      go_quiet (fail)
      go_wp2
      go_ret
      exact ⟨rfl, below_drewN (HB.out _) _⟩
    · have hp : pick hs n = none := by unfold pick; rw [if_neg h1]; exact List.getElem?_eq_none (by omega)
      have b2 : decide (n ≥ (L : Int)) = true := by simp; omega
      rw [hp]
      unfold pickV
      simp only
      clear HP T c0 c1 cf hb0 hL hl hp
      go_enter Tryz.func42, Tryz.ntmps42
      go_wp2_with fail
      go_quiet (fail)
      go_wp2
      go_ret
      exact ⟨rfl, HB.out _⟩
end Go.Proofs.YtjbphheojfclcaaGreat
