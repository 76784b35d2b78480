
-- A library by value, opened.
import Derived.Test.YtebgannhecmnmaaOQ
import Derived.Test.YtebgannhecmnmaaSM
namespace Go.Proofs.Ytebgannhecmnmaa
open Go.ChangeShapes Go.WideShapes Go.ChangeAt Go.RowKit Go.MapKept
set_option linter.unusedVariables false
set_option maxRecDepth 100000
section
variable {H : Type} {enc : TypeId × Value → H} {w : World}
theorem open_libV {cs : Array Value} {d : DataW H} {p : List MemPlace} (h : DataW.Trod enc Try.prog w 0 (fun _ => true) true 37 (.agg cs) d p) :
    ∃ (v0 v1 v2 v3 v4 : Value) (L : Lb), cs = #[v0, v1, v2, v3, v4] ∧ LibO w (Rows.uptoBulk d) ⟨v0, v1, v2, v3, v4⟩ L := by
  obtain ⟨fuel, h⟩ := h
  have c5 : Try.prog.cellsOf 37 = 5 := by kernel_rfl
  obtain ⟨xs, m, _, hx, hl, hxl, hf⟩ := DataW.trod_struct Try.underlying37 h
  rw [c5] at hl
  have hl' : cs.toList.length = 5 := hl
  obtain ⟨u0, u1, u2, u3, u4, hcs⟩ := len5 hl'
  have hcc : (Value.agg cs).cells.toList = [u0, u1, u2, u3, u4] := hcs
  rw [hcc] at h
  obtain ⟨L, hL⟩ := open_lib h
  refine ⟨u0, u1, u2, u3, u4, L, ?_, hL⟩
  have := congrArg List.toArray hcs
  rw [Array.toArray_toList] at this
  exact this
theorem LibO.ok {v : Lv} {L : Lb} {B : Nat} (h : LibO w B v L) (hB : B ≤ 1048576) : LbOk L := ⟨Nat.le_trans h.e hB, Nat.le_trans h.a hB, Nat.le_trans h.n hB, Nat.le_trans h.df hB, Nat.le_trans h.nd hB, fun l hl => Nat.le_trans (h.f l hl) hB, fun l hl => Nat.le_trans (h.g l hl) hB⟩
end
end Go.Proofs.Ytebgannhecmnmaa
