
-- setOf, numbersByPlace, Clone.
import Derived.Test.YtiedimmbcmpfbaaSA
namespace Go.Proofs.Ytiedimmbcmpfbaa
open Go.ChangeShapes Go.WideShapes Go.ChangeAt Go.RowKit Go.MapKept
set_option linter.unusedVariables false
set_option maxRecDepth 100000
/-- a place -/
def paL (p : Int × Int) : List Value := [.int .i64 p.1, .int .i64 p.2]
theorem paL_len (x : Int × Int) : (paL x).length = 2 := rfl
theorem paL_one : ∀ x, ∀ u ∈ paL x, u.oneCell' = true := by
  intro x u hu
  simp only [paL, List.mem_cons, List.not_mem_nil, or_false] at hu
  rcases hu with rfl | rfl <;> rfl
abbrev RowP := RowG paL
theorem RowG.pa {w : World} {v : Value} {L : List (Int × Int)} {k : Nat} {x : Int × Int} (h : RowP w v L) (hx : L[k]? = some x) : ∃ b off cap, v = .slice (some ⟨b, off, none⟩) L.length cap ∧ w.cell? ⟨b, off + k * 2, none⟩ = some (.int .i64 x.1) ∧ w.cell? ⟨b, off + k * 2 + 1, none⟩ = some (.int .i64 x.2) := by
  obtain ⟨b, off, cap, e, _, _, hc⟩ := RowG.at paL_len h hx
  exact ⟨b, off, cap, e, hc 0 _ rfl, hc 1 _ rfl⟩
theorem below_kp {B b : Nat} {a w w' : World} (hb : Below B a w) (hk : Kp (fun k => k = b) w w') (h : B ≤ b) (hB : B ≤ a.heap.size) : Below B a w' :=
  hb.trans (hk.below (fun k e => e ▸ h) (Nat.le_trans hB hb.size))
theorem wp_make {P : Program} (w : World) {ops : Array Oper} {rest : List Oper} {o : Oper} {a : Act} {Q : Exit → Act → World → Prop} (hg : o.guard = none) (x : Operand) (t k e : TypeId) (hop : o.op = Op.makeMap t (some x)) (n : Int) (hx : a.eval x = .int .i64 n) (ht : P.underlying t = some (.map k e))
    (hK : wpList P ops Q rest (a.put o.dst (.map (some w.heap.size))) (w.alloc (.map #[] 0))) : wpList P ops Q (o :: rest) a w := by
  refine wpList_plain hg fun K' hK' => ?_
  have hrun : (Instr.makeMap t (some (.int .i64 n))).run P w = .ok (.map (some w.heap.size)) (w.alloc (.map #[] 0)) := by
    simp [Instr.makeMap, run_underlying ht, asInt, asIntOf, newObj, Result.andThen]
    rfl
  unfold Oper.wp
  simp [execOp, hop, hx, hrun, Result.andThen]
  exact hK' _ _ hK
end Go.Proofs.Ytiedimmbcmpfbaa
