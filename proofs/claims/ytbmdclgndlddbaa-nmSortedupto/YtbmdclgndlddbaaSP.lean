
-- Reverse at rows; isLeftOut, picked.
import Derived.Test.YtbmdclgndlddbaaSO
namespace Go.Proofs.Ytbmdclgndlddbaa
open Go.ChangeShapes Go.WideShapes Go.ChangeAt Go.RowKit Go.Sort Go.Shelf Go.Lib
set_option linter.unusedVariables false
set_option maxRecDepth 100000
def renE : Ren := ⟨fun | 35 => 18 | n => n, fun | 22 => 22 | 23 => 31 | n => n, fun n => n⟩
theorem laysE : SlLaysE0.n35 Try.prog renE := {
  mixed := by kernel_rfl
  f35 := ⟨"slices.Reverse[[]shelf/api.Row,shelf/api.Row]", by decide, Try.func18.trans (congrArg some (by kernel_rfl))⟩
  t0 := Try.underlying0
  a0 := Try.isAgg0
  z0 := Try.sizeOf0
  v0 := Try.zeroValue0
  t3 := Try.underlying3
  a3 := Try.isAgg3
  z3 := Try.sizeOf3
  v3 := Try.zeroValue3
  t4 := Try.underlying4
  a4 := Try.isAgg4
  z4 := Try.sizeOf4
  v4 := Try.zeroValue4
  t22 := Try.underlying22
  a22 := Try.isAgg22
  z22 := Try.sizeOf22
  v22 := Try.zeroValue22 }
theorem revR_c (F : Nat → Prop) (v : Value) (L : List Rw) (w : World) (h : OwR F w v L) (hn : L.length ≤ 1048576) :
    Calls Try.prog 18 #[v] w fun e w' => e = .returned (.tuple #[]) ∧ OwR F w' v L.reverse ∧ Kp (fun k => v.ownBlock = some k) w w' := by
  rcases h.open with ⟨rfl, rfl⟩ | ⟨g, cap, cur, rfl, h1, h2, h3, h4, h5, h6⟩
  · refine (AnyQ.slices_Reverse_empty (ρ := renE) laysE none 0 w).mono ?_
    rintro e w' ⟨rfl, rfl⟩
    exact ⟨rfl, OwnF.nil, Kp.refl _ _⟩
  · obtain ⟨d, hd⟩ : ∃ d : Array Pr, d = (L.zipIdx 0).toArray := ⟨_, rfl⟩
    have hdl : d.toList = L.zipIdx 0 := by rw [hd]
    have hds : d.size = L.length := by rw [hd]; simp
    have h7 : cur.toList.take (d.size * 8) = d.toList.flatMap encP := by rw [hds, h6, flat_fst, hdl, zip_fst]
    have hH : HoldsK encP 8 w g 0 d := holds_of encP_len h4 h7
    have hblk := (Array.getElem?_eq_some_iff.1 h4).1
    have hR := AnyQ.slices_Reverse (ρ := renE) laysE 8 Try.isAgg31 Try.sizeOf31 encP encP_len encP_one g 0 cap d w hH (by omega)
    rw [hds] at hR
    refine hR.mono ?_
    rintro e w' ⟨rfl, m, hw⟩
    have s1 : SWK encP 8 w g 0 d.reverse w' := ⟨m, #[], by rw [hw]; unfold sortWorldK; rw [grow_empty]⟩
    have hs : d.reverse.size = d.size := Array.size_reverse
    have hle : d.size * 8 ≤ cur.size := by rw [h5, hds]; exact Nat.mul_le_mul_right 8 h1
    obtain ⟨cur', c1, c2, c3, c4⟩ := row_of encP_len h4 (by rw [hs]; exact hle) s1 (s1.holds hblk hH hs)
    rw [flat_fst, Array.toList_reverse, List.map_reverse, hdl, zip_fst] at c3
    have hc4 : cur'.toList.take (L.reverse.length * 8) = L.reverse.flatMap rwL := by
      rw [List.length_reverse, ← hds, ← hs]; exact c3
    exact ⟨rfl, OwR.close (by rw [List.length_reverse]) (by rw [List.length_reverse]; exact h1) h2 h3 c1 (by rw [c2, h5]) hc4, c4.weak (fun b hb => by rw [hb]; rfl)⟩
/-- options -/
structure Op7 where
  g : Bool
  u : Bool
  n : Bool
  p : Bool
  r : Bool
  a : Bool
  s : Bool
def opV (o : Op7) : Value := .agg #[.bool o.g, .bool o.u, .bool o.n, .bool o.p, .bool o.r, .bool o.a, .bool o.s]
def opO (o : Op7) : Obj := .cells #[.bool o.g, .bool o.u, .bool o.n, .bool o.p, .bool o.r, .bool o.a, .bool o.s] 24
theorem op_cells {w : World} {b : Nat} {o : Op7} (h : w.heap[b]? = some (opO o)) : w.cell? ⟨b, 0, none⟩ = some (.bool o.g) ∧ w.cell? ⟨b, 1, none⟩ = some (.bool o.u) ∧ w.cell? ⟨b, 2, none⟩ = some (.bool o.n) ∧ w.cell? ⟨b, 3, none⟩ = some (.bool o.p) ∧ w.cell? ⟨b, 4, none⟩ = some (.bool o.r) ∧ w.cell? ⟨b, 5, none⟩ = some (.bool o.a) ∧ w.cell? ⟨b, 6, none⟩ = some (.bool o.s) :=
  ⟨cell_rowK h 0 _ rfl, cell_rowK h 1 _ rfl, cell_rowK h 2 _ rfl, cell_rowK h 3 _ rfl, cell_rowK h 4 _ rfl, cell_rowK h 5 _ rfl, cell_rowK h 6 _ rfl⟩
def leftO (g u : Bool) (x : Rw) : Bool := (g && (x.bd == 0)) || (u && ((x.lt != 85) && (x.lt != 119)))
set_option maxHeartbeats 8000000 in
theorem leftOut_c (x : Rw) (o : Op7) (w : World) : Calls Try.prog 21 #[rwV x, opV o] w fun e w' => e = .returned (.bool (leftO o.g o.u x)) ∧ Gr w w' := by
  obtain ⟨X, hX⟩ : ∃ X, X = rwO x := ⟨_, rfl⟩
  obtain ⟨Y, hY⟩ : ∃ Y, Y = opO o := ⟨_, rfl⟩
  obtain ⟨w1, hw1⟩ : ∃ w1, w1 = (w.alloc X).alloc Y := ⟨_, rfl⟩
  have x0 : w1.heap[w.heap.size]? = some (rwO x) := by rw [hw1]; exact hupK (by rw [heap_alloc_new, hX]) Y
  have y0 : w1.heap[w.heap.size + 1]? = some (opO o) := by rw [hw1, heap_new2K, hY]
  have HG : Hid (Gr w w1) := by rw [hw1]; exact ((Gr.refl w).alloc X).alloc Y
  obtain ⟨a0, a1, a2, a3, a4, a5, a6, a7⟩ := rw_cells x0
  obtain ⟨b0, b1, b2, b3, b4, b5, b6⟩ := op_cells y0
  obtain ⟨r, hr⟩ : ∃ r, r = leftO o.g o.u x := ⟨_, rfl⟩
  rw [← hr]
  have HR := hidK hr
  unfold rwO at hX
  unfold opO at hY
  unfold rwV opV
  clear x0 y0 hr a0 a2 a3 a4 a5 a6 b2 b3 b4 b5 b6
  subst hX hY
  go_enter Try.func21, Try.ntmps21
  go_upto_region 1 with fail
  rw [← hw1]
  clear hw1
  generalize o.g = g at *
  generalize o.u = u at *
  generalize hb : x.bd = bd at *
  generalize hl : x.lt = lt at *
  by_cases h1 : lt = 85
  · have e1 : (lt == 85) = true := by simp [h1]
    cases g <;> cases u <;> by_cases h3 : bd = 0 <;>
    · go_wp2
      go_ret
      refine ⟨?_, HG.out⟩
      rw [HR.out]
      simp [leftO, hb, hl, h1, h3]
  · have e1 : (lt == 85) = false := by simp [h1]
    by_cases h2 : lt = 119
    · have e2 : (lt == 119) = true := by simp [h2]
      cases g <;> cases u <;> by_cases h3 : bd = 0 <;>
      · go_wp2
        go_ret
        refine ⟨?_, HG.out⟩
        rw [HR.out]
        simp [leftO, hb, hl, h2, h3]
    · have e2 : (lt == 119) = false := by simp [h2]
      cases g <;> cases u <;> by_cases h3 : bd = 0 <;>
      · go_wp2
        go_ret
        refine ⟨?_, HG.out⟩
        rw [HR.out]
        simp [leftO, hb, hl, h1, h2, h3]
end Go.Proofs.Ytbmdclgndlddbaa
