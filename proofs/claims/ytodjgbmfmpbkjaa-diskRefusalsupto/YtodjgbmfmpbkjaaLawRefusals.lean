
-- Proof of the given statement about DiskRefusals, second form. The frame follows the guide's toys for such a statement and for a slice that came in; the walk and the lemmas are ours.
import Derived.Test.YtodjgbmfmpbkjaaRows
import Derived.Test.YtodjgbmfmpbkjaaN8
import Derived.Test.YtodjgbmfmpbkjaaE8
import Derived.Test.YtodjgbmfmpbkjaaV22
import Derived.WalkKit
import Derived.ProofKit
import Derived.OpenShut
import Derived.ShutString
import Derived.ChangeOld
import Derived.Below
import Derived.JoinedCond
import Derived.Deep.RegionWith
namespace Go.Proofs.Ytodjgbmfmpbkjaa.diskRefusals
open Go.ChangeShapes Go.WideShapes Go.ChangeAt Go.RowKit
open Go.ChangeMaps (open_string shut_string)
set_option linter.unusedVariables false

theorem own : ownKnob Try.prog.godebug = none := by kernel_rfl
theorem laidOut : laidOutB Try.prog = true := by kernel_rfl

theorem walk  (w : World) (a0 : Int) (w0 : (Lit.int .i64 a0).wf = true) (v1 : Value) (ops1 : List Opx) (ro1 : RowO w v1 ops1) (ok1 : ∀ (i : Nat) (o : Opx), ops1[i]? = some o → OpOk w.heap.size o w) (ll1 : ops1.length ≤ 1048576) (a2 : Int) (w2 : (Lit.int .i64 a2).wf = true) (v3 : Value) (c3 : List Int) (ri3 : RowI w v3 c3) (lo3 : c3 ≠ [] → ∀ k, v3.ownBlock = some k → k < w.heap.size) (cl3 : c3.length ≤ 1048576) :
    Calls Try.prog 8 #[.int .i64 a0, v1, .int .i64 a2, v3] w fun e w' => e = .returned (.bool true) ∧ Below w.heap.size w w' := by
  exact diskRefusals_w pcx a0 v1 ops1 a2 v3 c3 w ro1 ok1 ll1 ri3 lo3 cl3
set_option maxRecDepth 100000 in
theorem contract  (H : Type) (enc : TypeId × Value → H) (W : World) (base : Nat) (args : Array Value) (ds gs : List (DataW H)) (before : List MemPlace)
    (hval : ∀ (j : Nat) t v, Try.f8.params[j]? = some t → args[j]? = some v → Value.okWide Try.prog W .any base t v)
    (hW : DataW.Whole enc Try.prog Try.f8.params.toList Rows.diskRefusalsSpec.vars false W args.toList ds gs before) (hk : Rows.uptoSmall H (ds ++ gs) = true) :
    Calls Try.prog 8 args W fun e W' => ∃ v, e = .returned v ∧ Rows.diskRefusalsSpec.post enc Try.prog Try.f8 false true false false W args v W' := by
  have hW' := hW
  obtain ⟨p, q, hA0, hV, rfl, hfz, hnd⟩ := hW
  have hA : DataW.TrodAll enc Try.prog W 0 (fun _ => true) true Try.f8.params.toList args.toList ds p := hA0
  rw [Try.params8] at hA hval
  obtain ⟨v0, vs0, d0, ds0, p0, q0, hargs, rfl, rfl, h0, r0⟩ := trodAll_cons hA
  obtain ⟨v1, vs1, d1, ds1, p1, q1, rfl, rfl, rfl, h1, r1⟩ := trodAll_cons r0
  obtain ⟨v2, vs2, d2, ds2, p2, q2, rfl, rfl, rfl, h2, r2⟩ := trodAll_cons r1
  obtain ⟨v3, vs3, d3, ds3, p3, q3, rfl, rfl, rfl, h3, r3⟩ := trodAll_cons r2
  obtain ⟨rfl, rfl, rfl⟩ := trodAll_nil r3
  obtain rfl : args = #[v0, v1, v2, v3] := by have h := congrArg List.toArray hargs; rw [Array.toArray_toList] at h; exact h
  obtain ⟨rfl, rfl⟩ := trodVars_none hV
  simp only [List.append_nil] at hk
  have hBk : Rows.uptoBulkAll [d0, d1, d2, d3] ≤ 1048576 := of_decide_eq_true hk
  have bk0 : Rows.uptoBulk d0 ≤ 1048576 := Nat.le_trans (bulk_mem _ _ (by simp)) hBk
  have bk1 : Rows.uptoBulk d1 ≤ 1048576 := Nat.le_trans (bulk_mem _ _ (by simp)) hBk
  have bk2 : Rows.uptoBulk d2 ≤ 1048576 := Nat.le_trans (bulk_mem _ _ (by simp)) hBk
  have bk3 : Rows.uptoBulk d3 ≤ 1048576 := Nat.le_trans (bulk_mem _ _ (by simp)) hBk
  obtain ⟨a0, rfl, rfl, rfl, w0⟩ := open_int Try.underlying3 (hval 0 3 v0 rfl rfl) h0
  obtain ⟨x1, len1, cap1, rfl⟩ := okWide_slice Try.underlying41 (hval 1 41 v1 rfl rfl)
  have k1 := h1
  have lt1 : ∀ x ∈ p1, x.block < W.heap.size := by obtain ⟨m, hm⟩ := k1; exact DataW.trod_lt m _ _ _ hm
  obtain ⟨ops1, ro1, ok1, ll1⟩ : ∃ ops, RowO W (.slice x1 len1 cap1) ops ∧ (∀ (i : Nat) (o : Opx), ops[i]? = some o → OpOk W.heap.size o W) ∧ ops.length ≤ 1048576 := by
    obtain ⟨fuel, hf⟩ := h1
    exact open_ops hf bk1
  obtain ⟨a2, rfl, rfl, rfl, w2⟩ := open_int Try.underlying3 (hval 2 3 v2 rfl rfl) h2
  obtain ⟨x3, len3, cap3, rfl⟩ := okWide_slice Try.underlying44 (hval 3 44 v3 rfl rfl)
  have k3 := h3
  have lt3 : ∀ x ∈ p3, x.block < W.heap.size := by obtain ⟨m, hm⟩ := k3; exact DataW.trod_lt m _ _ _ hm
  obtain ⟨c3, ri3, lo3, cl3⟩ : ∃ c, RowI W (.slice x3 len3 cap3) c ∧ (c ≠ [] → ∀ k, (Value.slice x3 len3 cap3).ownBlock = some k → k < W.heap.size) ∧ c.length ≤ 1048576 := by
    obtain ⟨fuel, hf⟩ := h3
    obtain ⟨c, c1, c2, c3⟩ := open_cuts hf
    exact ⟨c, c1, c2, Nat.le_trans c3 bk3⟩
  clear hA0
  refine (walk  W a0 w0 _ ops1 ro1 ok1 ll1 a2 w2 _ c3 ri3 lo3 cl3).mono fun e W' ⟨he, bel⟩ => ?_
  subst he
  exact ⟨_, rfl, _, _, _, [], _, [], hW', trodAll_mk1 (shut_bool Try.underlying4 _), (trodAll_cons_mk (shut_int Try.underlying3 w0) (trodAll_cons_mk (Below.trod laidOut (by kernel_rfl) (of_decide_eq_true (by kernel_rfl)) k1 bel lt1) (trodAll_cons_mk (shut_int Try.underlying3 w2) (trodAll_cons_mk (Below.trod laidOut (by kernel_rfl) (of_decide_eq_true (by kernel_rfl)) k3 bel lt3) trodAll_mk0)))), rfl, bel.frame _, fun h => by cases h⟩
set_option maxRecDepth 100000 in
theorem lifted  (os : Os) (started : os.Started) (H : Type) (enc : TypeId × Value → H) (F : Stop.Interp) :
    ReturnsInHanded {} Try.checked os 8 .any ((Rows.OpenSpec.upto Rows.diskRefusalsSpec).pre6 enc Try.prog Try.f8 Rows.diskRefusalsUptoRow.domain false) (((Rows.OpenSpec.upto Rows.diskRefusalsSpec).at F).post enc Try.prog Try.f8 false true false false) := by
  refine returnsInHanded_of_cond (C := Try.checked) (s := Rows.OpenSpec.upto Rows.diskRefusalsSpec) (k := Rows.uptoSmall) rfl own started (by kernel_rfl) Try.func8
    (OpenSpec.witness (enc := enc) (C := Try.checked) (s := Rows.OpenSpec.upto Rows.diskRefusalsSpec) (k := Rows.uptoSmall) rfl false ⟨#[], #[.int .i64 0, .slice none 0 0, .int .i64 0, .slice none 0 0], []⟩ 8 (by kernel_rfl) (by kernel_rfl) (by kernel_rfl)
      (x := ([.lit (.int .i64 0), .nil, .lit (.int .i64 0), .nil], [], [])) (by kernel_rfl) rfl (by kernel_rfl)) ?_
  intro W base args ds gs before hval hW _ hk _
  exact contract  H enc W base args ds gs before hval hW hk
theorem proved  : Rows.DiskRefusalsUptoSaid :=
  OpenClaim.holds_of_cond 8 Try.f8 rfl rfl rfl rfl rfl rfl rfl ⟨rfl, rfl, rfl, rfl, rfl⟩ rfl rfl rfl rfl rfl (by kernel_rfl) Try.func8 (by kernel_rfl)
    (of_decide_eq_true (by kernel_rfl)) (by unfold Func.isWrapper; first | (rw [if_pos (by decide +kernel)]; kernel_rfl) | (rw [if_neg (by decide +kernel)]; exact ⟨rfl, rfl⟩))
    (fun os started H enc _ F => lifted  os started H enc F)
end Go.Proofs.Ytodjgbmfmpbkjaa.diskRefusals
namespace Go.Proofs.Ytodjgbmfmpbkjaa
theorem diskRefusals_holds  : Rows.DiskRefusalsUptoSaid := diskRefusals.proved 
#print axioms diskRefusals_holds
end Go.Proofs.Ytodjgbmfmpbkjaa
