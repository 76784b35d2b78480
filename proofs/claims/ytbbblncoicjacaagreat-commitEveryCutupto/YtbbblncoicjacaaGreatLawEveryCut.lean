
-- Proof of the given statement about CommitEveryCut, second form. The frame follows the guide's toys for such a statement and for a slice that came in; the walk and the lemmas are ours.
import Derived.Test.YtbbblncoicjacaaGreatRows
import Derived.Test.YtbbblncoicjacaaGreatEV
import Derived.Test.YtbbblncoicjacaaGreatOF
import Derived.Test.YtbbblncoicjacaaGreatVC
import Derived.WalkKit
import Derived.ProofKit
import Derived.OpenShut
import Derived.ShutString
import Derived.ChangeOld
import Derived.Below
import Derived.JoinedCond
import Derived.Deep.RegionWith
namespace Go.Proofs.YtbbblncoicjacaaGreat.commitEveryCut
open Go.ChangeShapes Go.WideShapes Go.ChangeAt Go.RowKit
open Go.ChangeMaps (open_string shut_string)
set_option linter.unusedVariables false

theorem own : ownKnob Tryz.prog.godebug = none := by kernel_rfl
theorem laidOut : laidOutB Tryz.prog = true := by kernel_rfl

theorem walk  (w : World) (v0 : Value) (l0 : List Fil) (r0 : RowF w v0 l0) (n0 : 3 * l0.length ≤ 1048576) (z0 : sizeF l0 ≤ 1048576) (nm1 : ByteArray) (ma1 mb1 mc1 md1 : Int) (da1 : ByteArray) (ln1 : nm1.size ≤ 1048576) (ld1 : da1.size ≤ 1048576) (v2 : Value) (c2 : List Int) (ri2 : RowI w v2 c2) (cb2 : c2 ≠ [] → ∀ k, v2.ownBlock = some k → k < w.heap.size) (cl2 : c2.length ≤ 1048576) :
    Calls Tryz.prog 6 #[v0, .agg #[.string nm1, .int .i64 ma1, .int .i64 mb1, .int .i64 mc1, .int .i64 md1, .string da1], v2] w fun e w' => e = .returned (.bool true) ∧ Below w.heap.size w w' := by
  exact everyCut_w pcx v0 l0 nm1 ma1 mb1 mc1 md1 da1 v2 c2 w r0 n0 z0 ld1 ln1 ri2 cb2 cl2
set_option maxRecDepth 100000 in
theorem contract  (H : Type) (enc : TypeId × Value → H) (W : World) (base : Nat) (args : Array Value) (ds gs : List (DataW H)) (before : List MemPlace)
    (hval : ∀ (j : Nat) t v, Tryz.f6.params[j]? = some t → args[j]? = some v → Value.okWide Tryz.prog W .any base t v)
    (hW : DataW.Whole enc Tryz.prog Tryz.f6.params.toList Rows.commitEveryCutSpec.vars false W args.toList ds gs before) (hk : Rows.uptoSmall H (ds ++ gs) = true) :
    Calls Tryz.prog 6 args W fun e W' => ∃ v, e = .returned v ∧ Rows.commitEveryCutSpec.post enc Tryz.prog Tryz.f6 false true false false W args v W' := by
  have hW' := hW
  obtain ⟨p, q, hA0, hV, rfl, hfz, hnd⟩ := hW
  have hA : DataW.TrodAll enc Tryz.prog W 0 (fun _ => true) true Tryz.f6.params.toList args.toList ds p := hA0
  rw [Tryz.params6] at hA hval
  obtain ⟨v0, vs0, d0, ds0, p0, q0, hargs, rfl, rfl, h0, r0⟩ := trodAll_cons hA
  obtain ⟨v1, vs1, d1, ds1, p1, q1, rfl, rfl, rfl, h1, r1⟩ := trodAll_cons r0
  obtain ⟨v2, vs2, d2, ds2, p2, q2, rfl, rfl, rfl, h2, r2⟩ := trodAll_cons r1
  obtain ⟨rfl, rfl, rfl⟩ := trodAll_nil r2
  obtain rfl : args = #[v0, v1, v2] := by have h := congrArg List.toArray hargs; rw [Array.toArray_toList] at h; exact h
  obtain ⟨rfl, rfl⟩ := trodVars_none hV
  simp only [List.append_nil] at hk
  have hBk : Rows.uptoBulkAll [d0, d1, d2] ≤ 1048576 := of_decide_eq_true hk
  have bk0 : Rows.uptoBulk d0 ≤ 1048576 := Nat.le_trans (bulk_memM _ _ (by simp)) hBk
  have bk1 : Rows.uptoBulk d1 ≤ 1048576 := Nat.le_trans (bulk_memM _ _ (by simp)) hBk
  have bk2 : Rows.uptoBulk d2 ≤ 1048576 := Nat.le_trans (bulk_memM _ _ (by simp)) hBk
  obtain ⟨x0, len0, cap0, rfl⟩ := okWide_slice Tryz.underlying22 (hval 0 22 v0 rfl rfl)
  have k0 := h0
  have lt0 : ∀ x ∈ p0, x.block < W.heap.size := by obtain ⟨m, hm⟩ := k0; exact DataW.trod_lt m _ _ _ hm
  obtain ⟨l0, r_0, n0, z0⟩ : ∃ l, RowF W (.slice x0 len0 cap0) l ∧ 3 * l.length ≤ 1048576 ∧ sizeF l ≤ 1048576 := by
    obtain ⟨fuel, hf⟩ := h0
    exact open_files hf bk0
  have k1 := h1
  have lt1 : ∀ x ∈ p1, x.block < W.heap.size := by obtain ⟨m, hm⟩ := k1; exact DataW.trod_lt m _ _ _ hm
  obtain ⟨cs1, rfl, hcs1⟩ := okWide_struct Tryz.underlying26 (hval 1 26 v1 rfl rfl)
  obtain ⟨nm1, ma1, mb1, mc1, md1, da1, rfl, ln1, ld1⟩ := open_fileV h1 bk1
  obtain ⟨x2, len2, cap2, rfl⟩ := okWide_slice Tryz.underlying28 (hval 2 28 v2 rfl rfl)
  have k2 := h2
  have lt2 : ∀ x ∈ p2, x.block < W.heap.size := by obtain ⟨m, hm⟩ := k2; exact DataW.trod_lt m _ _ _ hm
  obtain ⟨c2, ri2, cb2, cl2⟩ : ∃ l : List Int, RowI W (.slice x2 len2 cap2) l ∧ (l ≠ [] → ∀ k, (Value.slice x2 len2 cap2).ownBlock = some k → k < W.heap.size) ∧ l.length ≤ 1048576 := by
    obtain ⟨fuel, hf⟩ := h2
    obtain ⟨l, q1, q2, q3⟩ := open_cuts hf
    exact ⟨l, q1, q2, Nat.le_trans q3 bk2⟩
  clear hA0
  refine (walk  W _ l0 r_0 n0 z0 nm1 ma1 mb1 mc1 md1 da1 ln1 ld1 _ c2 ri2 cb2 cl2).mono fun e W' ⟨he, bel⟩ => ?_
  subst he
  exact ⟨_, rfl, _, _, _, [], _, [], hW', trodAll_mk1 (shut_bool Tryz.underlying4 _), (trodAll_cons_mk (Below.trod laidOut (by kernel_rfl) (of_decide_eq_true (by kernel_rfl)) k0 bel lt0) (trodAll_cons_mk (Below.trod laidOut (by kernel_rfl) (of_decide_eq_true (by kernel_rfl)) k1 bel lt1) (trodAll_cons_mk (Below.trod laidOut (by kernel_rfl) (of_decide_eq_true (by kernel_rfl)) k2 bel lt2) trodAll_mk0))), rfl, bel.frame _, fun h => by cases h⟩
set_option maxRecDepth 100000 in
theorem lifted  (os : Os) (started : os.Started) (H : Type) (enc : TypeId × Value → H) (F : Stop.Interp) :
    ReturnsInHanded {} Tryz.checked os 6 .any ((Rows.OpenSpec.upto Rows.commitEveryCutSpec).pre6 enc Tryz.prog Tryz.f6 Rows.commitEveryCutUptoRow.domain false) (((Rows.OpenSpec.upto Rows.commitEveryCutSpec).at F).post enc Tryz.prog Tryz.f6 false true false false) := by
  refine returnsInHanded_of_cond (C := Tryz.checked) (s := Rows.OpenSpec.upto Rows.commitEveryCutSpec) (k := Rows.uptoSmall) rfl own started (by kernel_rfl) Tryz.func6
    (OpenSpec.witness (enc := enc) (C := Tryz.checked) (s := Rows.OpenSpec.upto Rows.commitEveryCutSpec) (k := Rows.uptoSmall) rfl false ⟨#[], #[.slice none 0 0, .agg #[.string .empty, .int .i64 0, .int .i64 0, .int .i64 0, .int .i64 0, .string .empty], .slice none 0 0], []⟩ 8 (by kernel_rfl) (by kernel_rfl) (by kernel_rfl)
      (x := ([.nil, .agg [.lit (.string []), .agg [.lit (.int .i64 0), .lit (.int .i64 0), .lit (.int .i64 0), .lit (.int .i64 0)], .lit (.string [])], .nil], [], [])) (by kernel_rfl) rfl (by kernel_rfl)) ?_
  intro W base args ds gs before hval hW _ hk _
  exact contract  H enc W base args ds gs before hval hW hk
theorem proved  : Rows.CommitEveryCutUptoSaid :=
  OpenClaim.holds_of_cond 6 Tryz.f6 rfl rfl rfl rfl rfl rfl rfl ⟨rfl, rfl, rfl, rfl, rfl⟩ rfl rfl rfl rfl rfl (by kernel_rfl) Tryz.func6 (by kernel_rfl)
    (of_decide_eq_true (by kernel_rfl)) (by unfold Func.isWrapper; first | (rw [if_pos (by decide +kernel)]; kernel_rfl) | (rw [if_neg (by decide +kernel)]; exact ⟨rfl, rfl⟩))
    (fun os started H enc _ F => lifted  os started H enc F)
end Go.Proofs.YtbbblncoicjacaaGreat.commitEveryCut
namespace Go.Proofs.YtbbblncoicjacaaGreat
theorem commitEveryCut_holds  : Rows.CommitEveryCutUptoSaid := commitEveryCut.proved 
#print axioms commitEveryCut_holds
end Go.Proofs.YtbbblncoicjacaaGreat
