
-- Proof of the given statement about CommitLeftover, second form. The frame follows the guide's toys for such a statement and for a slice that came in; the walk and the lemmas are ours.
import Derived.Test.YtbbblncoicjacaaGreatRows
import Derived.Test.YtbbblncoicjacaaGreatLV
import Derived.Test.YtbbblncoicjacaaGreatOF
import Derived.Test.YtbbblncoicjacaaGreatVC
import Derived.WalkKit
import Derived.ProofKit
import Derived.OpenShut
import Derived.ShutString
import Derived.ChangeOld
import Derived.Below
import Derived.JoinedCond
import Derived.Deep.RegionWith
namespace Go.Proofs.YtbbblncoicjacaaGreat.commitLeftover
open Go.ChangeShapes Go.WideShapes Go.ChangeAt Go.RowKit
open Go.ChangeMaps (open_string shut_string)
set_option linter.unusedVariables false

theorem own : ownKnob Tryz.prog.godebug = none := by kernel_rfl
theorem laidOut : laidOutB Tryz.prog = true := by kernel_rfl

theorem walk  (w : World) (a0 : Int) (w0 : (Lit.int .i64 a0).wf = true) (v1 : Value) (l1 : List Fil) (r1 : RowF w v1 l1) (n1 : 3 * l1.length ≤ 1048576) (z1 : sizeF l1 ≤ 1048576) (nm2 : ByteArray) (ma2 mb2 mc2 md2 : Int) (da2 : ByteArray) (ln2 : nm2.size ≤ 1048576) (ld2 : da2.size ≤ 1048576) (nm3 : ByteArray) (ma3 mb3 mc3 md3 : Int) (da3 : ByteArray) (ln3 : nm3.size ≤ 1048576) (ld3 : da3.size ≤ 1048576) (v4 : Value) (p4 : List Flt) (rp4 : RowP w v4 p4) (pb4 : p4 ≠ [] → ∀ k, v4.ownBlock = some k → k < w.heap.size) (pl4 : p4.length ≤ 1048576) (a5 : Int) (w5 : (Lit.int .i64 a5).wf = true) (v6 : Value) (c6 : List Int) (ri6 : RowI w v6 c6) (cb6 : c6 ≠ [] → ∀ k, v6.ownBlock = some k → k < w.heap.size) (cl6 : c6.length ≤ 1048576) :
    Calls Tryz.prog 4 #[.int .i64 a0, v1, .agg #[.string nm2, .int .i64 ma2, .int .i64 mb2, .int .i64 mc2, .int .i64 md2, .string da2], .agg #[.string nm3, .int .i64 ma3, .int .i64 mb3, .int .i64 mc3, .int .i64 md3, .string da3], v4, .int .i64 a5, v6] w fun e w' => e = .returned (.bool true) ∧ Below w.heap.size w w' := by
  exact leftover_w pcx a0 v1 l1 nm2 ma2 mb2 mc2 md2 da2 nm3 ma3 mb3 mc3 md3 da3 v4 p4 a5 v6 c6 w r1 n1 z1 ld2 ld3 ln3 rp4 pb4 pl4 ri6 cb6 cl6
set_option maxRecDepth 100000 in
theorem contract  (H : Type) (enc : TypeId × Value → H) (W : World) (base : Nat) (args : Array Value) (ds gs : List (DataW H)) (before : List MemPlace)
    (hval : ∀ (j : Nat) t v, Tryz.f4.params[j]? = some t → args[j]? = some v → Value.okWide Tryz.prog W .any base t v)
    (hW : DataW.Whole enc Tryz.prog Tryz.f4.params.toList Rows.commitLeftoverSpec.vars false W args.toList ds gs before) (hk : Rows.uptoSmall H (ds ++ gs) = true) :
    Calls Tryz.prog 4 args W fun e W' => ∃ v, e = .returned v ∧ Rows.commitLeftoverSpec.post enc Tryz.prog Tryz.f4 false true false false W args v W' := by
  have hW' := hW
  obtain ⟨p, q, hA0, hV, rfl, hfz, hnd⟩ := hW
  have hA : DataW.TrodAll enc Tryz.prog W 0 (fun _ => true) true Tryz.f4.params.toList args.toList ds p := hA0
  rw [Tryz.params4] at hA hval
  obtain ⟨v0, vs0, d0, ds0, p0, q0, hargs, rfl, rfl, h0, r0⟩ := trodAll_cons hA
  obtain ⟨v1, vs1, d1, ds1, p1, q1, rfl, rfl, rfl, h1, r1⟩ := trodAll_cons r0
  obtain ⟨v2, vs2, d2, ds2, p2, q2, rfl, rfl, rfl, h2, r2⟩ := trodAll_cons r1
  obtain ⟨v3, vs3, d3, ds3, p3, q3, rfl, rfl, rfl, h3, r3⟩ := trodAll_cons r2
  obtain ⟨v4, vs4, d4, ds4, p4, q4, rfl, rfl, rfl, h4, r4⟩ := trodAll_cons r3
  obtain ⟨v5, vs5, d5, ds5, p5, q5, rfl, rfl, rfl, h5, r5⟩ := trodAll_cons r4
  obtain ⟨v6, vs6, d6, ds6, p6, q6, rfl, rfl, rfl, h6, r6⟩ := trodAll_cons r5
  obtain ⟨rfl, rfl, rfl⟩ := trodAll_nil r6
  obtain rfl : args = #[v0, v1, v2, v3, v4, v5, v6] := by have h := congrArg List.toArray hargs; rw [Array.toArray_toList] at h; exact h
  obtain ⟨rfl, rfl⟩ := trodVars_none hV
  simp only [List.append_nil] at hk
  have hBk : Rows.uptoBulkAll [d0, d1, d2, d3, d4, d5, d6] ≤ 1048576 := of_decide_eq_true hk
  have bk0 : Rows.uptoBulk d0 ≤ 1048576 := Nat.le_trans (bulk_memM _ _ (by simp)) hBk
  have bk1 : Rows.uptoBulk d1 ≤ 1048576 := Nat.le_trans (bulk_memM _ _ (by simp)) hBk
  have bk2 : Rows.uptoBulk d2 ≤ 1048576 := Nat.le_trans (bulk_memM _ _ (by simp)) hBk
  have bk3 : Rows.uptoBulk d3 ≤ 1048576 := Nat.le_trans (bulk_memM _ _ (by simp)) hBk
  have bk4 : Rows.uptoBulk d4 ≤ 1048576 := Nat.le_trans (bulk_memM _ _ (by simp)) hBk
  have bk5 : Rows.uptoBulk d5 ≤ 1048576 := Nat.le_trans (bulk_memM _ _ (by simp)) hBk
  have bk6 : Rows.uptoBulk d6 ≤ 1048576 := Nat.le_trans (bulk_memM _ _ (by simp)) hBk
  obtain ⟨a0, rfl, rfl, rfl, w0⟩ := open_int Tryz.underlying3 (hval 0 3 v0 rfl rfl) h0
  obtain ⟨x1, len1, cap1, rfl⟩ := okWide_slice Tryz.underlying22 (hval 1 22 v1 rfl rfl)
  have k1 := h1
  have lt1 : ∀ x ∈ p1, x.block < W.heap.size := by obtain ⟨m, hm⟩ := k1; exact DataW.trod_lt m _ _ _ hm
  obtain ⟨l1, r_1, n1, z1⟩ : ∃ l, RowF W (.slice x1 len1 cap1) l ∧ 3 * l.length ≤ 1048576 ∧ sizeF l ≤ 1048576 := by
    obtain ⟨fuel, hf⟩ := h1
    exact open_files hf bk1
  have k2 := h2
  have lt2 : ∀ x ∈ p2, x.block < W.heap.size := by obtain ⟨m, hm⟩ := k2; exact DataW.trod_lt m _ _ _ hm
  obtain ⟨cs2, rfl, hcs2⟩ := okWide_struct Tryz.underlying26 (hval 2 26 v2 rfl rfl)
  obtain ⟨nm2, ma2, mb2, mc2, md2, da2, rfl, ln2, ld2⟩ := open_fileV h2 bk2
  have k3 := h3
  have lt3 : ∀ x ∈ p3, x.block < W.heap.size := by obtain ⟨m, hm⟩ := k3; exact DataW.trod_lt m _ _ _ hm
  obtain ⟨cs3, rfl, hcs3⟩ := okWide_struct Tryz.underlying26 (hval 3 26 v3 rfl rfl)
  obtain ⟨nm3, ma3, mb3, mc3, md3, da3, rfl, ln3, ld3⟩ := open_fileV h3 bk3
  obtain ⟨x4, len4, cap4, rfl⟩ := okWide_slice Tryz.underlying27 (hval 4 27 v4 rfl rfl)
  have k4 := h4
  have lt4 : ∀ x ∈ p4, x.block < W.heap.size := by obtain ⟨m, hm⟩ := k4; exact DataW.trod_lt m _ _ _ hm
  obtain ⟨pn4, rp4, pb4, pl4⟩ : ∃ l : List Flt, RowP W (.slice x4 len4 cap4) l ∧ (l ≠ [] → ∀ k, (Value.slice x4 len4 cap4).ownBlock = some k → k < W.heap.size) ∧ l.length ≤ 1048576 := by
    obtain ⟨fuel, hf⟩ := h4
    obtain ⟨l, q1, q2, q3⟩ := open_plan hf
    exact ⟨l, q1, q2, Nat.le_trans q3 bk4⟩
  obtain ⟨a5, rfl, rfl, rfl, w5⟩ := open_int Tryz.underlying3 (hval 5 3 v5 rfl rfl) h5
  obtain ⟨x6, len6, cap6, rfl⟩ := okWide_slice Tryz.underlying28 (hval 6 28 v6 rfl rfl)
  have k6 := h6
  have lt6 : ∀ x ∈ p6, x.block < W.heap.size := by obtain ⟨m, hm⟩ := k6; exact DataW.trod_lt m _ _ _ hm
  obtain ⟨c6, ri6, cb6, cl6⟩ : ∃ l : List Int, RowI W (.slice x6 len6 cap6) l ∧ (l ≠ [] → ∀ k, (Value.slice x6 len6 cap6).ownBlock = some k → k < W.heap.size) ∧ l.length ≤ 1048576 := by
    obtain ⟨fuel, hf⟩ := h6
    obtain ⟨l, q1, q2, q3⟩ := open_cuts hf
    exact ⟨l, q1, q2, Nat.le_trans q3 bk6⟩
  clear hA0
  refine (walk  W a0 w0 _ l1 r_1 n1 z1 nm2 ma2 mb2 mc2 md2 da2 ln2 ld2 nm3 ma3 mb3 mc3 md3 da3 ln3 ld3 _ pn4 rp4 pb4 pl4 a5 w5 _ c6 ri6 cb6 cl6).mono fun e W' ⟨he, bel⟩ => ?_
  subst he
  exact ⟨_, rfl, _, _, _, [], _, [], hW', trodAll_mk1 (shut_bool Tryz.underlying4 _), (trodAll_cons_mk (shut_int Tryz.underlying3 w0) (trodAll_cons_mk (Below.trod laidOut (by kernel_rfl) (of_decide_eq_true (by kernel_rfl)) k1 bel lt1) (trodAll_cons_mk (Below.trod laidOut (by kernel_rfl) (of_decide_eq_true (by kernel_rfl)) k2 bel lt2) (trodAll_cons_mk (Below.trod laidOut (by kernel_rfl) (of_decide_eq_true (by kernel_rfl)) k3 bel lt3) (trodAll_cons_mk (Below.trod laidOut (by kernel_rfl) (of_decide_eq_true (by kernel_rfl)) k4 bel lt4) (trodAll_cons_mk (shut_int Tryz.underlying3 w5) (trodAll_cons_mk (Below.trod laidOut (by kernel_rfl) (of_decide_eq_true (by kernel_rfl)) k6 bel lt6) trodAll_mk0))))))), rfl, bel.frame _, fun h => by cases h⟩
set_option maxRecDepth 100000 in
theorem lifted  (os : Os) (started : os.Started) (H : Type) (enc : TypeId × Value → H) (F : Stop.Interp) :
    ReturnsInHanded {} Tryz.checked os 4 .any ((Rows.OpenSpec.upto Rows.commitLeftoverSpec).pre6 enc Tryz.prog Tryz.f4 Rows.commitLeftoverUptoRow.domain false) (((Rows.OpenSpec.upto Rows.commitLeftoverSpec).at F).post enc Tryz.prog Tryz.f4 false true false false) := by
  refine returnsInHanded_of_cond (C := Tryz.checked) (s := Rows.OpenSpec.upto Rows.commitLeftoverSpec) (k := Rows.uptoSmall) rfl own started (by kernel_rfl) Tryz.func4
    (OpenSpec.witness (enc := enc) (C := Tryz.checked) (s := Rows.OpenSpec.upto Rows.commitLeftoverSpec) (k := Rows.uptoSmall) rfl false ⟨#[], #[.int .i64 0, .slice none 0 0, .agg #[.string .empty, .int .i64 0, .int .i64 0, .int .i64 0, .int .i64 0, .string .empty], .agg #[.string .empty, .int .i64 0, .int .i64 0, .int .i64 0, .int .i64 0, .string .empty], .slice none 0 0, .int .i64 0, .slice none 0 0], []⟩ 8 (by kernel_rfl) (by kernel_rfl) (by kernel_rfl)
      (x := ([.lit (.int .i64 0), .nil, .agg [.lit (.string []), .agg [.lit (.int .i64 0), .lit (.int .i64 0), .lit (.int .i64 0), .lit (.int .i64 0)], .lit (.string [])], .agg [.lit (.string []), .agg [.lit (.int .i64 0), .lit (.int .i64 0), .lit (.int .i64 0), .lit (.int .i64 0)], .lit (.string [])], .nil, .lit (.int .i64 0), .nil], [], [])) (by kernel_rfl) rfl (by kernel_rfl)) ?_
  intro W base args ds gs before hval hW _ hk _
  exact contract  H enc W base args ds gs before hval hW hk
theorem proved  : Rows.CommitLeftoverUptoSaid :=
  OpenClaim.holds_of_cond 4 Tryz.f4 rfl rfl rfl rfl rfl rfl rfl ⟨rfl, rfl, rfl, rfl, rfl⟩ rfl rfl rfl rfl rfl (by kernel_rfl) Tryz.func4 (by kernel_rfl)
    (of_decide_eq_true (by kernel_rfl)) (by unfold Func.isWrapper; first | (rw [if_pos (by decide +kernel)]; kernel_rfl) | (rw [if_neg (by decide +kernel)]; exact ⟨rfl, rfl⟩))
    (fun os started H enc _ F => lifted  os started H enc F)
end Go.Proofs.YtbbblncoicjacaaGreat.commitLeftover
namespace Go.Proofs.YtbbblncoicjacaaGreat
theorem commitLeftover_holds  : Rows.CommitLeftoverUptoSaid := commitLeftover.proved 
#print axioms commitLeftover_holds
end Go.Proofs.YtbbblncoicjacaaGreat
