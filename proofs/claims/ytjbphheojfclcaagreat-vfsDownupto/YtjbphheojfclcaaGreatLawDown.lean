
-- Proof of the given statement about VfsDown, second form. The frame follows the guide's toys for such a statement and for a slice that came in; the walk and the lemmas are ours.
import Derived.Test.YtjbphheojfclcaaGreatRows
import Derived.Test.YtjbphheojfclcaaGreatZW
import Derived.Test.YtjbphheojfclcaaGreatEO
import Derived.Test.YtjbphheojfclcaaGreatZO
import Derived.Test.YtjbphheojfclcaaGreatVC
import Derived.WalkKit
import Derived.ProofKit
import Derived.OpenShut
import Derived.ShutString
import Derived.ChangeOld
import Derived.Below
import Derived.JoinedCond
import Derived.Deep.RegionWith
namespace Go.Proofs.YtjbphheojfclcaaGreat.vfsDown
open Go.ChangeShapes Go.WideShapes Go.ChangeAt Go.RowKit
open Go.ChangeMaps (open_string shut_string)
set_option linter.unusedVariables false

theorem own : ownKnob Tryz.prog.godebug = none := by kernel_rfl
theorem laidOut : laidOutB Tryz.prog = true := by kernel_rfl

theorem walk  (w : World) (a0 : Int) (w0 : (Lit.int .i64 a0).wf = true) (v1 : Value) (ops1 : List Opv) (ro1 : RowV w v1 ops1) (ok1 : ∀ (i : Nat) (o : Opv), ops1[i]? = some o → OpvOk w.heap.size o w) (v2 : Value) (ops2 : List Opv) (ro2 : RowV w v2 ops2) (ok2 : ∀ (i : Nat) (o : Opv), ops2[i]? = some o → OpvOk w.heap.size o w) (a3 : Int) (w3 : (Lit.int .i64 a3).wf = true) (v4 : Value) (c4 : List Int) (ri4 : RowI w v4 c4) (cb4 : c4 ≠ [] → ∀ k, v4.ownBlock = some k → k < w.heap.size) (cl4 : c4.length ≤ 1048576) (v5 : Value) (ops5 : List Opv) (ro5 : RowV w v5 ops5) (ok5 : ∀ (i : Nat) (o : Opv), ops5[i]? = some o → OpvOk w.heap.size o w) (hsum : ops1.length + ops2.length + ops5.length ≤ 1048576) :
    Calls Tryz.prog 8 #[.int .i64 a0, v1, v2, .int .i64 a3, v4, v5] w fun e w' => e = .returned (.bool true) ∧ Below w.heap.size w w' := by
  exact vfsDown_w pcx a0 v1 ops1 v2 ops2 a3 v4 c4 v5 ops5 w ro1 ok1 ro2 ok2 ro5 ok5 hsum ri4 cb4 cl4
set_option maxRecDepth 100000 in
theorem contract  (H : Type) (enc : TypeId × Value → H) (W : World) (base : Nat) (args : Array Value) (ds gs : List (DataW H)) (before : List MemPlace)
    (hval : ∀ (j : Nat) t v, Tryz.f8.params[j]? = some t → args[j]? = some v → Value.okWide Tryz.prog W .any base t v)
    (hW : DataW.Whole enc Tryz.prog Tryz.f8.params.toList Rows.vfsDownSpec.vars false W args.toList ds gs before) (hk : Rows.uptoSmall H (ds ++ gs) = true) :
    Calls Tryz.prog 8 args W fun e W' => ∃ v, e = .returned v ∧ Rows.vfsDownSpec.post enc Tryz.prog Tryz.f8 false true false false W args v W' := by
  have hW' := hW
  obtain ⟨p, q, hA0, hV, rfl, hfz, hnd⟩ := hW
  have hA : DataW.TrodAll enc Tryz.prog W 0 (fun _ => true) true Tryz.f8.params.toList args.toList ds p := hA0
  rw [Tryz.params8] at hA hval
  obtain ⟨v0, vs0, d0, ds0, p0, q0, hargs, rfl, rfl, h0, r0⟩ := trodAll_cons hA
  obtain ⟨v1, vs1, d1, ds1, p1, q1, rfl, rfl, rfl, h1, r1⟩ := trodAll_cons r0
  obtain ⟨v2, vs2, d2, ds2, p2, q2, rfl, rfl, rfl, h2, r2⟩ := trodAll_cons r1
  obtain ⟨v3, vs3, d3, ds3, p3, q3, rfl, rfl, rfl, h3, r3⟩ := trodAll_cons r2
  obtain ⟨v4, vs4, d4, ds4, p4, q4, rfl, rfl, rfl, h4, r4⟩ := trodAll_cons r3
  obtain ⟨v5, vs5, d5, ds5, p5, q5, rfl, rfl, rfl, h5, r5⟩ := trodAll_cons r4
  obtain ⟨rfl, rfl, rfl⟩ := trodAll_nil r5
  obtain rfl : args = #[v0, v1, v2, v3, v4, v5] := by have h := congrArg List.toArray hargs; rw [Array.toArray_toList] at h; exact h
  obtain ⟨rfl, rfl⟩ := trodVars_none hV
  simp only [List.append_nil] at hk
  have hBk : Rows.uptoBulkAll [d0, d1, d2, d3, d4, d5] ≤ 1048576 := of_decide_eq_true hk
  have bk0 : Rows.uptoBulk d0 ≤ 1048576 := Nat.le_trans (bulk_memM _ _ (by simp)) hBk
  have bk1 : Rows.uptoBulk d1 ≤ 1048576 := Nat.le_trans (bulk_memM _ _ (by simp)) hBk
  have bk2 : Rows.uptoBulk d2 ≤ 1048576 := Nat.le_trans (bulk_memM _ _ (by simp)) hBk
  have bk3 : Rows.uptoBulk d3 ≤ 1048576 := Nat.le_trans (bulk_memM _ _ (by simp)) hBk
  have bk4 : Rows.uptoBulk d4 ≤ 1048576 := Nat.le_trans (bulk_memM _ _ (by simp)) hBk
  have bk5 : Rows.uptoBulk d5 ≤ 1048576 := Nat.le_trans (bulk_memM _ _ (by simp)) hBk
  obtain ⟨a0, rfl, rfl, rfl, w0⟩ := open_int Tryz.underlying3 (hval 0 3 v0 rfl rfl) h0
  obtain ⟨x1, len1, cap1, rfl⟩ := okWide_slice Tryz.underlying47 (hval 1 47 v1 rfl rfl)
  have k1 := h1
  have lt1 : ∀ x ∈ p1, x.block < W.heap.size := by obtain ⟨m, hm⟩ := k1; exact DataW.trod_lt m _ _ _ hm
  obtain ⟨ops1, ro1, ok1, ll1⟩ : ∃ ops, RowV W (.slice x1 len1 cap1) ops ∧ (∀ (i : Nat) (o : Opv), ops[i]? = some o → OpvOk W.heap.size o W) ∧ ops.length ≤ Rows.uptoBulk d1 := by
    obtain ⟨fuel, hf⟩ := h1
    exact open_ops hf bk1
  obtain ⟨x2, len2, cap2, rfl⟩ := okWide_slice Tryz.underlying47 (hval 2 47 v2 rfl rfl)
  have k2 := h2
  have lt2 : ∀ x ∈ p2, x.block < W.heap.size := by obtain ⟨m, hm⟩ := k2; exact DataW.trod_lt m _ _ _ hm
  obtain ⟨ops2, ro2, ok2, ll2⟩ : ∃ ops, RowV W (.slice x2 len2 cap2) ops ∧ (∀ (i : Nat) (o : Opv), ops[i]? = some o → OpvOk W.heap.size o W) ∧ ops.length ≤ Rows.uptoBulk d2 := by
    obtain ⟨fuel, hf⟩ := h2
    exact open_ops hf bk2
  obtain ⟨a3, rfl, rfl, rfl, w3⟩ := open_int Tryz.underlying3 (hval 3 3 v3 rfl rfl) h3
  obtain ⟨x4, len4, cap4, rfl⟩ := okWide_slice Tryz.underlying37 (hval 4 37 v4 rfl rfl)
  have k4 := h4
  have lt4 : ∀ x ∈ p4, x.block < W.heap.size := by obtain ⟨m, hm⟩ := k4; exact DataW.trod_lt m _ _ _ hm
  obtain ⟨c4, ri4, cb4, cl4⟩ : ∃ l : List Int, RowI W (.slice x4 len4 cap4) l ∧ (l ≠ [] → ∀ k, (Value.slice x4 len4 cap4).ownBlock = some k → k < W.heap.size) ∧ l.length ≤ 1048576 := by
    obtain ⟨fuel, hf⟩ := h4
    obtain ⟨l, q1, q2, q3⟩ := open_cuts hf
    exact ⟨l, q1, q2, Nat.le_trans q3 bk4⟩
  obtain ⟨x5, len5, cap5, rfl⟩ := okWide_slice Tryz.underlying47 (hval 5 47 v5 rfl rfl)
  have k5 := h5
  have lt5 : ∀ x ∈ p5, x.block < W.heap.size := by obtain ⟨m, hm⟩ := k5; exact DataW.trod_lt m _ _ _ hm
  obtain ⟨ops5, ro5, ok5, ll5⟩ : ∃ ops, RowV W (.slice x5 len5 cap5) ops ∧ (∀ (i : Nat) (o : Opv), ops[i]? = some o → OpvOk W.heap.size o W) ∧ ops.length ≤ Rows.uptoBulk d5 := by
    obtain ⟨fuel, hf⟩ := h5
    exact open_ops hf bk5
  have hsum : ops1.length + ops2.length + ops5.length ≤ 1048576 := by
    simp only [Rows.uptoBulkAll] at hBk
    omega
  clear hA0
  have hwalk := walk  W a0 w0 _ ops1 ro1 ok1 _ ops2 ro2 ok2 a3 w3 _ c4 ri4 cb4 cl4 _ ops5 ro5 ok5 hsum
  refine hwalk.mono fun e W' ⟨he, bel⟩ => ?_
  subst he
  exact ⟨_, rfl, _, _, _, [], _, [], hW', trodAll_mk1 (shut_bool Tryz.underlying4 _), (trodAll_cons_mk (shut_int Tryz.underlying3 w0) (trodAll_cons_mk (Below.trod laidOut (by kernel_rfl) (of_decide_eq_true (by kernel_rfl)) k1 bel lt1) (trodAll_cons_mk (Below.trod laidOut (by kernel_rfl) (of_decide_eq_true (by kernel_rfl)) k2 bel lt2) (trodAll_cons_mk (shut_int Tryz.underlying3 w3) (trodAll_cons_mk (Below.trod laidOut (by kernel_rfl) (of_decide_eq_true (by kernel_rfl)) k4 bel lt4) (trodAll_cons_mk (Below.trod laidOut (by kernel_rfl) (of_decide_eq_true (by kernel_rfl)) k5 bel lt5) trodAll_mk0)))))), rfl, bel.frame _, fun h => by cases h⟩
set_option maxRecDepth 100000 in
theorem lifted  (os : Os) (started : os.Started) (H : Type) (enc : TypeId × Value → H) (F : Stop.Interp) :
    ReturnsInHanded {} Tryz.checked os 8 .any ((Rows.OpenSpec.upto Rows.vfsDownSpec).pre6 enc Tryz.prog Tryz.f8 Rows.vfsDownUptoRow.domain false) (((Rows.OpenSpec.upto Rows.vfsDownSpec).at F).post enc Tryz.prog Tryz.f8 false true false false) := by
  refine returnsInHanded_of_cond (C := Tryz.checked) (s := Rows.OpenSpec.upto Rows.vfsDownSpec) (k := Rows.uptoSmall) rfl own started (by kernel_rfl) Tryz.func8
    (OpenSpec.witness (enc := enc) (C := Tryz.checked) (s := Rows.OpenSpec.upto Rows.vfsDownSpec) (k := Rows.uptoSmall) rfl false ⟨#[], #[.int .i64 0, .slice none 0 0, .slice none 0 0, .int .i64 0, .slice none 0 0, .slice none 0 0], []⟩ 8 (by kernel_rfl) (by kernel_rfl) (by kernel_rfl)
      (x := ([.lit (.int .i64 0), .nil, .nil, .lit (.int .i64 0), .nil, .nil], [], [])) (by kernel_rfl) rfl (by kernel_rfl)) ?_
  intro W base args ds gs before hval hW _ hk _
  exact contract  H enc W base args ds gs before hval hW hk
theorem proved  : Rows.VfsDownUptoSaid :=
  OpenClaim.holds_of_cond 8 Tryz.f8 rfl rfl rfl rfl rfl rfl rfl ⟨rfl, rfl, rfl, rfl, rfl⟩ rfl rfl rfl rfl rfl (by kernel_rfl) Tryz.func8 (by kernel_rfl)
    (of_decide_eq_true (by kernel_rfl)) (by unfold Func.isWrapper; first | (rw [if_pos (by decide +kernel)]; kernel_rfl) | (rw [if_neg (by decide +kernel)]; exact ⟨rfl, rfl⟩))
    (fun os started H enc _ F => lifted  os started H enc F)
end Go.Proofs.YtjbphheojfclcaaGreat.vfsDown
namespace Go.Proofs.YtjbphheojfclcaaGreat
theorem vfsDown_holds  : Rows.VfsDownUptoSaid := vfsDown.proved 
#print axioms vfsDown_holds
end Go.Proofs.YtjbphheojfclcaaGreat
