
-- Proof of the given card about MriSpelled, second form. The frame follows the guide's toy for a law over a table; the walk and the lemmas are ours.
import Derived.Test.YtdamhdceajmdfaaDoorCards
import Derived.Test.YtdamhdceajmdfaaDoorTie
import Derived.Test.YtdamhdceajmdfaaDoorOC
import Derived.Test.YtdamhdceajmdfaaDoorTT
import Derived.Test.YtdamhdceajmdfaaDoorTU
import Derived.Test.YtdamhdceajmdfaaDoorSX
import Derived.WalkKit
import Derived.ProofKit
import Derived.OpenShut
import Derived.ShutString
import Derived.Deep.DeepHandedRow
import Derived.Lib.LaidTab
import Derived.Below
import Derived.ChangeOld
import Derived.Stop.LaidErr
namespace Go.Proofs.YtdamhdceajmdfaaDoor.mriSpelled
open Go.ChangeShapes Go.WideShapes Go.ChangeAt Go.RowKit
open Go.ChangeMaps (open_string shut_string)
set_option linter.unusedVariables false
set_option maxRecDepth 100000

theorem own : ownKnob Tryd.prog.godebug = none := by kernel_rfl
theorem laidOut : laidOutB Tryd.prog = true := by kernel_rfl
theorem tabs0 {W : World} (h : laidMetH Tryd.prog Rows.mriSpelledUptoRow.laid W) : VT W := vt_of (h)
theorem tabs1 {W : World} (h : laidMetH Tryd.prog Rows.mriSpelledUptoRow.laid W) : LT W := lt_of (h.tail)
theorem bulk_mem {H : Type} : ∀ (l : List (DataW H)) (d : DataW H), d ∈ l → Rows.uptoBulk d ≤ Rows.uptoBulkAll l
  | [], d, h => by cases h
  | x :: r, d, h => by
    simp only [Rows.uptoBulkAll]
    rcases List.mem_cons.1 h with rfl | h
    · omega
    · have := bulk_mem r d h; omega

theorem walk  (w : World) (v0 : Value) (l0 : List (Mr × Value)) (r0 : RowR w v0 l0) (t0 : totR (l0.map (·.1)) ≤ 1048576) (a1 : Int) (w1 : (Lit.int .i64 a1).wf = true) (hM0 : VT w) (hM1 : LT w) :
    Calls Tryd.prog 5 #[v0, .int .i64 a1] w fun e w' => e = .returned (.bool true) ∧ Below w.heap.size w w' := by
  exact mriSpelled_w v0 l0 a1 w hM0 hM1 r0 t0
theorem contract  (H : Type) (enc : TypeId × Value → H) (W : World) (base : Nat) (args : Array Value) (ds gs : List (DataW H)) (before : List MemPlace)
    (hval : ∀ (j : Nat) t v, Tryd.f5.params[j]? = some t → args[j]? = some v → Value.okWide Tryd.prog W .any base t v)
    (hW : DataW.Whole enc Tryd.prog Tryd.f5.params.toList Rows.mriSpelledSpec.vars false W args.toList ds gs before) (hL : laidMetH Tryd.prog Rows.mriSpelledUptoRow.laid W) (hk : Rows.uptoSmall H (ds ++ gs) = true) :
    Calls Tryd.prog 5 args W fun e W' => ∃ v, e = .returned v ∧ Rows.mriSpelledSpec.post enc Tryd.prog Tryd.f5 false true false false W args v W' := by
  have hW' := hW
  obtain ⟨p, q, hA0, hV, rfl, hfz, hnd⟩ := hW
  have hA : DataW.TrodAll enc Tryd.prog W 0 (fun _ => true) true Tryd.f5.params.toList args.toList ds p := hA0
  rw [Tryd.params5] at hA hval
  obtain ⟨v0, vs0, d0, ds0, p0, q0, hargs, rfl, rfl, h0, r0⟩ := trodAll_cons hA
  obtain ⟨v1, vs1, d1, ds1, p1, q1, rfl, rfl, rfl, h1, r1⟩ := trodAll_cons r0
  obtain ⟨rfl, rfl, rfl⟩ := trodAll_nil r1
  obtain rfl : args = #[v0, v1] := by have h := congrArg List.toArray hargs; rw [Array.toArray_toList] at h; exact h
  obtain ⟨rfl, rfl⟩ := trodVars_none hV
  simp only [List.append_nil] at hk
  have hBk : Rows.uptoBulkAll [d0, d1] ≤ 1048576 := of_decide_eq_true hk
  have bk0 : Rows.uptoBulk d0 ≤ 1048576 := Nat.le_trans (bulk_mem _ _ (by simp)) hBk
  have bk1 : Rows.uptoBulk d1 ≤ 1048576 := Nat.le_trans (bulk_mem _ _ (by simp)) hBk
  obtain ⟨x0, len0, cap0, rfl⟩ := okWide_slice Tryd.underlying22 (hval 0 22 v0 rfl rfl)
  have k0 := h0
  have lt0 : ∀ x ∈ p0, x.block < W.heap.size := by obtain ⟨m, hm⟩ := k0; exact DataW.trod_lt m _ _ _ hm
  obtain ⟨l0, r_0, t0⟩ : ∃ l, RowR W (.slice x0 len0 cap0) l ∧ totR (l.map (·.1)) ≤ 1048576 := by
    obtain ⟨fuel, hf⟩ := h0
    obtain ⟨l, b1, b2⟩ := open_cmds hf
    exact ⟨l, b1, by have b3 : totR (l.map (·.1)) + 1 ≤ Rows.uptoBulk d0 := b2; omega⟩
  obtain ⟨a1, rfl, rfl, rfl, w1⟩ := open_int Tryd.underlying3 (hval 1 3 v1 rfl rfl) h1
  clear hA0
  simp only [List.append_nil] at hW'
  refine (walk  W _ l0 r_0 t0 a1 w1 (tabs0 hL) (tabs1 hL)).mono fun e W' ⟨he, hg⟩ => ?_
  subst he
  exact ⟨_, rfl, _, _, _, [], _, [], hW', trodAll_cons_mk (shut_bool Tryd.underlying4 _) trodAll_mk0, (trodAll_cons_mk (Below.trod laidOut (by kernel_rfl) (of_decide_eq_true (by kernel_rfl)) k0 hg lt0) (trodAll_cons_mk (shut_int Tryd.underlying3 w1) trodAll_mk0)), rfl, hg.frame _, fun h => by cases h⟩
theorem laid_met (os : Os) : laidMet Tryd.prog Rows.mriSpelledUptoRow.laid (({ (World.holding Tryd.prog os ⟨#[], #[], []⟩) with heap := (((World.holding Tryd.prog os ⟨#[], #[], []⟩).heap.modify 2 fun
      | .cells _ t frozen => .cells #[.string ⟨#[]⟩, .bool false, .int .i64 0, .string ⟨#[67, 82, 69, 65, 84, 69]⟩, .bool true, .int .i64 0, .string ⟨#[79, 80, 69, 78]⟩, .bool true, .int .i64 0, .string ⟨#[65, 68, 68, 77, 79, 68]⟩, .bool false, .int .i64 1, .string ⟨#[65, 68, 68, 76, 73, 66]⟩, .bool true, .int .i64 2, .string ⟨#[68, 69, 76, 69, 84, 69]⟩, .bool false, .int .i64 1, .string ⟨#[82, 69, 80, 76, 65, 67, 69]⟩, .bool false, .int .i64 1, .string ⟨#[69, 88, 84, 82, 65, 67, 84]⟩, .bool false, .int .i64 1, .string ⟨#[76, 73, 83, 84]⟩, .bool false, .int .i64 0, .string ⟨#[68, 73, 82, 69, 67, 84, 79, 82, 89]⟩, .bool true, .int .i64 2, .string ⟨#[86, 69, 82, 66, 79, 83, 69]⟩, .bool false, .int .i64 0, .string ⟨#[67, 76, 69, 65, 82]⟩, .bool false, .int .i64 0, .string ⟨#[83, 65, 86, 69]⟩, .bool false, .int .i64 0, .string ⟨#[69, 78, 68]⟩, .bool false, .int .i64 0] t frozen
      | o => o).modify 1 fun
      | .cells _ t frozen => .cells #[.string ⟨#[]⟩, .string ⟨#[99, 114, 101, 97, 116, 101]⟩, .string ⟨#[79, 112, 101, 110]⟩, .string ⟨#[97, 100, 100, 77, 79, 68]⟩, .string ⟨#[97, 68, 68, 76, 73, 66]⟩, .string ⟨#[100, 101, 108, 101, 116, 101]⟩, .string ⟨#[82, 101, 112, 108, 97, 99, 101]⟩, .string ⟨#[69, 88, 84, 82, 65, 67, 84]⟩, .string ⟨#[108, 105, 115, 116]⟩, .string ⟨#[100, 105, 114, 101, 99, 116, 111, 114, 121]⟩, .string ⟨#[118, 69, 114, 66, 111, 83, 101]⟩, .string ⟨#[67, 108, 101, 97, 114]⟩, .string ⟨#[83, 65, 86, 69]⟩, .string ⟨#[101, 110, 68]⟩] t frozen
      | o => o) } : World).forCall (fun _ _ => 0) ⟨#[], #[.slice none 0 0, .int .i64 0], []⟩).memory :=
  laidMet_of_run' 8 (by kernel_rfl) (by kernel_rfl)
theorem reads (os : Os) {H : Type} (enc : TypeId × Value → H) : ∃ places, DataW.whole enc Tryd.prog (({ (World.holding Tryd.prog os ⟨#[], #[], []⟩) with heap := (((World.holding Tryd.prog os ⟨#[], #[], []⟩).heap.modify 2 fun
      | .cells _ t frozen => .cells #[.string ⟨#[]⟩, .bool false, .int .i64 0, .string ⟨#[67, 82, 69, 65, 84, 69]⟩, .bool true, .int .i64 0, .string ⟨#[79, 80, 69, 78]⟩, .bool true, .int .i64 0, .string ⟨#[65, 68, 68, 77, 79, 68]⟩, .bool false, .int .i64 1, .string ⟨#[65, 68, 68, 76, 73, 66]⟩, .bool true, .int .i64 2, .string ⟨#[68, 69, 76, 69, 84, 69]⟩, .bool false, .int .i64 1, .string ⟨#[82, 69, 80, 76, 65, 67, 69]⟩, .bool false, .int .i64 1, .string ⟨#[69, 88, 84, 82, 65, 67, 84]⟩, .bool false, .int .i64 1, .string ⟨#[76, 73, 83, 84]⟩, .bool false, .int .i64 0, .string ⟨#[68, 73, 82, 69, 67, 84, 79, 82, 89]⟩, .bool true, .int .i64 2, .string ⟨#[86, 69, 82, 66, 79, 83, 69]⟩, .bool false, .int .i64 0, .string ⟨#[67, 76, 69, 65, 82]⟩, .bool false, .int .i64 0, .string ⟨#[83, 65, 86, 69]⟩, .bool false, .int .i64 0, .string ⟨#[69, 78, 68]⟩, .bool false, .int .i64 0] t frozen
      | o => o).modify 1 fun
      | .cells _ t frozen => .cells #[.string ⟨#[]⟩, .string ⟨#[99, 114, 101, 97, 116, 101]⟩, .string ⟨#[79, 112, 101, 110]⟩, .string ⟨#[97, 100, 100, 77, 79, 68]⟩, .string ⟨#[97, 68, 68, 76, 73, 66]⟩, .string ⟨#[100, 101, 108, 101, 116, 101]⟩, .string ⟨#[82, 101, 112, 108, 97, 99, 101]⟩, .string ⟨#[69, 88, 84, 82, 65, 67, 84]⟩, .string ⟨#[108, 105, 115, 116]⟩, .string ⟨#[100, 105, 114, 101, 99, 116, 111, 114, 121]⟩, .string ⟨#[118, 69, 114, 66, 111, 83, 101]⟩, .string ⟨#[67, 108, 101, 97, 114]⟩, .string ⟨#[83, 65, 86, 69]⟩, .string ⟨#[101, 110, 68]⟩] t frozen
      | o => o) } : World).forCall (fun _ _ => 0) ⟨#[], #[.slice none 0 0, .int .i64 0], []⟩).memory Tryd.f5.params.toList Rows.mriSpelledSpec.vars false (#[.slice none 0 0, .int .i64 0] : Array Value).toList 8 = some ([.nil, .lit (.int .i64 0)], [], places) :=
  ⟨[], by kernel_rfl⟩
set_option maxRecDepth 100000 in
theorem lifted  (os : Os) (started : os.Started) (H : Type) (enc : TypeId × Value → H) (F : Stop.Interp) :
    ReturnsInHanded {} Tryd.checked os 5 .any ((Rows.OpenSpec.upto Rows.mriSpelledSpec).preRow enc Tryd.prog Tryd.f5 Rows.mriSpelledUptoRow.domain false Rows.mriSpelledUptoRow.laid) (((Rows.OpenSpec.upto Rows.mriSpelledSpec).at F).post enc Tryd.prog Tryd.f5 false true false false) := by
  obtain ⟨places, hx⟩ := reads os enc
  refine returnsInHanded_of_row (C := Tryd.checked) (s := (Rows.OpenSpec.upto Rows.mriSpelledSpec)) own started (by kernel_rfl) Tryd.func5
    (witness_row_at (enc := enc) (C := Tryd.checked) false ({ (World.holding Tryd.prog os ⟨#[], #[], []⟩) with heap := (((World.holding Tryd.prog os ⟨#[], #[], []⟩).heap.modify 2 fun
      | .cells _ t frozen => .cells #[.string ⟨#[]⟩, .bool false, .int .i64 0, .string ⟨#[67, 82, 69, 65, 84, 69]⟩, .bool true, .int .i64 0, .string ⟨#[79, 80, 69, 78]⟩, .bool true, .int .i64 0, .string ⟨#[65, 68, 68, 77, 79, 68]⟩, .bool false, .int .i64 1, .string ⟨#[65, 68, 68, 76, 73, 66]⟩, .bool true, .int .i64 2, .string ⟨#[68, 69, 76, 69, 84, 69]⟩, .bool false, .int .i64 1, .string ⟨#[82, 69, 80, 76, 65, 67, 69]⟩, .bool false, .int .i64 1, .string ⟨#[69, 88, 84, 82, 65, 67, 84]⟩, .bool false, .int .i64 1, .string ⟨#[76, 73, 83, 84]⟩, .bool false, .int .i64 0, .string ⟨#[68, 73, 82, 69, 67, 84, 79, 82, 89]⟩, .bool true, .int .i64 2, .string ⟨#[86, 69, 82, 66, 79, 83, 69]⟩, .bool false, .int .i64 0, .string ⟨#[67, 76, 69, 65, 82]⟩, .bool false, .int .i64 0, .string ⟨#[83, 65, 86, 69]⟩, .bool false, .int .i64 0, .string ⟨#[69, 78, 68]⟩, .bool false, .int .i64 0] t frozen
      | o => o).modify 1 fun
      | .cells _ t frozen => .cells #[.string ⟨#[]⟩, .string ⟨#[99, 114, 101, 97, 116, 101]⟩, .string ⟨#[79, 112, 101, 110]⟩, .string ⟨#[97, 100, 100, 77, 79, 68]⟩, .string ⟨#[97, 68, 68, 76, 73, 66]⟩, .string ⟨#[100, 101, 108, 101, 116, 101]⟩, .string ⟨#[82, 101, 112, 108, 97, 99, 101]⟩, .string ⟨#[69, 88, 84, 82, 65, 67, 84]⟩, .string ⟨#[108, 105, 115, 116]⟩, .string ⟨#[100, 105, 114, 101, 99, 116, 111, 114, 121]⟩, .string ⟨#[118, 69, 114, 66, 111, 83, 101]⟩, .string ⟨#[67, 108, 101, 97, 114]⟩, .string ⟨#[83, 65, 86, 69]⟩, .string ⟨#[101, 110, 68]⟩] t frozen
      | o => o) } : World) #[.slice none 0 0, .int .i64 0] rfl (by kernel_rfl) (by kernel_rfl) (by kernel_rfl)
      (OpenSpec.preRow_of_cond 8 hx (by kernel_rfl) (fun k hk => by cases hk; rfl) (by kernel_rfl) (laid_met os))) ?_
  intro W base args ds gs before hval hW _ hcond _ hL _ _
  exact contract  H enc W base args ds gs before hval hW hL (hcond _ rfl)
theorem said  : Rows.MriSpelledUptoSaid :=
  OpenClaim.holds_of_cond 5 Tryd.f5 rfl rfl rfl rfl rfl rfl rfl ⟨rfl, rfl, rfl, rfl, rfl⟩ rfl rfl rfl rfl rfl (by kernel_rfl) Tryd.func5 (by kernel_rfl)
    (of_decide_eq_true (by kernel_rfl)) (by unfold Func.isWrapper; first | (rw [if_pos (by decide +kernel)]; kernel_rfl) | (rw [if_neg (by decide +kernel)]; exact ⟨rfl, rfl⟩))
    (fun os started H enc _ F => by rw [OpenClaim.pre_eq_preRow]; exact lifted  os started H enc F)
theorem plain (f : FuncId) (fn : Func) (hf : Tryd.pinned.checked.prog.funcNamed "shelf/shelflaw19.MriSpelled" = some f) (hfn : Tryd.pinned.checked.prog.funcs[f]? = some fn) :
    false = Tryd.pinned.checked.prog.looks [] ∧ ∀ (j : Nat) t, fn.params[j]? = some t → Tryd.pinned.checked.prog.wantsStandIn t = false := by
  obtain rfl : f = 5 := Option.some.inj ((show Tryd.prog.funcNamed "shelf/shelflaw19.MriSpelled" = some 5 by kernel_rfl).symm.trans hf) |>.symm
  obtain rfl : fn = Tryd.f5 := (Option.some.inj (Tryd.func5.symm.trans hfn)).symm
  refine ⟨by kernel_rfl, fun j t ht => ?_⟩
  rw [Tryd.params5] at ht
  have hmem := Array.mem_of_getElem? ht
  have s9 : Tryd.pinned.checked.prog.wantsStandIn 9 = false := by kernel_rfl
  have s4 : Tryd.pinned.checked.prog.wantsStandIn 4 = false := by kernel_rfl
  have sX : Tryd.pinned.checked.prog.wantsStandIn 28 = false := by kernel_rfl
  have sR : Tryd.pinned.checked.prog.wantsStandIn 22 = false := by kernel_rfl
  have s3 : Tryd.pinned.checked.prog.wantsStandIn 3 = false := by kernel_rfl
  have sM : Tryd.pinned.checked.prog.wantsStandIn 26 = false := by kernel_rfl
  simp at hmem
  first
    | (rcases hmem with rfl | rfl | rfl | rfl <;> assumption)
    | (rcases hmem with rfl | rfl | rfl <;> assumption)
    | (rcases hmem with rfl | rfl <;> assumption)
    | (subst hmem; assumption)
theorem card  : Rows.MriSpelledUptoCardSaid :=
  Claim7.holds_tied_plain_at .later [] _ _ _ _ (said ) (fun _ h => by cases h) (by kernel_rfl) (fun _ h => by cases h) mriSpelledUpto_row_tie rfl ⟨rfl, rfl⟩ (by kernel_rfl) rfl plain (by kernel_rfl)
end Go.Proofs.YtdamhdceajmdfaaDoor.mriSpelled
namespace Go.Proofs.YtdamhdceajmdfaaDoor
theorem mriSpelled_holds  : Rows.MriSpelledUptoCardSaid := mriSpelled.card 
#print axioms mriSpelled_holds
end Go.Proofs.YtdamhdceajmdfaaDoor
