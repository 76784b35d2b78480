
-- Proof of the given card about MriDecode, second form. The frame follows the guide's toy for a law over a table; the walk and the lemmas are ours.
import Derived.Test.YtdamhdceajmdfaaDoorCards
import Derived.Test.YtdamhdceajmdfaaDoorTie
import Derived.Test.YtdamhdceajmdfaaDoorTT
import Derived.Test.YtdamhdceajmdfaaDoorDW
import Derived.WalkKit
import Derived.ProofKit
import Derived.OpenShut
import Derived.ShutString
import Derived.Deep.DeepHandedRow
import Derived.Lib.LaidTab
import Derived.Below
import Derived.ChangeOld
import Derived.Stop.LaidErr
namespace Go.Proofs.YtdamhdceajmdfaaDoor.mriDecode
open Go.ChangeShapes Go.WideShapes Go.ChangeAt Go.RowKit
open Go.ChangeMaps (open_string shut_string)
set_option linter.unusedVariables false
set_option maxRecDepth 100000

theorem own : ownKnob Tryd.prog.godebug = none := by kernel_rfl
theorem laidOut : laidOutB Tryd.prog = true := by kernel_rfl
theorem tabs0 {W : World} (h : laidMetH Tryd.prog Rows.mriDecodeUptoRow.laid W) : WT W := wt_of (h)
theorem tabs1 {W : World} (h : laidMetH Tryd.prog Rows.mriDecodeUptoRow.laid W) : VT W := vt_of (h.tail)
theorem bulk_mem {H : Type} : ∀ (l : List (DataW H)) (d : DataW H), d ∈ l → Rows.uptoBulk d ≤ Rows.uptoBulkAll l
  | [], d, h => by cases h
  | x :: r, d, h => by
    simp only [Rows.uptoBulkAll]
    rcases List.mem_cons.1 h with rfl | h
    · omega
    · have := bulk_mem r d h; omega

theorem walk  (w : World) (a0 : ByteArray) (l0 : a0.size ≤ 1048576) (hM0 : WT w) (hM1 : VT w) :
    Calls Tryd.prog 6 #[.string a0] w fun e w' => e = .returned (.bool true) ∧ Below w.heap.size w w' := by
  exact mriDecode_w a0 w hM1 hM0 l0
theorem contract  (H : Type) (enc : TypeId × Value → H) (W : World) (base : Nat) (args : Array Value) (ds gs : List (DataW H)) (before : List MemPlace)
    (hval : ∀ (j : Nat) t v, Tryd.f6.params[j]? = some t → args[j]? = some v → Value.okWide Tryd.prog W .any base t v)
    (hW : DataW.Whole enc Tryd.prog Tryd.f6.params.toList Rows.mriDecodeSpec.vars false W args.toList ds gs before) (hL : laidMetH Tryd.prog Rows.mriDecodeUptoRow.laid W) (hk : Rows.uptoSmall H (ds ++ gs) = true) :
    Calls Tryd.prog 6 args W fun e W' => ∃ v, e = .returned v ∧ Rows.mriDecodeSpec.post enc Tryd.prog Tryd.f6 false true false false W args v W' := by
  have hW' := hW
  obtain ⟨p, q, hA0, hV, rfl, hfz, hnd⟩ := hW
  have hA : DataW.TrodAll enc Tryd.prog W 0 (fun _ => true) true Tryd.f6.params.toList args.toList ds p := hA0
  rw [Tryd.params6] at hA hval
  obtain ⟨v0, vs0, d0, ds0, p0, q0, hargs, rfl, rfl, h0, r0⟩ := trodAll_cons hA
  obtain ⟨rfl, rfl, rfl⟩ := trodAll_nil r0
  obtain rfl : args = #[v0] := by have h := congrArg List.toArray hargs; rw [Array.toArray_toList] at h; exact h
  obtain ⟨rfl, rfl⟩ := trodVars_none hV
  simp only [List.append_nil] at hk
  have hBk : Rows.uptoBulkAll [d0] ≤ 1048576 := of_decide_eq_true hk
  have bk0 : Rows.uptoBulk d0 ≤ 1048576 := Nat.le_trans (bulk_mem _ _ (by simp)) hBk
  obtain ⟨a0, rfl, rfl, rfl, w0⟩ := open_string Tryd.underlying9 (hval 0 9 v0 rfl rfl) h0
  have l0 : a0.size ≤ 1048576 := by
    have e : a0.data.toList.length = a0.size := by rw [Array.length_toList]; rfl
    simp only [Rows.uptoBulk] at bk0; omega
  clear hA0
  simp only [List.append_nil] at hW'
  refine (walk  W a0 l0 (tabs0 hL) (tabs1 hL)).mono fun e W' ⟨he, hg⟩ => ?_
  subst he
  exact ⟨_, rfl, _, _, _, [], _, [], hW', trodAll_cons_mk (shut_bool Tryd.underlying4 _) trodAll_mk0, (trodAll_cons_mk (shut_string Tryd.underlying9 w0) trodAll_mk0), rfl, hg.frame _, fun h => by cases h⟩
theorem laid_met (os : Os) : laidMet Tryd.prog Rows.mriDecodeUptoRow.laid (({ (World.holding Tryd.prog os ⟨#[], #[], []⟩) with heap := (((World.holding Tryd.prog os ⟨#[], #[], []⟩).heap.modify 0 fun
      | .cells _ t frozen => .cells #[.string ⟨#[]⟩, .string ⟨#[67, 82, 69, 65, 84, 69]⟩, .string ⟨#[79, 80, 69, 78]⟩, .string ⟨#[65, 68, 68, 77, 79, 68]⟩, .string ⟨#[65, 68, 68, 76, 73, 66]⟩, .string ⟨#[68, 69, 76, 69, 84, 69]⟩, .string ⟨#[82, 69, 80, 76, 65, 67, 69]⟩, .string ⟨#[69, 88, 84, 82, 65, 67, 84]⟩, .string ⟨#[76, 73, 83, 84]⟩, .string ⟨#[68, 73, 82, 69, 67, 84, 79, 82, 89]⟩, .string ⟨#[86, 69, 82, 66, 79, 83, 69]⟩, .string ⟨#[67, 76, 69, 65, 82]⟩, .string ⟨#[83, 65, 86, 69]⟩, .string ⟨#[69, 78, 68]⟩] t frozen
      | o => o).modify 2 fun
      | .cells _ t frozen => .cells #[.string ⟨#[]⟩, .bool false, .int .i64 0, .string ⟨#[67, 82, 69, 65, 84, 69]⟩, .bool true, .int .i64 0, .string ⟨#[79, 80, 69, 78]⟩, .bool true, .int .i64 0, .string ⟨#[65, 68, 68, 77, 79, 68]⟩, .bool false, .int .i64 1, .string ⟨#[65, 68, 68, 76, 73, 66]⟩, .bool true, .int .i64 2, .string ⟨#[68, 69, 76, 69, 84, 69]⟩, .bool false, .int .i64 1, .string ⟨#[82, 69, 80, 76, 65, 67, 69]⟩, .bool false, .int .i64 1, .string ⟨#[69, 88, 84, 82, 65, 67, 84]⟩, .bool false, .int .i64 1, .string ⟨#[76, 73, 83, 84]⟩, .bool false, .int .i64 0, .string ⟨#[68, 73, 82, 69, 67, 84, 79, 82, 89]⟩, .bool true, .int .i64 2, .string ⟨#[86, 69, 82, 66, 79, 83, 69]⟩, .bool false, .int .i64 0, .string ⟨#[67, 76, 69, 65, 82]⟩, .bool false, .int .i64 0, .string ⟨#[83, 65, 86, 69]⟩, .bool false, .int .i64 0, .string ⟨#[69, 78, 68]⟩, .bool false, .int .i64 0] t frozen
      | o => o) } : World).forCall (fun _ _ => 0) ⟨#[], #[.string ByteArray.empty], []⟩).memory :=
  laidMet_of_run' 8 (by kernel_rfl) (by kernel_rfl)
theorem reads (os : Os) {H : Type} (enc : TypeId × Value → H) : ∃ places, DataW.whole enc Tryd.prog (({ (World.holding Tryd.prog os ⟨#[], #[], []⟩) with heap := (((World.holding Tryd.prog os ⟨#[], #[], []⟩).heap.modify 0 fun
      | .cells _ t frozen => .cells #[.string ⟨#[]⟩, .string ⟨#[67, 82, 69, 65, 84, 69]⟩, .string ⟨#[79, 80, 69, 78]⟩, .string ⟨#[65, 68, 68, 77, 79, 68]⟩, .string ⟨#[65, 68, 68, 76, 73, 66]⟩, .string ⟨#[68, 69, 76, 69, 84, 69]⟩, .string ⟨#[82, 69, 80, 76, 65, 67, 69]⟩, .string ⟨#[69, 88, 84, 82, 65, 67, 84]⟩, .string ⟨#[76, 73, 83, 84]⟩, .string ⟨#[68, 73, 82, 69, 67, 84, 79, 82, 89]⟩, .string ⟨#[86, 69, 82, 66, 79, 83, 69]⟩, .string ⟨#[67, 76, 69, 65, 82]⟩, .string ⟨#[83, 65, 86, 69]⟩, .string ⟨#[69, 78, 68]⟩] t frozen
      | o => o).modify 2 fun
      | .cells _ t frozen => .cells #[.string ⟨#[]⟩, .bool false, .int .i64 0, .string ⟨#[67, 82, 69, 65, 84, 69]⟩, .bool true, .int .i64 0, .string ⟨#[79, 80, 69, 78]⟩, .bool true, .int .i64 0, .string ⟨#[65, 68, 68, 77, 79, 68]⟩, .bool false, .int .i64 1, .string ⟨#[65, 68, 68, 76, 73, 66]⟩, .bool true, .int .i64 2, .string ⟨#[68, 69, 76, 69, 84, 69]⟩, .bool false, .int .i64 1, .string ⟨#[82, 69, 80, 76, 65, 67, 69]⟩, .bool false, .int .i64 1, .string ⟨#[69, 88, 84, 82, 65, 67, 84]⟩, .bool false, .int .i64 1, .string ⟨#[76, 73, 83, 84]⟩, .bool false, .int .i64 0, .string ⟨#[68, 73, 82, 69, 67, 84, 79, 82, 89]⟩, .bool true, .int .i64 2, .string ⟨#[86, 69, 82, 66, 79, 83, 69]⟩, .bool false, .int .i64 0, .string ⟨#[67, 76, 69, 65, 82]⟩, .bool false, .int .i64 0, .string ⟨#[83, 65, 86, 69]⟩, .bool false, .int .i64 0, .string ⟨#[69, 78, 68]⟩, .bool false, .int .i64 0] t frozen
      | o => o) } : World).forCall (fun _ _ => 0) ⟨#[], #[.string ByteArray.empty], []⟩).memory Tryd.f6.params.toList Rows.mriDecodeSpec.vars false (#[.string ByteArray.empty] : Array Value).toList 8 = some ([.lit (.string [])], [], places) :=
  ⟨[], by kernel_rfl⟩
set_option maxRecDepth 100000 in
theorem lifted  (os : Os) (started : os.Started) (H : Type) (enc : TypeId × Value → H) (F : Stop.Interp) :
    ReturnsInHanded {} Tryd.checked os 6 .any ((Rows.OpenSpec.upto Rows.mriDecodeSpec).preRow enc Tryd.prog Tryd.f6 Rows.mriDecodeUptoRow.domain false Rows.mriDecodeUptoRow.laid) (((Rows.OpenSpec.upto Rows.mriDecodeSpec).at F).post enc Tryd.prog Tryd.f6 false true false false) := by
  obtain ⟨places, hx⟩ := reads os enc
  refine returnsInHanded_of_row (C := Tryd.checked) (s := (Rows.OpenSpec.upto Rows.mriDecodeSpec)) own started (by kernel_rfl) Tryd.func6
    (witness_row_at (enc := enc) (C := Tryd.checked) false ({ (World.holding Tryd.prog os ⟨#[], #[], []⟩) with heap := (((World.holding Tryd.prog os ⟨#[], #[], []⟩).heap.modify 0 fun
      | .cells _ t frozen => .cells #[.string ⟨#[]⟩, .string ⟨#[67, 82, 69, 65, 84, 69]⟩, .string ⟨#[79, 80, 69, 78]⟩, .string ⟨#[65, 68, 68, 77, 79, 68]⟩, .string ⟨#[65, 68, 68, 76, 73, 66]⟩, .string ⟨#[68, 69, 76, 69, 84, 69]⟩, .string ⟨#[82, 69, 80, 76, 65, 67, 69]⟩, .string ⟨#[69, 88, 84, 82, 65, 67, 84]⟩, .string ⟨#[76, 73, 83, 84]⟩, .string ⟨#[68, 73, 82, 69, 67, 84, 79, 82, 89]⟩, .string ⟨#[86, 69, 82, 66, 79, 83, 69]⟩, .string ⟨#[67, 76, 69, 65, 82]⟩, .string ⟨#[83, 65, 86, 69]⟩, .string ⟨#[69, 78, 68]⟩] t frozen
      | o => o).modify 2 fun
      | .cells _ t frozen => .cells #[.string ⟨#[]⟩, .bool false, .int .i64 0, .string ⟨#[67, 82, 69, 65, 84, 69]⟩, .bool true, .int .i64 0, .string ⟨#[79, 80, 69, 78]⟩, .bool true, .int .i64 0, .string ⟨#[65, 68, 68, 77, 79, 68]⟩, .bool false, .int .i64 1, .string ⟨#[65, 68, 68, 76, 73, 66]⟩, .bool true, .int .i64 2, .string ⟨#[68, 69, 76, 69, 84, 69]⟩, .bool false, .int .i64 1, .string ⟨#[82, 69, 80, 76, 65, 67, 69]⟩, .bool false, .int .i64 1, .string ⟨#[69, 88, 84, 82, 65, 67, 84]⟩, .bool false, .int .i64 1, .string ⟨#[76, 73, 83, 84]⟩, .bool false, .int .i64 0, .string ⟨#[68, 73, 82, 69, 67, 84, 79, 82, 89]⟩, .bool true, .int .i64 2, .string ⟨#[86, 69, 82, 66, 79, 83, 69]⟩, .bool false, .int .i64 0, .string ⟨#[67, 76, 69, 65, 82]⟩, .bool false, .int .i64 0, .string ⟨#[83, 65, 86, 69]⟩, .bool false, .int .i64 0, .string ⟨#[69, 78, 68]⟩, .bool false, .int .i64 0] t frozen
      | o => o) } : World) #[.string ByteArray.empty] rfl (by kernel_rfl) (by kernel_rfl) (by kernel_rfl)
      (OpenSpec.preRow_of_cond 8 hx (by kernel_rfl) (fun k hk => by cases hk; rfl) (by kernel_rfl) (laid_met os))) ?_
  intro W base args ds gs before hval hW _ hcond _ hL _ _
  exact contract  H enc W base args ds gs before hval hW hL (hcond _ rfl)
theorem said  : Rows.MriDecodeUptoSaid :=
  OpenClaim.holds_of_cond 6 Tryd.f6 rfl rfl rfl rfl rfl rfl rfl ⟨rfl, rfl, rfl, rfl, rfl⟩ rfl rfl rfl rfl rfl (by kernel_rfl) Tryd.func6 (by kernel_rfl)
    (of_decide_eq_true (by kernel_rfl)) (by unfold Func.isWrapper; first | (rw [if_pos (by decide +kernel)]; kernel_rfl) | (rw [if_neg (by decide +kernel)]; exact ⟨rfl, rfl⟩))
    (fun os started H enc _ F => by rw [OpenClaim.pre_eq_preRow]; exact lifted  os started H enc F)
theorem plain (f : FuncId) (fn : Func) (hf : Tryd.pinned.checked.prog.funcNamed "shelf/shelflaw19.MriDecode" = some f) (hfn : Tryd.pinned.checked.prog.funcs[f]? = some fn) :
    false = Tryd.pinned.checked.prog.looks [] ∧ ∀ (j : Nat) t, fn.params[j]? = some t → Tryd.pinned.checked.prog.wantsStandIn t = false := by
  obtain rfl : f = 6 := Option.some.inj ((show Tryd.prog.funcNamed "shelf/shelflaw19.MriDecode" = some 6 by kernel_rfl).symm.trans hf) |>.symm
  obtain rfl : fn = Tryd.f6 := (Option.some.inj (Tryd.func6.symm.trans hfn)).symm
  refine ⟨by kernel_rfl, fun j t ht => ?_⟩
  rw [Tryd.params6] at ht
  have hmem := Array.mem_of_getElem? ht
  have s9 : Tryd.pinned.checked.prog.wantsStandIn 9 = false := by kernel_rfl
  have s4 : Tryd.pinned.checked.prog.wantsStandIn 4 = false := by kernel_rfl
  have sX : Tryd.pinned.checked.prog.wantsStandIn 28 = false := by kernel_rfl
  have sR : Tryd.pinned.checked.prog.wantsStandIn 22 = false := by kernel_rfl
  have s3 : Tryd.pinned.checked.prog.wantsStandIn 3 = false := by kernel_rfl
  have sM : Tryd.pinned.checked.prog.wantsStandIn 26 = false := by kernel_rfl
  simp at hmem
  first
    | (rcases hmem with rfl | rfl | rfl | rfl <;> assumption)
    | (rcases hmem with rfl | rfl | rfl <;> assumption)
    | (rcases hmem with rfl | rfl <;> assumption)
    | (subst hmem; assumption)
theorem card  : Rows.MriDecodeUptoCardSaid :=
  Claim7.holds_tied_plain_at .later [] _ _ _ _ (said ) (fun _ h => by cases h) (by kernel_rfl) (fun _ h => by cases h) mriDecodeUpto_row_tie rfl ⟨rfl, rfl⟩ (by kernel_rfl) rfl plain (by kernel_rfl)
end Go.Proofs.YtdamhdceajmdfaaDoor.mriDecode
namespace Go.Proofs.YtdamhdceajmdfaaDoor
theorem mriDecode_holds  : Rows.MriDecodeUptoCardSaid := mriDecode.card 
#print axioms mriDecode_holds
end Go.Proofs.YtdamhdceajmdfaaDoor
