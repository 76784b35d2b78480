
-- Proof of the given card about MriBack, second form. The frame follows the guide's toy for a law over a table; the walk and the lemmas are ours.
import Derived.Test.YtdamhdceajmdfaaDoorCards
import Derived.Test.YtdamhdceajmdfaaDoorTie
import Derived.Test.YtdamhdceajmdfaaDoorOC
import Derived.Test.YtdamhdceajmdfaaDoorTT
import Derived.Test.YtdamhdceajmdfaaDoorBW
import Derived.WalkKit
import Derived.ProofKit
import Derived.OpenShut
import Derived.ShutString
import Derived.Deep.DeepHandedRow
import Derived.Lib.LaidTab
import Derived.Below
import Derived.ChangeOld
import Derived.Stop.LaidErr
namespace Go.Proofs.YtdamhdceajmdfaaDoor.mriBack
open Go.ChangeShapes Go.WideShapes Go.ChangeAt Go.RowKit
open Go.ChangeMaps (open_string shut_string)
set_option linter.unusedVariables false
set_option maxRecDepth 100000

theorem own : ownKnob Tryd.prog.godebug = none := by kernel_rfl
theorem laidOut : laidOutB Tryd.prog = true := by kernel_rfl
theorem tabs0 {W : World} (h : laidMetH Tryd.prog Rows.mriBackUptoRow.laid W) : VT W := vt_of (h)
theorem bulk_mem {H : Type} : ∀ (l : List (DataW H)) (d : DataW H), d ∈ l → Rows.uptoBulk d ≤ Rows.uptoBulkAll l
  | [], d, h => by cases h
  | x :: r, d, h => by
    simp only [Rows.uptoBulkAll]
    rcases List.mem_cons.1 h with rfl | h
    · omega
    · have := bulk_mem r d h; omega

theorem walk  (w : World) (v0 : Value) (l0 : List (Mr × Value)) (r0 : RowR w v0 l0) (t0 : totR (l0.map (·.1)) ≤ 1048576) (a1 : Bool) (a2 : ByteArray) (l2 : a2.size ≤ 1048576) (hM0 : VT w) :
    Calls Tryd.prog 4 #[v0, .bool a1, .string a2] w fun e w' => e = .returned (.bool true) ∧ Below w.heap.size w w' := by
  exact mriBack_w v0 l0 a1 a2 w hM0 r0 t0 l2
theorem contract  (H : Type) (enc : TypeId × Value → H) (W : World) (base : Nat) (args : Array Value) (ds gs : List (DataW H)) (before : List MemPlace)
    (hval : ∀ (j : Nat) t v, Tryd.f4.params[j]? = some t → args[j]? = some v → Value.okWide Tryd.prog W .any base t v)
    (hW : DataW.Whole enc Tryd.prog Tryd.f4.params.toList Rows.mriBackSpec.vars false W args.toList ds gs before) (hL : laidMetH Tryd.prog Rows.mriBackUptoRow.laid W) (hk : Rows.uptoSmall H (ds ++ gs) = true) :
    Calls Tryd.prog 4 args W fun e W' => ∃ v, e = .returned v ∧ Rows.mriBackSpec.post enc Tryd.prog Tryd.f4 false true false false W args v W' := by
  have hW' := hW
  obtain ⟨p, q, hA0, hV, rfl, hfz, hnd⟩ := hW
  have hA : DataW.TrodAll enc Tryd.prog W 0 (fun _ => true) true Tryd.f4.params.toList args.toList ds p := hA0
  rw [Tryd.params4] at hA hval
  obtain ⟨v0, vs0, d0, ds0, p0, q0, hargs, rfl, rfl, h0, r0⟩ := trodAll_cons hA
  obtain ⟨v1, vs1, d1, ds1, p1, q1, rfl, rfl, rfl, h1, r1⟩ := trodAll_cons r0
  obtain ⟨v2, vs2, d2, ds2, p2, q2, rfl, rfl, rfl, h2, r2⟩ := trodAll_cons r1
  obtain ⟨rfl, rfl, rfl⟩ := trodAll_nil r2
  obtain rfl : args = #[v0, v1, v2] := by have h := congrArg List.toArray hargs; rw [Array.toArray_toList] at h; exact h
  obtain ⟨rfl, rfl⟩ := trodVars_none hV
  simp only [List.append_nil] at hk
  have hBk : Rows.uptoBulkAll [d0, d1, d2] ≤ 1048576 := of_decide_eq_true hk
  have bk0 : Rows.uptoBulk d0 ≤ 1048576 := Nat.le_trans (bulk_mem _ _ (by simp)) hBk
  have bk1 : Rows.uptoBulk d1 ≤ 1048576 := Nat.le_trans (bulk_mem _ _ (by simp)) hBk
  have bk2 : Rows.uptoBulk d2 ≤ 1048576 := Nat.le_trans (bulk_mem _ _ (by simp)) hBk
  obtain ⟨x0, len0, cap0, rfl⟩ := okWide_slice Tryd.underlying22 (hval 0 22 v0 rfl rfl)
  have k0 := h0
  have lt0 : ∀ x ∈ p0, x.block < W.heap.size := by obtain ⟨m, hm⟩ := k0; exact DataW.trod_lt m _ _ _ hm
  obtain ⟨l0, r_0, t0⟩ : ∃ l, RowR W (.slice x0 len0 cap0) l ∧ totR (l.map (·.1)) ≤ 1048576 := by
    obtain ⟨fuel, hf⟩ := h0
    obtain ⟨l, b1, b2⟩ := open_cmds hf
    exact ⟨l, b1, by have b3 : totR (l.map (·.1)) + 1 ≤ Rows.uptoBulk d0 := b2; omega⟩
  obtain ⟨a1, rfl, rfl, rfl⟩ := open_bool Tryd.underlying4 (hval 1 4 v1 rfl rfl) h1
  obtain ⟨a2, rfl, rfl, rfl, w2⟩ := open_string Tryd.underlying9 (hval 2 9 v2 rfl rfl) h2
  have l2 : a2.size ≤ 1048576 := by
    have e : a2.data.toList.length = a2.size := by rw [Array.length_toList]; rfl
    simp only [Rows.uptoBulk] at bk2; omega
  clear hA0
  simp only [List.append_nil] at hW'
  refine (walk  W _ l0 r_0 t0 a1 a2 l2 (tabs0 hL)).mono fun e W' ⟨he, hg⟩ => ?_
  subst he
  exact ⟨_, rfl, _, _, _, [], _, [], hW', trodAll_cons_mk (shut_bool Tryd.underlying4 _) trodAll_mk0, (trodAll_cons_mk (Below.trod laidOut (by kernel_rfl) (of_decide_eq_true (by kernel_rfl)) k0 hg lt0) (trodAll_cons_mk (shut_bool Tryd.underlying4 _) (trodAll_cons_mk (shut_string Tryd.underlying9 w2) trodAll_mk0))), rfl, hg.frame _, fun h => by cases h⟩
theorem laid_met (os : Os) : laidMet Tryd.prog Rows.mriBackUptoRow.laid (({ (World.holding Tryd.prog os ⟨#[], #[], []⟩) with heap := ((World.holding Tryd.prog os ⟨#[], #[], []⟩).heap.modify 2 fun
      | .cells _ t frozen => .cells #[.string ⟨#[]⟩, .bool false, .int .i64 0, .string ⟨#[67, 82, 69, 65, 84, 69]⟩, .bool true, .int .i64 0, .string ⟨#[79, 80, 69, 78]⟩, .bool true, .int .i64 0, .string ⟨#[65, 68, 68, 77, 79, 68]⟩, .bool false, .int .i64 1, .string ⟨#[65, 68, 68, 76, 73, 66]⟩, .bool true, .int .i64 2, .string ⟨#[68, 69, 76, 69, 84, 69]⟩, .bool false, .int .i64 1, .string ⟨#[82, 69, 80, 76, 65, 67, 69]⟩, .bool false, .int .i64 1, .string ⟨#[69, 88, 84, 82, 65, 67, 84]⟩, .bool false, .int .i64 1, .string ⟨#[76, 73, 83, 84]⟩, .bool false, .int .i64 0, .string ⟨#[68, 73, 82, 69, 67, 84, 79, 82, 89]⟩, .bool true, .int .i64 2, .string ⟨#[86, 69, 82, 66, 79, 83, 69]⟩, .bool false, .int .i64 0, .string ⟨#[67, 76, 69, 65, 82]⟩, .bool false, .int .i64 0, .string ⟨#[83, 65, 86, 69]⟩, .bool false, .int .i64 0, .string ⟨#[69, 78, 68]⟩, .bool false, .int .i64 0] t frozen
      | o => o) } : World).forCall (fun _ _ => 0) ⟨#[], #[.slice none 0 0, .bool false, .string ByteArray.empty], []⟩).memory :=
  laidMet_of_run' 8 (by kernel_rfl) (by kernel_rfl)
theorem reads (os : Os) {H : Type} (enc : TypeId × Value → H) : ∃ places, DataW.whole enc Tryd.prog (({ (World.holding Tryd.prog os ⟨#[], #[], []⟩) with heap := ((World.holding Tryd.prog os ⟨#[], #[], []⟩).heap.modify 2 fun
      | .cells _ t frozen => .cells #[.string ⟨#[]⟩, .bool false, .int .i64 0, .string ⟨#[67, 82, 69, 65, 84, 69]⟩, .bool true, .int .i64 0, .string ⟨#[79, 80, 69, 78]⟩, .bool true, .int .i64 0, .string ⟨#[65, 68, 68, 77, 79, 68]⟩, .bool false, .int .i64 1, .string ⟨#[65, 68, 68, 76, 73, 66]⟩, .bool true, .int .i64 2, .string ⟨#[68, 69, 76, 69, 84, 69]⟩, .bool false, .int .i64 1, .string ⟨#[82, 69, 80, 76, 65, 67, 69]⟩, .bool false, .int .i64 1, .string ⟨#[69, 88, 84, 82, 65, 67, 84]⟩, .bool false, .int .i64 1, .string ⟨#[76, 73, 83, 84]⟩, .bool false, .int .i64 0, .string ⟨#[68, 73, 82, 69, 67, 84, 79, 82, 89]⟩, .bool true, .int .i64 2, .string ⟨#[86, 69, 82, 66, 79, 83, 69]⟩, .bool false, .int .i64 0, .string ⟨#[67, 76, 69, 65, 82]⟩, .bool false, .int .i64 0, .string ⟨#[83, 65, 86, 69]⟩, .bool false, .int .i64 0, .string ⟨#[69, 78, 68]⟩, .bool false, .int .i64 0] t frozen
      | o => o) } : World).forCall (fun _ _ => 0) ⟨#[], #[.slice none 0 0, .bool false, .string ByteArray.empty], []⟩).memory Tryd.f4.params.toList Rows.mriBackSpec.vars false (#[.slice none 0 0, .bool false, .string ByteArray.empty] : Array Value).toList 8 = some ([.nil, .lit (.bool false), .lit (.string [])], [], places) :=
  ⟨[], by kernel_rfl⟩
set_option maxRecDepth 100000 in
theorem lifted  (os : Os) (started : os.Started) (H : Type) (enc : TypeId × Value → H) (F : Stop.Interp) :
    ReturnsInHanded {} Tryd.checked os 4 .any ((Rows.OpenSpec.upto Rows.mriBackSpec).preRow enc Tryd.prog Tryd.f4 Rows.mriBackUptoRow.domain false Rows.mriBackUptoRow.laid) (((Rows.OpenSpec.upto Rows.mriBackSpec).at F).post enc Tryd.prog Tryd.f4 false true false false) := by
  obtain ⟨places, hx⟩ := reads os enc
  refine returnsInHanded_of_row (C := Tryd.checked) (s := (Rows.OpenSpec.upto Rows.mriBackSpec)) own started (by kernel_rfl) Tryd.func4
    (witness_row_at (enc := enc) (C := Tryd.checked) false ({ (World.holding Tryd.prog os ⟨#[], #[], []⟩) with heap := ((World.holding Tryd.prog os ⟨#[], #[], []⟩).heap.modify 2 fun
      | .cells _ t frozen => .cells #[.string ⟨#[]⟩, .bool false, .int .i64 0, .string ⟨#[67, 82, 69, 65, 84, 69]⟩, .bool true, .int .i64 0, .string ⟨#[79, 80, 69, 78]⟩, .bool true, .int .i64 0, .string ⟨#[65, 68, 68, 77, 79, 68]⟩, .bool false, .int .i64 1, .string ⟨#[65, 68, 68, 76, 73, 66]⟩, .bool true, .int .i64 2, .string ⟨#[68, 69, 76, 69, 84, 69]⟩, .bool false, .int .i64 1, .string ⟨#[82, 69, 80, 76, 65, 67, 69]⟩, .bool false, .int .i64 1, .string ⟨#[69, 88, 84, 82, 65, 67, 84]⟩, .bool false, .int .i64 1, .string ⟨#[76, 73, 83, 84]⟩, .bool false, .int .i64 0, .string ⟨#[68, 73, 82, 69, 67, 84, 79, 82, 89]⟩, .bool true, .int .i64 2, .string ⟨#[86, 69, 82, 66, 79, 83, 69]⟩, .bool false, .int .i64 0, .string ⟨#[67, 76, 69, 65, 82]⟩, .bool false, .int .i64 0, .string ⟨#[83, 65, 86, 69]⟩, .bool false, .int .i64 0, .string ⟨#[69, 78, 68]⟩, .bool false, .int .i64 0] t frozen
      | o => o) } : World) #[.slice none 0 0, .bool false, .string ByteArray.empty] rfl (by kernel_rfl) (by kernel_rfl) (by kernel_rfl)
      (OpenSpec.preRow_of_cond 8 hx (by kernel_rfl) (fun k hk => by cases hk; rfl) (by kernel_rfl) (laid_met os))) ?_
  intro W base args ds gs before hval hW _ hcond _ hL _ _
  exact contract  H enc W base args ds gs before hval hW hL (hcond _ rfl)
theorem said  : Rows.MriBackUptoSaid :=
  OpenClaim.holds_of_cond 4 Tryd.f4 rfl rfl rfl rfl rfl rfl rfl ⟨rfl, rfl, rfl, rfl, rfl⟩ rfl rfl rfl rfl rfl (by kernel_rfl) Tryd.func4 (by kernel_rfl)
    (of_decide_eq_true (by kernel_rfl)) (by unfold Func.isWrapper; first | (rw [if_pos (by decide +kernel)]; kernel_rfl) | (rw [if_neg (by decide +kernel)]; exact ⟨rfl, rfl⟩))
    (fun os started H enc _ F => by rw [OpenClaim.pre_eq_preRow]; exact lifted  os started H enc F)
theorem plain (f : FuncId) (fn : Func) (hf : Tryd.pinned.checked.prog.funcNamed "shelf/shelflaw19.MriBack" = some f) (hfn : Tryd.pinned.checked.prog.funcs[f]? = some fn) :
    false = Tryd.pinned.checked.prog.looks [] ∧ ∀ (j : Nat) t, fn.params[j]? = some t → Tryd.pinned.checked.prog.wantsStandIn t = false := by
  obtain rfl : f = 4 := Option.some.inj ((show Tryd.prog.funcNamed "shelf/shelflaw19.MriBack" = some 4 by kernel_rfl).symm.trans hf) |>.symm
  obtain rfl : fn = Tryd.f4 := (Option.some.inj (Tryd.func4.symm.trans hfn)).symm
  refine ⟨by kernel_rfl, fun j t ht => ?_⟩
  rw [Tryd.params4] at ht
  have hmem := Array.mem_of_getElem? ht
  have s9 : Tryd.pinned.checked.prog.wantsStandIn 9 = false := by kernel_rfl
  have s4 : Tryd.pinned.checked.prog.wantsStandIn 4 = false := by kernel_rfl
  have sX : Tryd.pinned.checked.prog.wantsStandIn 28 = false := by kernel_rfl
  have sR : Tryd.pinned.checked.prog.wantsStandIn 22 = false := by kernel_rfl
  have s3 : Tryd.pinned.checked.prog.wantsStandIn 3 = false := by kernel_rfl
  have sM : Tryd.pinned.checked.prog.wantsStandIn 26 = false := by kernel_rfl
  simp at hmem
  first
    | (rcases hmem with rfl | rfl | rfl | rfl <;> assumption)
    | (rcases hmem with rfl | rfl | rfl <;> assumption)
    | (rcases hmem with rfl | rfl <;> assumption)
    | (subst hmem; assumption)
theorem card  : Rows.MriBackUptoCardSaid :=
  Claim7.holds_tied_plain_at .later [] _ _ _ _ (said ) (fun _ h => by cases h) (by kernel_rfl) (fun _ h => by cases h) mriBackUpto_row_tie rfl ⟨rfl, rfl⟩ (by kernel_rfl) rfl plain (by kernel_rfl)
end Go.Proofs.YtdamhdceajmdfaaDoor.mriBack
namespace Go.Proofs.YtdamhdceajmdfaaDoor
theorem mriBack_holds  : Rows.MriBackUptoCardSaid := mriBack.card 
#print axioms mriBack_holds
end Go.Proofs.YtdamhdceajmdfaaDoor
