
-- Proof of the given card about ElfHeader. The frame follows the guide's toy for a law over a table; the walk and the lemmas are ours.
import Derived.Test.YtmoapdecacnmpaaDoorCards
import Derived.Test.YtmoapdecacnmpaaDoorTie
import Derived.Test.YtmoapdecacnmpaaDoorL1
import Derived.WalkKit
import Derived.ProofKit
import Derived.OpenShut
import Derived.ShutString
import Derived.Deep.DeepHandedRow
import Derived.Lib.LaidTab
import Derived.Stop.LaidErr
namespace Go.Proofs.YtmoapdecacnmpaaDoor.elfHeader
open Go.ChangeShapes Go.WideShapes Go.ChangeAt Go.RowKit
open Go.ChangeMaps (open_string shut_string)
set_option linter.unusedVariables false

theorem own : ownKnob Tryd.prog.godebug = none := by kernel_rfl
theorem gMag : Tryd.prog.globalNamed "shelf/elf.magic" = some 0 := by kernel_rfl
theorem gMagT : (Tryd.prog.globals[0]?).map (·.type) = some 68 := by kernel_rfl
theorem cMag : Tryd.prog.cellsOf 68 = 4 := by kernel_rfl
theorem c5 : Tryd.prog.cellsOf 5 = 1 := by kernel_rfl
theorem laid_is {W : World} (h : laidMetH Tryd.prog Rows.elfHeaderRow.laid W) : laidMet Tryd.prog [("shelf/elf.magic", Rows.laid_shelf_elf_magic)] W := h
theorem tabM {W : World} (h : laidMetH Tryd.prog Rows.elfHeaderRow.laid W) : Lib.TabIs Tryd.prog W "shelf/elf.magic" .u8 [127, 69, 76, 70] :=
  Lib.tabIs_of_head (rest := []) gMag gMagT Tryd.underlying68 Tryd.underlying5 c5 cMag (laid_is h)
theorem tabs {W : World} (h : laidMetH Tryd.prog Rows.elfHeaderRow.laid W) : Magic W :=
  ⟨(tabM h).cell gMag 0 (by decide), (tabM h).cell gMag 1 (by decide), (tabM h).cell gMag 2 (by decide), (tabM h).cell gMag 3 (by decide)⟩

theorem walk (a0 : ByteArray) (w0 : a0.size ≤ maxLen) (w : World) (hM : Magic w) :
    Calls Tryd.prog 4 #[.string a0] w fun e w' => e = .returned (.bool true) ∧ Below w.heap.size w w' := by
  obtain ⟨x0, x1, x2, x3, x4, x5, x6, x7, e, hp, hr⟩ := header_both a0 w0
  have HP := Hid.mk' hp
  have HR := Hid.mk' hr
  have heq := eqELF x0 x1 x2 x3 x4 x5 x6 x7
  clear hp hr w0
  go_enter Tryd.func4, Tryd.ntmps4
  go_wp2_with (first
    | (go_at_call 9; refine (HP.out _ hM).mono ?_; rintro r w1 ⟨rfl, hb1⟩)
    | (go_at_call 10; refine (HR.out _).mono ?_; rintro r w2 ⟨rfl, hb2⟩; have hlt : w1.heap.size < w2.heap.size := Nat.lt_of_lt_of_le (by rw [size_alloc]; exact Nat.lt_succ_self _) hb2.size; have hRow : (w2.alloc (.cells #[.int .i64 x0, .int .i64 x1, .int .i64 x2, .int .i64 x3, .int .u64 x4, .int .i64 x5, .int .i64 x6, .int .i64 x7] 32)).heap[w1.heap.size]? = some (.cells #[.int .i64 x0, .int .i64 x1, .int .i64 x2, .int .i64 x3, .int .u64 x4, .int .i64 x5, .int .i64 x6, .int .i64 x7] 32 (0, 0)) := (Below.heap_alloc w2 _ _ hlt).trans ((hb2.block _ (by rw [size_alloc]; exact Nat.lt_succ_self _)).trans (heap_alloc_new w1 _)))
    | (refine wpList_load_row rfl _ _ rfl w1.heap.size rfl _ _ _ _ hRow Tryd.underlying32 rfl (by kernel_rfl) ?_)
    | go_in)
  all_goals
    go_ret
    exact ⟨by simp, Below.alloc (hb1.trans ((Below.alloc (Below.refl _ _) hb1.size _).trans (hb2.mono (by rw [size_alloc]; exact Nat.le_trans hb1.size (Nat.le_succ _))))) (Nat.le_trans hb1.size (Nat.le_of_lt hlt)) _⟩
theorem contract (H : Type) (enc : TypeId × Value → H) (W : World) (base : Nat) (args : Array Value) (ds gs : List (DataW H)) (before : List MemPlace)
    (hval : ∀ (j : Nat) t v, Tryd.f4.params[j]? = some t → args[j]? = some v → Value.okWide Tryd.prog W .any base t v)
    (hW : DataW.Whole enc Tryd.prog Tryd.f4.params.toList Rows.elfHeaderSpec.vars false W args.toList ds gs before) (hL : laidMetH Tryd.prog Rows.elfHeaderRow.laid W) :
    Calls Tryd.prog 4 args W fun e W' => ∃ v, e = .returned v ∧ Rows.elfHeaderSpec.post enc Tryd.prog Tryd.f4 false true false false W args v W' := by
  have hW' := hW
  obtain ⟨p, q, hA0, hV, rfl, hfz, hnd⟩ := hW
  have hA : DataW.TrodAll enc Tryd.prog W 0 (fun _ => true) true Tryd.f4.params.toList args.toList ds p := hA0
  rw [Tryd.params4] at hA hval
  obtain ⟨v0, vs0, d0, ds0, p0, q0, hargs, rfl, rfl, h0, r0⟩ := trodAll_cons hA
  obtain ⟨rfl, rfl, rfl⟩ := trodAll_nil r0
  obtain rfl : args = #[v0] := by have h := congrArg List.toArray hargs; rw [Array.toArray_toList] at h; exact h
  obtain ⟨rfl, rfl⟩ := trodVars_none hV
  obtain ⟨a0, rfl, rfl, rfl, w0⟩ := open_string Tryd.underlying9 (hval 0 9 v0 rfl rfl) h0
  clear hA0
  simp only [List.append_nil] at hW'
  refine (walk a0 w0 W (tabs hL)).mono fun e W' ⟨he, hg⟩ => ?_
  subst he
  exact ⟨_, rfl, _, _, _, [], _, [], hW', trodAll_cons_mk (shut_bool Tryd.underlying4 _) trodAll_mk0, (trodAll_cons_mk (shut_string Tryd.underlying9 w0) trodAll_mk0), rfl, hg.frame _, fun h => by cases h⟩
theorem laid_met (os : Os) : laidMet Tryd.prog Rows.elfHeaderRow.laid (({ (World.holding Tryd.prog os ⟨#[], #[], []⟩) with heap := ((World.holding Tryd.prog os ⟨#[], #[], []⟩).heap.modify 0 fun
      | .cells _ t frozen => .cells #[.int .u8 127, .int .u8 69, .int .u8 76, .int .u8 70] t frozen
      | o => o) } : World).forCall (fun _ _ => 0) ⟨#[], #[.string ByteArray.empty], []⟩).memory :=
  laidMet_of_run' 8 (by kernel_rfl) (by kernel_rfl)
theorem reads (os : Os) {H : Type} (enc : TypeId × Value → H) : ∃ places, DataW.whole enc Tryd.prog (({ (World.holding Tryd.prog os ⟨#[], #[], []⟩) with heap := ((World.holding Tryd.prog os ⟨#[], #[], []⟩).heap.modify 0 fun
      | .cells _ t frozen => .cells #[.int .u8 127, .int .u8 69, .int .u8 76, .int .u8 70] t frozen
      | o => o) } : World).forCall (fun _ _ => 0) ⟨#[], #[.string ByteArray.empty], []⟩).memory Tryd.f4.params.toList Rows.elfHeaderSpec.vars false (#[.string ByteArray.empty] : Array Value).toList 8 = some ([.lit (.string [])], [], places) :=
  ⟨[], by kernel_rfl⟩
set_option maxRecDepth 100000 in
theorem lifted (os : Os) (started : os.Started) (H : Type) (enc : TypeId × Value → H) (F : Stop.Interp) :
    ReturnsInHanded {} Tryd.checked os 4 .any ((OpenSpec.ofChange Rows.elfHeaderSpec).preRow enc Tryd.prog Tryd.f4 Rows.elfHeaderRow.domain false Rows.elfHeaderRow.laid) (((OpenSpec.ofChange Rows.elfHeaderSpec).at F).post enc Tryd.prog Tryd.f4 false true false false) := by
  obtain ⟨places, hx⟩ := reads os enc
  refine returnsInHanded_of_row (C := Tryd.checked) (s := (OpenSpec.ofChange Rows.elfHeaderSpec)) own started (by kernel_rfl) Tryd.func4
    (witness_row_at (enc := enc) (C := Tryd.checked) false ({ (World.holding Tryd.prog os ⟨#[], #[], []⟩) with heap := ((World.holding Tryd.prog os ⟨#[], #[], []⟩).heap.modify 0 fun
      | .cells _ t frozen => .cells #[.int .u8 127, .int .u8 69, .int .u8 76, .int .u8 70] t frozen
      | o => o) } : World) #[.string ByteArray.empty] rfl (by kernel_rfl) (by kernel_rfl) (by kernel_rfl)
      (OpenSpec.preRow_of_cond 8 hx (by kernel_rfl) (fun k hk => by cases hk) (by kernel_rfl) (laid_met os))) ?_
  intro W base args ds gs before hval hW _ _ _ hL _ _
  exact contract H enc W base args ds gs before hval hW hL
theorem said : Rows.ElfHeaderSaid :=
  OpenClaim.holds_of_cond 4 Tryd.f4 rfl rfl rfl rfl rfl rfl rfl ⟨rfl, rfl, rfl, rfl, rfl⟩ rfl rfl rfl rfl rfl (by kernel_rfl) Tryd.func4 (by kernel_rfl)
    (of_decide_eq_true (by kernel_rfl)) (by unfold Func.isWrapper; first | (rw [if_pos (by decide +kernel)]; kernel_rfl) | (rw [if_neg (by decide +kernel)]; exact ⟨rfl, rfl⟩))
    (fun os started H enc _ F => by rw [OpenClaim.pre_eq_preRow]; exact lifted os started H enc F)
theorem plain (f : FuncId) (fn : Func) (hf : Tryd.pinned.checked.prog.funcNamed "shelf/shelflaw5.ElfHeader" = some f) (hfn : Tryd.pinned.checked.prog.funcs[f]? = some fn) :
    true = Tryd.pinned.checked.prog.looks [] ∧ ∀ (j : Nat) t, fn.params[j]? = some t → Tryd.pinned.checked.prog.wantsStandIn t = false := by
  obtain rfl : f = 4 := Option.some.inj ((show Tryd.prog.funcNamed "shelf/shelflaw5.ElfHeader" = some 4 by kernel_rfl).symm.trans hf) |>.symm
  obtain rfl : fn = Tryd.f4 := (Option.some.inj (Tryd.func4.symm.trans hfn)).symm
  refine ⟨by kernel_rfl, fun j t ht => ?_⟩
  rw [Tryd.params4] at ht
  have hmem := Array.mem_of_getElem? ht
  have s9 : Tryd.pinned.checked.prog.wantsStandIn 9 = false := by kernel_rfl
  have s3 : Tryd.pinned.checked.prog.wantsStandIn 3 = false := by kernel_rfl
  simp at hmem
  first
    | (rcases hmem with rfl | rfl <;> assumption)
    | (subst hmem; assumption)
theorem card : Rows.ElfHeaderCardSaid :=
  Claim7.holds_tied_plain_at .later [] _ _ _ _ said (fun _ h => by cases h) (by kernel_rfl) (fun _ h => by cases h) elfHeader_row_tie rfl ⟨rfl, rfl⟩ (by kernel_rfl) rfl plain (by kernel_rfl)
end Go.Proofs.YtmoapdecacnmpaaDoor.elfHeader
namespace Go.Proofs.YtmoapdecacnmpaaDoor
theorem elfHeader_holds : Rows.ElfHeaderCardSaid := elfHeader.card
#print axioms elfHeader_holds
end Go.Proofs.YtmoapdecacnmpaaDoor
