import Derived.Test.YtaeigacinefhnabDoorCards
import Derived.Test.YtaeigacinefhnabDoorTie
import Derived.Test.YtaeigacinefhnabDoorM12
import Derived.WalkKit
import Derived.ProofKit
import Derived.OpenShut
import Derived.ShutString
import Derived.Deep.DeepHandedRow
import Derived.Lib.LaidTab
import Derived.Stop.LaidErr

-- Proof of the given card about SymsNeeds, second form. The frame follows the guide's toy for a law over a table; the walk and the lemmas are ours.
namespace Go.Proofs.YtaeigacinefhnabDoor.symsNeeds
open Go.ChangeShapes Go.WideShapes Go.ChangeAt Go.RowKit
open Go.ChangeMaps (open_string shut_string)
set_option linter.unusedVariables false
set_option maxRecDepth 100000

theorem own : ownKnob Tryd.prog.godebug = none := by kernel_rfl
theorem gMag : Tryd.prog.globalNamed "shelf/elf.magic" = some 0 := by kernel_rfl
theorem gMagT : (Tryd.prog.globals[0]?).map (·.type) = some 133 := by kernel_rfl
theorem cMag : Tryd.prog.cellsOf 133 = 4 := by kernel_rfl
theorem c5 : Tryd.prog.cellsOf 5 = 1 := by kernel_rfl
theorem laid_is {W : World} (h : laidMetH Tryd.prog Rows.symsNeedsUptoRow.laid W) : laidMet Tryd.prog [("shelf/elf.magic", Rows.laid_shelf_elf_magic)] W := h
theorem tabM {W : World} (h : laidMetH Tryd.prog Rows.symsNeedsUptoRow.laid W) : Lib.TabIs Tryd.prog W "shelf/elf.magic" .u8 [127, 69, 76, 70] :=
  Lib.tabIs_of_head (rest := []) gMag gMagT Tryd.underlying133 Tryd.underlying5 c5 cMag (laid_is h)
theorem tabs {W : World} (h : laidMetH Tryd.prog Rows.symsNeedsUptoRow.laid W) : Magic W :=
  ⟨(tabM h).cell gMag 0 (by decide), (tabM h).cell gMag 1 (by decide), (tabM h).cell gMag 2 (by decide), (tabM h).cell gMag 3 (by decide)⟩
theorem bulk_mem {H : Type} : ∀ (l : List (DataW H)) (d : DataW H), d ∈ l → Rows.uptoBulk d ≤ Rows.uptoBulkAll l
  | [], d, h => by cases h
  | x :: r, d, h => by
    simp only [Rows.uptoBulkAll]
    rcases List.mem_cons.1 h with rfl | h
    · omega
    · have := bulk_mem r d h; omega

theorem walk (a0 : ByteArray) (w0 : a0.size ≤ maxLen) (l0 : a0.size ≤ 1048576) (w : World) (hM : Magic w) :
    Calls Tryd.prog 5 #[.string a0] w fun e w' => e = .returned (.bool true) ∧ Below w.heap.size w w' := by
  obtain ⟨l, e, hl, hne, hp, hr⟩ := tables_both a0 l0
  have hkl (f : Sym → Bool) : ((l.filter f).map Sym.name).length ≤ 281474976710656 := by
    rw [List.length_map]
    have := List.length_filter_le f l
    omega
  have HP := Hid.mk' (Needs_c a0 l e hp hne hl w hM)
  have HR := Hid.mk' (fun w => dNeeds_c a0 l e hr hne hl w)
  clear hp hr w0 l0 hne
  go_enter Tryd.func5, Tryd.ntmps5
  go_wp2_with (first
    | (go_at_call 12; refine (HP.out).mono ?_; rintro r w1 ⟨v1, rfl, hs1, hb1⟩)
    | (go_at_call 19; refine (HR.out _).mono ?_; rintro r w2 ⟨v2, rfl, hs2, hb2⟩; have hk1 := own_below hs1 hb2; have hb12 : Below w.heap.size w w2 := hb1.trans (hb2.mono hb1.size))
    | (go_at_call 17; refine (sameNms _ _ v1 v2 _ _ (hkl _) hk1 hs2).mono ?_; rintro r w3 ⟨rfl, hd3⟩)
    | go_in)
  all_goals
    go_ret
    exact ⟨rfl, hb12.trans (hd3.below _)⟩
theorem contract (H : Type) (enc : TypeId × Value → H) (W : World) (base : Nat) (args : Array Value) (ds gs : List (DataW H)) (before : List MemPlace)
    (hval : ∀ (j : Nat) t v, Tryd.f5.params[j]? = some t → args[j]? = some v → Value.okWide Tryd.prog W .any base t v)
    (hW : DataW.Whole enc Tryd.prog Tryd.f5.params.toList Rows.symsNeedsSpec.vars false W args.toList ds gs before) (hL : laidMetH Tryd.prog Rows.symsNeedsUptoRow.laid W) (hk : Rows.uptoSmall H (ds ++ gs) = true) :
    Calls Tryd.prog 5 args W fun e W' => ∃ v, e = .returned v ∧ Rows.symsNeedsSpec.post enc Tryd.prog Tryd.f5 false true false false W args v W' := by
  have hW' := hW
  obtain ⟨p, q, hA0, hV, rfl, hfz, hnd⟩ := hW
  have hA : DataW.TrodAll enc Tryd.prog W 0 (fun _ => true) true Tryd.f5.params.toList args.toList ds p := hA0
  rw [Tryd.params5] at hA hval
  obtain ⟨v0, vs0, d0, ds0, p0, q0, hargs, rfl, rfl, h0, r0⟩ := trodAll_cons hA
  obtain ⟨rfl, rfl, rfl⟩ := trodAll_nil r0
  obtain rfl : args = #[v0] := by have h := congrArg List.toArray hargs; rw [Array.toArray_toList] at h; exact h
  obtain ⟨rfl, rfl⟩ := trodVars_none hV
  simp only [List.append_nil] at hk
  have hBk : Rows.uptoBulkAll [d0] ≤ 1048576 := of_decide_eq_true hk
  have bk0 : Rows.uptoBulk d0 ≤ 1048576 := Nat.le_trans (bulk_mem _ _ (by simp)) hBk
  obtain ⟨a0, rfl, rfl, rfl, w0⟩ := open_string Tryd.underlying9 (hval 0 9 v0 rfl rfl) h0
  have l0 : a0.size ≤ 1048576 := by
    have e : a0.data.toList.length = a0.size := by rw [Array.length_toList]; rfl
    simp only [Rows.uptoBulk] at bk0; omega
  clear hA0
  simp only [List.append_nil] at hW'
  refine (walk a0 w0 l0 W (tabs hL)).mono fun e W' ⟨he, hg⟩ => ?_
  subst he
  exact ⟨_, rfl, _, _, _, [], _, [], hW', trodAll_cons_mk (shut_bool Tryd.underlying4 _) trodAll_mk0, (trodAll_cons_mk (shut_string Tryd.underlying9 w0) trodAll_mk0), rfl, hg.frame _, fun h => by cases h⟩
theorem laid_met (os : Os) : laidMet Tryd.prog Rows.symsNeedsUptoRow.laid (({ (World.holding Tryd.prog os ⟨#[], #[], []⟩) with heap := ((World.holding Tryd.prog os ⟨#[], #[], []⟩).heap.modify 0 fun
      | .cells _ t frozen => .cells #[.int .u8 127, .int .u8 69, .int .u8 76, .int .u8 70] t frozen
      | o => o) } : World).forCall (fun _ _ => 0) ⟨#[], #[.string ByteArray.empty], []⟩).memory :=
  laidMet_of_run' 8 (by kernel_rfl) (by kernel_rfl)
theorem reads (os : Os) {H : Type} (enc : TypeId × Value → H) : ∃ places, DataW.whole enc Tryd.prog (({ (World.holding Tryd.prog os ⟨#[], #[], []⟩) with heap := ((World.holding Tryd.prog os ⟨#[], #[], []⟩).heap.modify 0 fun
      | .cells _ t frozen => .cells #[.int .u8 127, .int .u8 69, .int .u8 76, .int .u8 70] t frozen
      | o => o) } : World).forCall (fun _ _ => 0) ⟨#[], #[.string ByteArray.empty], []⟩).memory Tryd.f5.params.toList Rows.symsNeedsSpec.vars false (#[.string ByteArray.empty] : Array Value).toList 8 = some ([.lit (.string [])], [], places) :=
  ⟨[], by kernel_rfl⟩
set_option maxRecDepth 100000 in
theorem lifted (os : Os) (started : os.Started) (H : Type) (enc : TypeId × Value → H) (F : Stop.Interp) :
    ReturnsInHanded {} Tryd.checked os 5 .any ((Rows.OpenSpec.upto Rows.symsNeedsSpec).preRow enc Tryd.prog Tryd.f5 Rows.symsNeedsUptoRow.domain false Rows.symsNeedsUptoRow.laid) (((Rows.OpenSpec.upto Rows.symsNeedsSpec).at F).post enc Tryd.prog Tryd.f5 false true false false) := by
  obtain ⟨places, hx⟩ := reads os enc
  refine returnsInHanded_of_row (C := Tryd.checked) (s := (Rows.OpenSpec.upto Rows.symsNeedsSpec)) own started (by kernel_rfl) Tryd.func5
    (witness_row_at (enc := enc) (C := Tryd.checked) false ({ (World.holding Tryd.prog os ⟨#[], #[], []⟩) with heap := ((World.holding Tryd.prog os ⟨#[], #[], []⟩).heap.modify 0 fun
      | .cells _ t frozen => .cells #[.int .u8 127, .int .u8 69, .int .u8 76, .int .u8 70] t frozen
      | o => o) } : World) #[.string ByteArray.empty] rfl (by kernel_rfl) (by kernel_rfl) (by kernel_rfl)
      (OpenSpec.preRow_of_cond 8 hx (by kernel_rfl) (fun k hk => by cases hk; rfl) (by kernel_rfl) (laid_met os))) ?_
  intro W base args ds gs before hval hW _ hcond _ hL _ _
  exact contract H enc W base args ds gs before hval hW hL (hcond _ rfl)
theorem said : Rows.SymsNeedsUptoSaid :=
  OpenClaim.holds_of_cond 5 Tryd.f5 rfl rfl rfl rfl rfl rfl rfl ⟨rfl, rfl, rfl, rfl, rfl⟩ rfl rfl rfl rfl rfl (by kernel_rfl) Tryd.func5 (by kernel_rfl)
    (of_decide_eq_true (by kernel_rfl)) (by unfold Func.isWrapper; first | (rw [if_pos (by decide +kernel)]; kernel_rfl) | (rw [if_neg (by decide +kernel)]; exact ⟨rfl, rfl⟩))
    (fun os started H enc _ F => by rw [OpenClaim.pre_eq_preRow]; exact lifted os started H enc F)
theorem plain (f : FuncId) (fn : Func) (hf : Tryd.pinned.checked.prog.funcNamed "shelf/shelflaw6.SymsNeeds" = some f) (hfn : Tryd.pinned.checked.prog.funcs[f]? = some fn) :
    true = Tryd.pinned.checked.prog.looks [] ∧ ∀ (j : Nat) t, fn.params[j]? = some t → Tryd.pinned.checked.prog.wantsStandIn t = false := by
  obtain rfl : f = 5 := Option.some.inj ((show Tryd.prog.funcNamed "shelf/shelflaw6.SymsNeeds" = some 5 by kernel_rfl).symm.trans hf) |>.symm
  obtain rfl : fn = Tryd.f5 := (Option.some.inj (Tryd.func5.symm.trans hfn)).symm
  refine ⟨by kernel_rfl, fun j t ht => ?_⟩
  rw [Tryd.params5] at ht
  have hmem := Array.mem_of_getElem? ht
  have s9 : Tryd.pinned.checked.prog.wantsStandIn 9 = false := by kernel_rfl
  have s3 : Tryd.pinned.checked.prog.wantsStandIn 3 = false := by kernel_rfl
  simp at hmem
  first
    | (rcases hmem with rfl | rfl <;> assumption)
    | (subst hmem; assumption)
theorem card : Rows.SymsNeedsUptoCardSaid :=
  Claim7.holds_tied_plain_at .later [] _ _ _ _ said (fun _ h => by cases h) (by kernel_rfl) (fun _ h => by cases h) symsNeedsUpto_row_tie rfl ⟨rfl, rfl⟩ (by kernel_rfl) rfl plain (by kernel_rfl)
end Go.Proofs.YtaeigacinefhnabDoor.symsNeeds
namespace Go.Proofs.YtaeigacinefhnabDoor
theorem symsNeeds_holds : Rows.SymsNeedsUptoCardSaid := symsNeeds.card
#print axioms symsNeeds_holds
end Go.Proofs.YtaeigacinefhnabDoor
