import Derived.Test.YtnajnfnkpcpacaaRows
import Derived.Test.YtnajnfnkpcpacaaE2
import Derived.Test.YtnajnfnkpcpacaaNU
import Derived.WalkKit
import Derived.ProofKit
import Derived.OpenShut
namespace Go.Proofs.Ytnajnfnkpcpacaa.nmNames
open Go.ChangeShapes Go.WideShapes Go.ChangeAt Go.RowKit
set_option linter.unusedVariables false

theorem own : ownKnob Try.prog.godebug = none := by kernel_rfl

theorem walk  (w : World) :
    Calls Try.prog 3 #[] w fun e w' => e = .returned (.bool true) ∧ Below w.heap.size w w' := by
  have h1 : errW 200 = ⟨#[117, 110, 107, 110, 111, 119, 110, 32, 111, 112, 116, 105, 111, 110, 32, 108, 101, 116, 116, 101, 114]⟩ := by kernel_rfl
  have h2 : errW 201 = ⟨#[110, 111, 32, 102, 105, 108, 101, 32, 110, 97, 109, 101, 100]⟩ := by kernel_rfl
  have HE : Hid (∀ c w, Calls Try.prog 8 #[.int .i64 c] w fun e w' => e = .returned (.string (errW c)) ∧ Below w.heap.size w w') := fun c w => error_c c w
  have HN : Hid (∀ c w, Calls Try.prog 7 #[.int .i64 c] w fun e w' => e = .returned (.int .i64 c) ∧ w' = w) := fun c w => num_c c w
  have hB := Below.refl w.heap.size w
  go_enter Try.func3, Try.ntmps3
  go_wp2_with (first | (go_at_call 7; refine (HN.out _ _).mono ?_; rintro e wn ⟨rfl, hwn⟩; rw [hwn]; clear hwn) | (go_at_call 8; refine (HE.out _ _).mono ?_; rintro e w1 ⟨rfl, hb1⟩; (first | rw [h1] | rw [h2]); have hB := bel3K hB hb1; clear hb1))
  go_ret
  exact ⟨rfl, by assumption⟩
set_option maxRecDepth 100000 in
theorem lifted (os : Os) (started : os.Started) (H : Type) (enc : TypeId × Value → H) :
    ReturnsInHanded {} Try.checked os 3 .any (Rows.nmNamesSpec.pre6 enc Try.prog Try.f3 Rows.nmNamesRow.domain false) (Rows.nmNamesSpec.post enc Try.prog Try.f3 false true false false) := by
  refine returnsInHanded_of_change (C := Try.checked) own started (by kernel_rfl) Try.func3
    (ChangeSpec.witness6 (enc := enc) (C := Try.checked) false ⟨#[], #[], []⟩ 8 (by kernel_rfl) (by kernel_rfl) (by kernel_rfl) (by kernel_rfl)) ?_
  intro W base args ds gs before hval0 hW hcnd _
  have hval : ∀ (j : Nat) t v, Try.f3.params[j]? = some t → args[j]? = some v → Value.okWide Try.prog W .any base t v := hval0
  have hW' := hW
  obtain ⟨p, q, hA0, hV, rfl, hfz, hnd⟩ := hW
  have hA : DataW.TrodAll enc Try.prog W 0 (fun _ => true) true Try.f3.params.toList args.toList ds p := hA0
  rw [Try.params3] at hA hval
  obtain ⟨rfl, rfl, rfl⟩ := trodAll_none hA
  obtain ⟨rfl, rfl⟩ := trodVars_none hV
  clear hA0 hval0
  simp only [List.append_nil] at hW'
  refine (walk  W).mono fun e W' ⟨he, hg⟩ => ?_
  subst he
  exact ⟨_, rfl, _, _, _, [], _, [], hW', (trodAll_cons_mk (shut_bool Try.underlying4 _) trodAll_mk0), rfl, rfl, hg.frame _, fun h => by cases h⟩

theorem over : Rows.nmNamesRow.holds Try.pinned (OpenSpec.ofChange Rows.nmNamesSpec) :=
  OpenClaim.holds_of_wide 3 Try.f3 rfl rfl rfl rfl rfl rfl rfl ⟨rfl, rfl, rfl, rfl, rfl⟩ rfl rfl rfl rfl rfl (by kernel_rfl) Try.func3 (by kernel_rfl)
    (of_decide_eq_true (by kernel_rfl)) (by unfold Func.isWrapper; first | (rw [if_pos (by decide +kernel)]; kernel_rfl) | (rw [if_neg (by decide +kernel)]; exact ⟨rfl, rfl⟩))
    (fun os started H enc _ => lifted os started H enc)

theorem proved : Rows.NmNamesSaid :=
  over
end Go.Proofs.Ytnajnfnkpcpacaa.nmNames
namespace Go.Proofs.Ytnajnfnkpcpacaa
theorem nmNames_holds : Rows.NmNamesSaid := nmNames.proved
#print axioms nmNames_holds
end Go.Proofs.Ytnajnfnkpcpacaa
