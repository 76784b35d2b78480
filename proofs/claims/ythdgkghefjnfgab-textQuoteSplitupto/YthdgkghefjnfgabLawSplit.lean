-- Proof of the given statement about TextQuoteSplit, second form. The frame follows the guide's toy for such a statement; the walk and the lemmas are ours.
import Derived.Test.YthdgkghefjnfgabRows
import Derived.Test.YthdgkghefjnfgabInner
import Derived.WalkKit
import Derived.ProofKit
import Derived.OpenShut
import Derived.ShutString
import Derived.JoinedCond
import Derived.Deep.RegionWith
namespace Go.Proofs.Ythdgkghefjnfgab.textQuoteSplit
open Go.ChangeShapes Go.WideShapes Go.ChangeAt Go.RowKit
open Go.ChangeMaps (open_string shut_string)
set_option linter.unusedVariables false

theorem own : ownKnob Try.prog.godebug = none := by kernel_rfl
theorem short {H : Type} {a0 : ByteArray} {a1 : ByteArray} (hk : Rows.uptoSmall H [.lit (.string a0.data.toList), .lit (.string a1.data.toList)] = true) : a0.size ≤ 1048576 ∧ a1.size ≤ 1048576 := by
  have h : Rows.uptoBulkAll [DataW.lit (H := H) (.string a0.data.toList), .lit (.string a1.data.toList)] ≤ 1048576 := of_decide_eq_true hk
  simp only [Rows.uptoBulkAll, Rows.uptoBulk] at h
  have e0 : a0.data.toList.length = a0.size := by rw [Array.length_toList]; rfl
  have e1 : a1.data.toList.length = a1.size := by rw [Array.length_toList]; rfl
  exact ⟨by omega, by omega⟩

theorem walk (a0 : ByteArray) (a1 : ByteArray) (w0 : a0.size ≤ maxLen) (w1 : a1.size ≤ maxLen) (l0 : a0.size ≤ 1048576) (l1 : a1.size ≤ 1048576) (w : World) :
    Calls Try.prog 4 #[.string a0, .string a1] w fun e w' => e = .returned (.bool true) ∧ Below w.heap.size w w' := by
  have HA : Hid (∀ w, Calls Try.prog 9 #[.string a0] w fun e w' => e = .returned (.tuple #[.string (strB (bodyL (lsq a0))), .bool true]) ∧ Below w.heap.size w w') := fun w => inner_c a0 w l0
  have HB : Hid (∀ w, Calls Try.prog 9 #[.string a1] w fun e w' => e = .returned (.tuple #[.string (strB (bodyL (lsq a1))), .bool true]) ∧ Below w.heap.size w w') := fun w => inner_c a1 w l1
  have el : lsq (⟨#[10]⟩ ++ a0 ++ ⟨#[10]⟩ ++ a1) = 10 :: (lsq a0 ++ 10 :: lsq a1) := by
    rw [lsq_app, lsq_app, lsq_app]
    show [10] ++ lsq a0 ++ [10] ++ lsq a1 = _
    simp
  have HQ : Hid (∀ w, Calls Try.prog 8 #[.string (⟨#[10]⟩ ++ a0 ++ ⟨#[10]⟩ ++ a1)] w fun e w' => e = .returned (.string (strB ([34, 92, 110] ++ bodyL (lsq a0) ++ [92, 110] ++ bodyL (lsq a1) ++ [34]))) ∧ Below w.heap.size w w') := fun w => by
    have hsz : ((⟨#[10]⟩ : ByteArray) ++ a0 ++ ⟨#[10]⟩ ++ a1).size ≤ 4194304 := by
      rw [← lsq_len, el]; simp [lsq_len]; omega
    have := quote_c (⟨#[10]⟩ ++ a0 ++ ⟨#[10]⟩ ++ a1) w hsz
    rwa [el, quote_split] at this
  have he : strB ([34, 92, 110] ++ bodyL (lsq a0) ++ [92, 110] ++ bodyL (lsq a1) ++ [34]) = ⟨#[34, 92, 110]⟩ ++ strB (bodyL (lsq a0)) ++ ⟨#[92, 110]⟩ ++ strB (bodyL (lsq a1)) ++ ⟨#[34]⟩ := by
    apply Go.WideShapes.bytes_inj
    simp [strB]
  rw [he] at HQ
  obtain ⟨p, hp⟩ : ∃ p, p = strB (bodyL (lsq a0)) := ⟨_, rfl⟩
  obtain ⟨q, hq⟩ : ∃ q, q = strB (bodyL (lsq a1)) := ⟨_, rfl⟩
  rw [← hp] at HA HQ
  rw [← hq] at HB HQ
  have hp9 : p.size ≤ 4194304 := by rw [hp, size_strB]; have := bodyL_length _ (lsq a0) (Nat.le_refl _); rw [lsq_len] at this; omega
  have hq9 : q.size ≤ 4194304 := by rw [hq, size_strB]; have := bodyL_length _ (lsq a1) (Nat.le_refl _); rw [lsq_len] at this; omega
  clear hp hq he el w0 w1
  go_enter Try.func4, Try.ntmps4
  go_wp2_with (first
    | (go_at_call_of 9 (Value.string a0); refine (HA.out _).mono ?_; rintro e w1 ⟨rfl, hb1⟩)
    | (go_at_call 9; refine (HB.out _).mono ?_; rintro e w2 ⟨rfl, hb2⟩)
    | (go_at_call 8; refine (HQ.out _).mono ?_; rintro e w3 ⟨rfl, hb3⟩))
  go_returns
  refine ⟨by simp, ?_⟩
  have h12 := hb1.trans (hb2.mono hb1.size)
  exact h12.trans (hb3.mono h12.size)

theorem contract (H : Type) (enc : TypeId × Value → H) (W : World) (base : Nat) (args : Array Value) (ds gs : List (DataW H)) (before : List MemPlace)
    (hval : ∀ (j : Nat) t v, Try.f4.params[j]? = some t → args[j]? = some v → Value.okWide Try.prog W .any base t v)
    (hW : DataW.Whole enc Try.prog Try.f4.params.toList Rows.textQuoteSplitSpec.vars false W args.toList ds gs before) (hk : Rows.uptoSmall H (ds ++ gs) = true) :
    Calls Try.prog 4 args W fun e W' => ∃ v, e = .returned v ∧ Rows.textQuoteSplitSpec.post enc Try.prog Try.f4 false true false false W args v W' := by
  have hW' := hW
  obtain ⟨p, q, hA0, hV, rfl, hfz, hnd⟩ := hW
  have hA : DataW.TrodAll enc Try.prog W 0 (fun _ => true) true Try.f4.params.toList args.toList ds p := hA0
  rw [Try.params4] at hA hval
  obtain ⟨v0, vs0, d0, ds0, p0, q0, hargs, rfl, rfl, h0, r0⟩ := trodAll_cons hA
  obtain ⟨v1, vs1, d1, ds1, p1, q1, rfl, rfl, rfl, h1, r1⟩ := trodAll_cons r0
  obtain ⟨rfl, rfl, rfl⟩ := trodAll_nil r1
  obtain rfl : args = #[v0, v1] := by cases args; simp_all
  obtain ⟨rfl, rfl⟩ := trodVars_none hV
  obtain ⟨a0, rfl, rfl, rfl, w0⟩ := open_string Try.underlying9 (hval 0 9 v0 rfl rfl) h0
  obtain ⟨a1, rfl, rfl, rfl, w1⟩ := open_string Try.underlying9 (hval 1 9 v1 rfl rfl) h1
  clear hA0
  simp only [List.append_nil] at hW' hk
  obtain ⟨l0, l1⟩ := short hk
  refine (walk a0 a1 w0 w1 l0 l1 W).mono fun e W' ⟨he, hg⟩ => ?_
  subst he
  exact ⟨_, rfl, _, _, _, [], _, [], hW', trodAll_cons_mk (shut_bool Try.underlying4 _) trodAll_mk0, (trodAll_cons_mk (shut_string Try.underlying9 w0) (trodAll_cons_mk (shut_string Try.underlying9 w1) trodAll_mk0)), rfl, hg.frame _, fun h => by cases h⟩
set_option maxRecDepth 100000 in
theorem lifted (os : Os) (started : os.Started) (H : Type) (enc : TypeId × Value → H) (F : Stop.Interp) :
    ReturnsInHanded {} Try.checked os 4 .any ((Rows.OpenSpec.upto Rows.textQuoteSplitSpec).pre6 enc Try.prog Try.f4 Rows.textQuoteSplitUptoRow.domain false) (((Rows.OpenSpec.upto Rows.textQuoteSplitSpec).at F).post enc Try.prog Try.f4 false true false false) := by
  refine returnsInHanded_of_cond (C := Try.checked) (s := Rows.OpenSpec.upto Rows.textQuoteSplitSpec) (k := Rows.uptoSmall) rfl own started (by kernel_rfl) Try.func4
    (OpenSpec.witness (enc := enc) (C := Try.checked) (s := Rows.OpenSpec.upto Rows.textQuoteSplitSpec) (k := Rows.uptoSmall) rfl false ⟨#[], #[.string .empty, .string .empty], []⟩ 8 (by kernel_rfl) (by kernel_rfl) (by kernel_rfl)
      (x := ([.lit (.string []), .lit (.string [])], [], [])) (by kernel_rfl) rfl (by kernel_rfl)) ?_
  intro W base args ds gs before hval hW _ hk _
  exact contract H enc W base args ds gs before hval hW hk
theorem proved : Rows.TextQuoteSplitUptoSaid :=
  OpenClaim.holds_of_cond 4 Try.f4 rfl rfl rfl rfl rfl rfl rfl ⟨rfl, rfl, rfl, rfl, rfl⟩ rfl rfl rfl rfl rfl (by kernel_rfl) Try.func4 (by kernel_rfl)
    (of_decide_eq_true (by kernel_rfl)) (by unfold Func.isWrapper; first | (rw [if_pos (by decide +kernel)]; kernel_rfl) | (rw [if_neg (by decide +kernel)]; exact ⟨rfl, rfl⟩))
    (fun os started H enc _ F => lifted os started H enc F)
end Go.Proofs.Ythdgkghefjnfgab.textQuoteSplit
namespace Go.Proofs.Ythdgkghefjnfgab
theorem textQuoteSplit_holds : Rows.TextQuoteSplitUptoSaid := textQuoteSplit.proved
#print axioms textQuoteSplit_holds
end Go.Proofs.Ythdgkghefjnfgab
