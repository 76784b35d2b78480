
-- Proof of the given statement about ElfStrWhole. The frame is the guide's proof-skeleton; the walk and the lemmas are ours.
import Derived.Test.YtmoapdecacnmpaaRows
import Derived.Test.YtmoapdecacnmpaaS5
import Derived.WalkKit
import Derived.ProofKit
import Derived.OpenShut
import Derived.ShutString
import Derived.ChangeOld
import Derived.Below
namespace Go.Proofs.Ytmoapdecacnmpaa.elfStrWhole
open Go.ChangeShapes Go.WideShapes Go.ChangeAt Go.RowKit
open Go.ChangeMaps (open_string shut_string)
set_option linter.unusedVariables false

theorem own : ownKnob Try.prog.godebug = none := by kernel_rfl
theorem laidOut : laidOutB Try.prog = true := by kernel_rfl
theorem ext_byt (s : ByteArray) (off n i : Nat) (h : i < n) : byt (s.extract off (off + n)) i = byt s (off + i) := by
  unfold byt
  rw [List.getD_eq_getElem?_getD, List.getD_eq_getElem?_getD, ext_toList, List.getElem?_drop, List.getElem?_take, if_pos (by omega)]
theorem sm {f : FuncId} {args : Array Value} {w : World} {r0 : Ending} (h : Calls Try.prog f args w fun r w' => r = r0 ∧ w' = w) : Calls Try.prog f args w fun r w' => r = r0 ∧ Below w.heap.size w w' :=
  h.mono fun r w' ⟨h1, h2⟩ => ⟨h1, by rw [h2]; exact Below.refl _ _⟩
theorem walk (a0 : ByteArray) (w0 : a0.size ≤ maxLen) (a1 : Int) (w1 : (Lit.int .i64 a1).wf = true) (w : World) :
    Calls Try.prog 4 #[.string a0, .int .i64 a1] w fun e w' => e = .returned (.bool true) ∧ Below w.heap.size w w' := by
  have ho := bounds_i64 w1
  by_cases hn : a1 < 0 ∨ (a0.size : Int) ≤ a1
  · exact whole_out a0 a1 w hn (fun w => Str_no a0 a1 56 w (fun w => sm (textAt_out a0 a1 w hn w0)))
  · obtain ⟨n, rfl⟩ := Int.eq_ofNat_of_zero_le (show 0 ≤ a1 by omega)
    have hlt : n < a0.size := by omega
    rcases str_or a0 n with ⟨j, hj⟩ | hj
    · obtain ⟨m, rfl⟩ : ∃ m, j = n + m := ⟨j - n, by have := hj.1; omega⟩
      refine whole_ok a0 (a0.extract n (n + m)) n m w hj w0 ?_ ?_ rfl (fun w => Str_ok a0 n _ w (fun w => sm (textAt_ok a0 n (n + m) w hj w0)))
      · rw [ByteArray.size_extract]; have := hj.2.1; omega
      · intro i hi
        rw [ext_byt a0 n m i hi]
        exact hj.2.2.2 (n + i) (by omega) (by omega)
    · exact whole_none a0 n w hlt hj w0 (fun w => Str_no a0 n 56 w (fun w => sm (textAt_none a0 n w hlt hj w0)))
set_option maxRecDepth 100000 in
theorem lifted (os : Os) (started : os.Started) (H : Type) (enc : TypeId × Value → H) :
    ReturnsInHanded {} Try.checked os 4 .any (Rows.elfStrWholeSpec.pre6 enc Try.prog Try.f4 Rows.elfStrWholeRow.domain false) (Rows.elfStrWholeSpec.post enc Try.prog Try.f4 false true false false) := by
  refine returnsInHanded_of_change (C := Try.checked) own started (by kernel_rfl) Try.func4
    (ChangeSpec.witness6 (enc := enc) (C := Try.checked) false ⟨#[], #[.string ByteArray.empty, .int .i64 0], []⟩ 8 (by kernel_rfl) (by kernel_rfl) (by kernel_rfl) (by kernel_rfl)) ?_
  intro W base args ds gs before hval0 hW hcnd _
  have hval : ∀ (j : Nat) t v, Try.f4.params[j]? = some t → args[j]? = some v → Value.okWide Try.prog W .any base t v := hval0
  have hW' := hW
  obtain ⟨p, q, hA0, hV, rfl, hfz, hnd⟩ := hW
  have hA : DataW.TrodAll enc Try.prog W 0 (fun _ => true) true Try.f4.params.toList args.toList ds p := hA0
  rw [Try.params4] at hA hval
  obtain ⟨v0, vs0, d0, ds0, p0, q0, hargs, rfl, rfl, h0, r0⟩ := trodAll_cons hA
  obtain ⟨v1, vs1, d1, ds1, p1, q1, rfl, rfl, rfl, h1, r1⟩ := trodAll_cons r0
  obtain ⟨rfl, rfl, rfl⟩ := trodAll_nil r1
  obtain rfl : args = #[v0, v1] := by have h := congrArg List.toArray hargs; rw [Array.toArray_toList] at h; exact h
  obtain ⟨rfl, rfl⟩ := trodVars_none hV
  obtain ⟨a0, rfl, rfl, rfl, w0⟩ := open_string Try.underlying9 (hval 0 9 v0 rfl rfl) h0
  obtain ⟨a1, rfl, rfl, rfl, w1⟩ := open_int Try.underlying3 (hval 1 3 v1 rfl rfl) h1
  clear hA0 hval0
  simp only [List.append_nil] at hW'
  refine (walk a0 w0 a1 w1 W).mono fun e W' ⟨he, hg⟩ => ?_
  subst he
  exact ⟨_, rfl, _, _, _, [], _, [], hW', (trodAll_cons_mk (shut_bool Try.underlying4 _) trodAll_mk0), (trodAll_cons_mk (shut_string Try.underlying9 w0) (trodAll_cons_mk (shut_int Try.underlying3 w1) trodAll_mk0)), rfl, hg.frame _, fun h => by cases h⟩

theorem over : Rows.elfStrWholeRow.holds Try.pinned (OpenSpec.ofChange Rows.elfStrWholeSpec) :=
  OpenClaim.holds_of_wide 4 Try.f4 rfl rfl rfl rfl rfl rfl rfl ⟨rfl, rfl, rfl, rfl, rfl⟩ rfl rfl rfl rfl rfl (by kernel_rfl) Try.func4 (by kernel_rfl)
    (of_decide_eq_true (by kernel_rfl)) (by unfold Func.isWrapper; first | (rw [if_pos (by decide +kernel)]; kernel_rfl) | (rw [if_neg (by decide +kernel)]; exact ⟨rfl, rfl⟩))
    (fun os started H enc _ => lifted os started H enc)

theorem proved : Rows.ElfStrWholeSaid :=
  over
end Go.Proofs.Ytmoapdecacnmpaa.elfStrWhole
namespace Go.Proofs.Ytmoapdecacnmpaa
theorem elfStrWhole_holds : Rows.ElfStrWholeSaid := elfStrWhole.proved
#print axioms elfStrWhole_holds
end Go.Proofs.Ytmoapdecacnmpaa
