
-- Proof of the given statement about NamesRead. The frame is the guide's proof-skeleton; the walk and the lemmas are ours.
import Derived.Test.YtmppfpkcnhcfbaaRows
import Derived.Test.YtmppfpkcnhcfbaaD4
import Derived.Test.YtmppfpkcnhcfbaaB6
import Derived.Test.YtmppfpkcnhcfbaaQ3
import Derived.WalkKit
import Derived.ProofKit
import Derived.OpenShut
import Derived.ShutString
import Derived.ChangeOld
import Derived.Below
namespace Go.Proofs.Ytmppfpkcnhcfbaa.namesRead
open Go.ChangeShapes Go.WideShapes Go.ChangeAt Go.RowKit
open Go.ChangeMaps (open_string shut_string)
set_option linter.unusedVariables false

theorem own : ownKnob Try.prog.godebug = none := by kernel_rfl
theorem laidOut : laidOutB Try.prog = true := by kernel_rfl

theorem walk (a0 : ByteArray) (w0 : a0.size ≤ maxLen) (w : World) :
    Calls Try.prog 6 #[.string a0] w fun e w' => e = .returned (.bool true) ∧ Below w.heap.size w w' := by
  have H1 : Hid (∀ w, Calls Try.prog 14 #[.string a0] w fun e w' => e = .returned (.tuple #[flV (readL a0.data.toList).1, .int .i64 (readL a0.data.toList).2]) ∧ Below w.heap.size w w') := fun w => pread_c a0 w w0
  have H2 : Hid (∀ w, Calls Try.prog 15 #[.string a0] w fun e w' => e = .returned (.tuple #[flV (readL a0.data.toList).1, .int .i64 (readL a0.data.toList).2]) ∧ Below w.heap.size w w') := fun w => rread_c a0 w w0
  clear w0
  generalize readL a0.data.toList = k at *
  obtain ⟨⟨so, nu, na⟩, d⟩ := k
  have H1' : Hid (∀ w, Calls Try.prog 14 #[.string a0] w fun e w' => e = .returned (.tuple #[.agg #[.int .i64 so, .int .i64 nu, .string na], .int .i64 d]) ∧ Below w.heap.size w w') := H1
  have H2' : Hid (∀ w, Calls Try.prog 15 #[.string a0] w fun e w' => e = .returned (.tuple #[.agg #[.int .i64 so, .int .i64 nu, .string na], .int .i64 d]) ∧ Below w.heap.size w w') := H2
  clear H1 H2
  go_enter Try.func6, Try.ntmps6
  have hE := eqFl so nu na
  go_wp2_with (first
    | (go_at_call 14; refine (H1'.out _).mono ?_; rintro e w1 ⟨rfl, hb1⟩)
    | (go_at_call 15; refine (H2'.out _).mono ?_; rintro e w2 ⟨rfl, hb2⟩; have hr := hup (hkeep hb2 (heap_alloc_new w1 (.cells #[.int .i64 so, .int .i64 nu, .string na] 34))) (.cells #[.int .i64 so, .int .i64 nu, .string na] 34))
    | (refine wpList_load_row rfl _ _ rfl w1.heap.size rfl _ _ _ _ hr Try.underlying34 rfl (by kernel_rfl) ?_)
    | go_in)
  go_ret
  exact ⟨by simp, bup (bel3 (bup hb1 _) hb2) _⟩
set_option maxRecDepth 100000 in
theorem lifted (os : Os) (started : os.Started) (H : Type) (enc : TypeId × Value → H) :
    ReturnsInHanded {} Try.checked os 6 .any (Rows.namesReadSpec.pre6 enc Try.prog Try.f6 Rows.namesReadRow.domain false) (Rows.namesReadSpec.post enc Try.prog Try.f6 false true false false) := by
  refine returnsInHanded_of_change (C := Try.checked) own started (by kernel_rfl) Try.func6
    (ChangeSpec.witness6 (enc := enc) (C := Try.checked) false ⟨#[], #[.string ByteArray.empty], []⟩ 8 (by kernel_rfl) (by kernel_rfl) (by kernel_rfl) (by kernel_rfl)) ?_
  intro W base args ds gs before hval0 hW hcnd _
  have hval : ∀ (j : Nat) t v, Try.f6.params[j]? = some t → args[j]? = some v → Value.okWide Try.prog W .any base t v := hval0
  have hW' := hW
  obtain ⟨p, q, hA0, hV, rfl, hfz, hnd⟩ := hW
  have hA : DataW.TrodAll enc Try.prog W 0 (fun _ => true) true Try.f6.params.toList args.toList ds p := hA0
  rw [Try.params6] at hA hval
  obtain ⟨v0, vs0, d0, ds0, p0, q0, hargs, rfl, rfl, h0, r0⟩ := trodAll_cons hA
  obtain ⟨rfl, rfl, rfl⟩ := trodAll_nil r0
  obtain rfl : args = #[v0] := by have h := congrArg List.toArray hargs; rw [Array.toArray_toList] at h; exact h
  obtain ⟨rfl, rfl⟩ := trodVars_none hV
  obtain ⟨a0, rfl, rfl, rfl, w0⟩ := open_string Try.underlying9 (hval 0 9 v0 rfl rfl) h0
  clear hA0 hval0
  simp only [List.append_nil] at hW'
  refine (walk a0 w0 W).mono fun e W' ⟨he, hg⟩ => ?_
  subst he
  exact ⟨_, rfl, _, _, _, [], _, [], hW', (trodAll_cons_mk (shut_bool Try.underlying4 _) trodAll_mk0), (trodAll_cons_mk (shut_string Try.underlying9 w0) trodAll_mk0), rfl, hg.frame _, fun h => by cases h⟩

theorem over : Rows.namesReadRow.holds Try.pinned (OpenSpec.ofChange Rows.namesReadSpec) :=
  OpenClaim.holds_of_wide 6 Try.f6 rfl rfl rfl rfl rfl rfl rfl ⟨rfl, rfl, rfl, rfl, rfl⟩ rfl rfl rfl rfl rfl (by kernel_rfl) Try.func6 (by kernel_rfl)
    (of_decide_eq_true (by kernel_rfl)) (by unfold Func.isWrapper; first | (rw [if_pos (by decide +kernel)]; kernel_rfl) | (rw [if_neg (by decide +kernel)]; exact ⟨rfl, rfl⟩))
    (fun os started H enc _ => lifted os started H enc)

theorem proved : Rows.NamesReadSaid :=
  over
end Go.Proofs.Ytmppfpkcnhcfbaa.namesRead
namespace Go.Proofs.Ytmppfpkcnhcfbaa
theorem namesRead_holds : Rows.NamesReadSaid := namesRead.proved
#print axioms namesRead_holds
end Go.Proofs.Ytmppfpkcnhcfbaa
