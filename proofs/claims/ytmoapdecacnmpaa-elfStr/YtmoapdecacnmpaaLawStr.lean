
-- Proof of the given statement about ElfStr. The frame is the guide's proof-skeleton; the walk and the lemmas are ours.
import Derived.Test.YtmoapdecacnmpaaRows
import Derived.Test.YtmoapdecacnmpaaS4
import Derived.WalkKit
import Derived.ProofKit
import Derived.OpenShut
import Derived.ShutString
import Derived.ChangeOld
import Derived.Below
namespace Go.Proofs.Ytmoapdecacnmpaa.elfStr
open Go.ChangeShapes Go.WideShapes Go.ChangeAt Go.RowKit
open Go.ChangeMaps (open_string shut_string)
set_option linter.unusedVariables false

theorem own : ownKnob Try.prog.godebug = none := by kernel_rfl
theorem laidOut : laidOutB Try.prog = true := by kernel_rfl
theorem tup2 {a b : ByteArray} {c d : Int} (h1 : a = b) (h2 : c = d) : Ending.returned (.tuple #[.string a, .int .i64 c]) = .returned (.tuple #[.string b, .int .i64 d]) := by rw [h1, h2]
/-- both answer the same -/
theorem both (s : ByteArray) (off : Int) (hm : s.size ≤ maxLen) (ho : -9223372036854775808 ≤ off ∧ off ≤ 9223372036854775807) :
    ∃ (v : ByteArray) (e : Int), (∀ w, Calls Try.prog 9 #[.string s, .int .i64 off] w fun r w' => r = .returned (.tuple #[.string v, .int .i64 e]) ∧ Below w.heap.size w w') ∧
      (∀ w, Calls Try.prog 10 #[.string s, .int .i64 off] w fun r w' => r = .returned (.tuple #[.string v, .int .i64 e]) ∧ Below w.heap.size w w') := by
  have sm {f : FuncId} {args : Array Value} {w : World} {r0 : Ending} (h : Calls Try.prog f args w fun r w' => r = r0 ∧ w' = w) : Calls Try.prog f args w fun r w' => r = r0 ∧ Below w.heap.size w w' :=
    h.mono fun r w' ⟨h1, h2⟩ => ⟨h1, by rw [h2]; exact Below.refl _ _⟩
  by_cases hn : off < 0
  · exact ⟨_, _, fun w => Str_no s off 56 w (fun w => sm (textAt_out s off w (Or.inl hn) hm)), fun w => sm (rStr_neg s off w hn)⟩
  · obtain ⟨n, rfl⟩ := Int.eq_ofNat_of_zero_le (show 0 ≤ off by omega)
    rcases str_or s n with ⟨j, hj⟩ | hj
    · exact ⟨_, _, fun w => Str_ok s n (s.extract n j) w (fun w => sm (textAt_ok s n j w hj hm)), fun w => sm (rStr_ok s n j w hj hm)⟩
    · by_cases hlt : n < s.size
      · exact ⟨_, _, fun w => Str_no s n 56 w (fun w => sm (textAt_none s n w hlt hj hm)), fun w => sm (rStr_none s n w hj ho.2 hm)⟩
      · exact ⟨_, _, fun w => Str_no s n 56 w (fun w => sm (textAt_out s n w (Or.inr (by omega)) hm)), fun w => sm (rStr_none s n w hj ho.2 hm)⟩
theorem walk (a0 : ByteArray) (w0 : a0.size ≤ maxLen) (a1 : Int) (w1 : (Lit.int .i64 a1).wf = true) (w : World) :
    Calls Try.prog 5 #[.string a0, .int .i64 a1] w fun e w' => e = .returned (.bool true) ∧ Below w.heap.size w w' := by
  obtain ⟨v, c, hn, hr⟩ := both a0 a1 w0 (bounds_i64 w1)
  have HN := Hid.mk' hn
  have HR := Hid.mk' hr
  clear hn hr w0 w1
  go_enter Try.func5, Try.ntmps5
  go_wp2_with (first
    | (go_at_call 9; refine (HN.out _).mono ?_; rintro e w1 ⟨rfl, hb1⟩)
    | (go_at_call 10; refine (HR.out _).mono ?_; rintro e w2 ⟨rfl, hb2⟩)
    | go_in)
  all_goals
    go_ret
    exact ⟨by simp, hb1.trans (hb2.mono hb1.size)⟩
set_option maxRecDepth 100000 in
theorem lifted (os : Os) (started : os.Started) (H : Type) (enc : TypeId × Value → H) :
    ReturnsInHanded {} Try.checked os 5 .any (Rows.elfStrSpec.pre6 enc Try.prog Try.f5 Rows.elfStrRow.domain false) (Rows.elfStrSpec.post enc Try.prog Try.f5 false true false false) := by
  refine returnsInHanded_of_change (C := Try.checked) own started (by kernel_rfl) Try.func5
    (ChangeSpec.witness6 (enc := enc) (C := Try.checked) false ⟨#[], #[.string ByteArray.empty, .int .i64 0], []⟩ 8 (by kernel_rfl) (by kernel_rfl) (by kernel_rfl) (by kernel_rfl)) ?_
  intro W base args ds gs before hval0 hW hcnd _
  have hval : ∀ (j : Nat) t v, Try.f5.params[j]? = some t → args[j]? = some v → Value.okWide Try.prog W .any base t v := hval0
  have hW' := hW
  obtain ⟨p, q, hA0, hV, rfl, hfz, hnd⟩ := hW
  have hA : DataW.TrodAll enc Try.prog W 0 (fun _ => true) true Try.f5.params.toList args.toList ds p := hA0
  rw [Try.params5] at hA hval
  obtain ⟨v0, vs0, d0, ds0, p0, q0, hargs, rfl, rfl, h0, r0⟩ := trodAll_cons hA
  obtain ⟨v1, vs1, d1, ds1, p1, q1, rfl, rfl, rfl, h1, r1⟩ := trodAll_cons r0
  obtain ⟨rfl, rfl, rfl⟩ := trodAll_nil r1
  obtain rfl : args = #[v0, v1] := by have h := congrArg List.toArray hargs; rw [Array.toArray_toList] at h; exact h
  obtain ⟨rfl, rfl⟩ := trodVars_none hV
  obtain ⟨a0, rfl, rfl, rfl, w0⟩ := open_string Try.underlying9 (hval 0 9 v0 rfl rfl) h0
  obtain ⟨a1, rfl, rfl, rfl, w1⟩ := open_int Try.underlying3 (hval 1 3 v1 rfl rfl) h1
  clear hA0 hval0
  simp only [List.append_nil] at hW'
  refine (walk a0 w0 a1 w1 W).mono fun e W' ⟨he, hg⟩ => ?_
  subst he
  exact ⟨_, rfl, _, _, _, [], _, [], hW', (trodAll_cons_mk (shut_bool Try.underlying4 _) trodAll_mk0), (trodAll_cons_mk (shut_string Try.underlying9 w0) (trodAll_cons_mk (shut_int Try.underlying3 w1) trodAll_mk0)), rfl, hg.frame _, fun h => by cases h⟩

theorem over : Rows.elfStrRow.holds Try.pinned (OpenSpec.ofChange Rows.elfStrSpec) :=
  OpenClaim.holds_of_wide 5 Try.f5 rfl rfl rfl rfl rfl rfl rfl ⟨rfl, rfl, rfl, rfl, rfl⟩ rfl rfl rfl rfl rfl (by kernel_rfl) Try.func5 (by kernel_rfl)
    (of_decide_eq_true (by kernel_rfl)) (by unfold Func.isWrapper; first | (rw [if_pos (by decide +kernel)]; kernel_rfl) | (rw [if_neg (by decide +kernel)]; exact ⟨rfl, rfl⟩))
    (fun os started H enc _ => lifted os started H enc)

theorem proved : Rows.ElfStrSaid :=
  over
end Go.Proofs.Ytmoapdecacnmpaa.elfStr
namespace Go.Proofs.Ytmoapdecacnmpaa
theorem elfStr_holds : Rows.ElfStrSaid := elfStr.proved
#print axioms elfStr_holds
end Go.Proofs.Ytmoapdecacnmpaa
