
-- Proof of the given statement about ElfContent. The frame is the guide's proof-skeleton; the walk and the lemmas are ours.
import Derived.Test.YtmoapdecacnmpaaRows
import Derived.Test.YtmoapdecacnmpaaS4
import Derived.Test.YtmoapdecacnmpaaO1
import Derived.WalkKit
import Derived.ProofKit
import Derived.OpenShut
import Derived.ShutString
import Derived.ChangeOld
import Derived.Below
namespace Go.Proofs.Ytmoapdecacnmpaa.elfContent
open Go.ChangeShapes Go.WideShapes Go.ChangeAt Go.RowKit
open Go.ChangeMaps (open_string shut_string)
set_option linter.unusedVariables false

theorem own : ownKnob Try.prog.godebug = none := by kernel_rfl
theorem laidOut : laidOutB Try.prog = true := by kernel_rfl
/-- both answer the same -/
theorem both (s : ByteArray) (a b c d e f g h : Int) (hm : s.size ≤ maxLen) (hf : 0 ≤ f ∧ f < 18446744073709551616) (hg : 0 ≤ g ∧ g < 18446744073709551616) :
    ∃ (v : ByteArray) (n : Int), (∀ w, Calls Try.prog 6 #[.string s, .agg #[.int .i64 a, .int .i64 b, .int .u64 c, .int .i64 d, .int .i64 e, .int .u64 f, .int .u64 g, .int .u64 h]] w fun r w' => r = .returned (.tuple #[.string v, .int .i64 n]) ∧ Below w.heap.size w w') ∧
      (∀ w, Calls Try.prog 7 #[.string s, .agg #[.int .i64 a, .int .i64 b, .int .u64 c, .int .i64 d, .int .i64 e, .int .u64 f, .int .u64 g, .int .u64 h]] w fun r w' => r = .returned (.tuple #[.string v, .int .i64 n]) ∧ Below w.heap.size w w') := by
  by_cases hb : b = 8
  · exact ⟨_, _, fun w => Content_ok s a b c d e f g h .empty w (fun w => content_room s a b c d e f g h w hb), fun w => rContent_room s a b c d e f g h w (by rw [hb]; rfl)⟩
  · have hb' : (b == 8) = false := beq_eq_false_iff_ne.2 hb
    obtain ⟨F, rfl⟩ := Int.eq_ofNat_of_zero_le hf.1
    obtain ⟨G, rfl⟩ := Int.eq_ofNat_of_zero_le hg.1
    by_cases hin : F ≤ s.size ∧ G ≤ s.size - F
    · exact ⟨_, _, fun w => Content_ok s a b c d e F G h _ w (fun w => content_ok s a b c d e h F G w hb' hin.1 hin.2 hm), fun w => rContent_ok s a b c d e h F G w hb' hin.1 hin.2 hm⟩
    · exact ⟨_, _, fun w => Content_no s a b c d e F G h 54 w (fun w => content_no s a b c d e h F G w hb' (by omega) (by omega) hin hm), fun w => rContent_no s a b c d e h F G w hb' (by omega) (by omega) hin hm⟩
theorem walk (a0 : ByteArray) (w0 : a0.size ≤ maxLen) (xa xb xc xd xe xf xg xh : Int) (wf : 0 ≤ xf ∧ xf < 18446744073709551616) (wg : 0 ≤ xg ∧ xg < 18446744073709551616) (w : World) :
    Calls Try.prog 3 #[.string a0, .agg #[.int .i64 xa, .int .i64 xb, .int .u64 xc, .int .i64 xd, .int .i64 xe, .int .u64 xf, .int .u64 xg, .int .u64 xh]] w fun e w' => e = .returned (.bool true) ∧ Below w.heap.size w w' := by
  obtain ⟨v, c, hn, hr⟩ := both a0 xa xb xc xd xe xf xg xh w0 wf wg
  have HN := Hid.mk' hn
  have HR := Hid.mk' hr
  clear hn hr w0 wf wg
  go_enter Try.func3, Try.ntmps3
  go_wp2_with (first
    | (go_at_call 6; refine (HN.out _).mono ?_; rintro e w1 ⟨rfl, hb1⟩; have hR : w1.heap[w.heap.size]? = some (.cells #[.int .i64 xa, .int .i64 xb, .int .u64 xc, .int .i64 xd, .int .i64 xe, .int .u64 xf, .int .u64 xg, .int .u64 xh] 24 (0, 0)) := (hb1.block _ (by rw [size_alloc]; exact Nat.lt_succ_self _)).trans (heap_alloc_new w _))
    | (go_at_call 7; refine (HR.out _).mono ?_; rintro e w2 ⟨rfl, hb2⟩)
    | (refine wpList_load_row rfl _ _ rfl w.heap.size rfl _ _ _ _ hR Try.underlying24 rfl (by kernel_rfl) ?_)
    | go_in)
  all_goals
    go_ret
    exact ⟨by simp, below_kept (hb1.trans (hb2.mono hb1.size))⟩
set_option maxRecDepth 100000 in
theorem lifted (os : Os) (started : os.Started) (H : Type) (enc : TypeId × Value → H) :
    ReturnsInHanded {} Try.checked os 3 .any (Rows.elfContentSpec.pre6 enc Try.prog Try.f3 Rows.elfContentRow.domain false) (Rows.elfContentSpec.post enc Try.prog Try.f3 false true false false) := by
  refine returnsInHanded_of_change (C := Try.checked) own started (by kernel_rfl) Try.func3
    (ChangeSpec.witness6 (enc := enc) (C := Try.checked) false ⟨#[], #[.string ByteArray.empty, .agg #[.int .i64 0, .int .i64 0, .int .u64 0, .int .i64 0, .int .i64 0, .int .u64 0, .int .u64 0, .int .u64 0]], []⟩ 8 (by kernel_rfl) (by kernel_rfl) (by kernel_rfl) (by kernel_rfl)) ?_
  intro W base args ds gs before hval0 hW hcnd _
  have hval : ∀ (j : Nat) t v, Try.f3.params[j]? = some t → args[j]? = some v → Value.okWide Try.prog W .any base t v := hval0
  have hW' := hW
  obtain ⟨p, q, hA0, hV, rfl, hfz, hnd⟩ := hW
  have hA : DataW.TrodAll enc Try.prog W 0 (fun _ => true) true Try.f3.params.toList args.toList ds p := hA0
  rw [Try.params3] at hA hval
  obtain ⟨v0, vs0, d0, ds0, p0, q0, hargs, rfl, rfl, h0, r0⟩ := trodAll_cons hA
  obtain ⟨v1, vs1, d1, ds1, p1, q1, rfl, rfl, rfl, h1, r1⟩ := trodAll_cons r0
  obtain ⟨rfl, rfl, rfl⟩ := trodAll_nil r1
  obtain rfl : args = #[v0, v1] := by have h := congrArg List.toArray hargs; rw [Array.toArray_toList] at h; exact h
  obtain ⟨rfl, rfl⟩ := trodVars_none hV
  obtain ⟨a0, rfl, rfl, rfl, w0⟩ := open_string Try.underlying9 (hval 0 9 v0 rfl rfl) h0
  have k1 := h1
  have lt1 : ∀ x ∈ p1, x.block < W.heap.size := by obtain ⟨m, hm⟩ := k1; exact DataW.trod_lt m _ _ _ hm
  obtain ⟨cs1, rfl, hcs1⟩ := okWide_struct Try.underlying24 (hval 1 24 v1 rfl rfl)
  obtain ⟨xa, xb, xc, xd, xe, xf, xg, xh, rfl, wf, wg⟩ := open_sec h1
  clear hA0 hval0
  simp only [List.append_nil] at hW'
  refine (walk a0 w0 xa xb xc xd xe xf xg xh wf wg W).mono fun e W' ⟨he, hg⟩ => ?_
  subst he
  exact ⟨_, rfl, _, _, _, [], _, [], hW', (trodAll_cons_mk (shut_bool Try.underlying4 _) trodAll_mk0), (trodAll_cons_mk (shut_string Try.underlying9 w0) (trodAll_cons_mk (Below.trod laidOut (by kernel_rfl) (of_decide_eq_true (by kernel_rfl)) k1 hg lt1) trodAll_mk0)), rfl, hg.frame _, fun h => by cases h⟩

theorem over : Rows.elfContentRow.holds Try.pinned (OpenSpec.ofChange Rows.elfContentSpec) :=
  OpenClaim.holds_of_wide 3 Try.f3 rfl rfl rfl rfl rfl rfl rfl ⟨rfl, rfl, rfl, rfl, rfl⟩ rfl rfl rfl rfl rfl (by kernel_rfl) Try.func3 (by kernel_rfl)
    (of_decide_eq_true (by kernel_rfl)) (by unfold Func.isWrapper; first | (rw [if_pos (by decide +kernel)]; kernel_rfl) | (rw [if_neg (by decide +kernel)]; exact ⟨rfl, rfl⟩))
    (fun os started H enc _ => lifted os started H enc)

theorem proved : Rows.ElfContentSaid :=
  over
end Go.Proofs.Ytmoapdecacnmpaa.elfContent
namespace Go.Proofs.Ytmoapdecacnmpaa
theorem elfContent_holds : Rows.ElfContentSaid := elfContent.proved
#print axioms elfContent_holds
end Go.Proofs.Ytmoapdecacnmpaa
