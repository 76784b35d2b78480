-- Proof of the given statement about NumStore. The frame is the guide's proof-skeleton; the walk and the lemmas are ours.
import Derived.Test.YtfjmjgnifbgneaaRows
import Derived.WalkKit
import Derived.ProofKit
import Derived.OpenShut
import Derived.ShutString
import Derived.Test.YtfjmjgnifbgneaaRStore
namespace Go.Proofs.Ytfjmjgnifbgneaa.numStore
open Go.ChangeShapes Go.WideShapes Go.ChangeAt Go.RowKit
open Go.ChangeMaps (open_string shut_string)
set_option linter.unusedVariables false

theorem own : ownKnob Try.prog.godebug = none := by kernel_rfl

theorem div_zero (v K B : Nat) (hB : 256 ^ K = B) (h : v < B) : divAt v K = 0 := by
  unfold divAt; rw [hB]; exact Nat.div_eq_of_lt h
theorem div_pos (v K B : Nat) (hB : 256 ^ K = B) (h0 : 0 < B) (h : B ≤ v) : 0 < divAt v K := by
  unfold divAt; rw [hB]; exact Nat.div_pos h h0
theorem both (v : Nat) (k o : Int) (hv : v < 18446744073709551616) :
    ∃ (t : ByteArray) (c : Int), (∀ w, Calls Try.prog 11 #[.int .u64 v, .int .i64 k, .int .i64 o] w fun e w' => e = .returned (.tuple #[.string t, .int .i64 c]) ∧ Below w.heap.size w w') ∧
      (∀ w, Calls Try.prog 12 #[.int .u64 v, .int .i64 k, .int .i64 o] w fun e w' => e = .returned (.tuple #[.string t, .int .i64 c]) ∧ Below w.heap.size w w') := by
  by_cases hk : k = 1 ∨ k = 2 ∨ k = 4 ∨ k = 8
  · by_cases ho : o = 0 ∨ o = 1
    · rcases ho with rfl | rfl
      · rcases hk with rfl | rfl | rfl | rfl
        · by_cases h : v < 256
          · exact ⟨_, _, fun w => num_store_little_1 v w h, fun w => ref_store_little_ok v 1 w (by decide) hv (div_zero v 1 256 (by decide) h)⟩
          · exact ⟨_, _, fun w => num_store_little_1_wide v w (by omega) hv, fun w => ref_store_little_wide v 1 w (by decide) hv (div_pos v 1 256 (by decide) (by decide) (by omega))⟩
        · by_cases h : v < 65536
          · exact ⟨_, _, fun w => num_store_little_2 v w h, fun w => ref_store_little_ok v 2 w (by decide) hv (div_zero v 2 65536 (by decide) h)⟩
          · exact ⟨_, _, fun w => num_store_little_2_wide v w (by omega) hv, fun w => ref_store_little_wide v 2 w (by decide) hv (div_pos v 2 65536 (by decide) (by decide) (by omega))⟩
        · by_cases h : v < 4294967296
          · exact ⟨_, _, fun w => num_store_little_4 v w h, fun w => ref_store_little_ok v 4 w (by decide) hv (div_zero v 4 4294967296 (by decide) h)⟩
          · exact ⟨_, _, fun w => num_store_little_4_wide v w (by omega) hv, fun w => ref_store_little_wide v 4 w (by decide) hv (div_pos v 4 4294967296 (by decide) (by decide) (by omega))⟩
        · exact ⟨_, _, fun w => num_store_little_8 v w hv, fun w => ref_store_little_ok v 8 w (by decide) hv (div_zero v 8 18446744073709551616 (by decide) hv)⟩
      · rcases hk with rfl | rfl | rfl | rfl
        · by_cases h : v < 256
          · exact ⟨_, _, fun w => num_store_big_1 v w h, fun w => ref_store_big_ok v 1 w (by decide) hv (div_zero v 1 256 (by decide) h)⟩
          · exact ⟨_, _, fun w => num_store_big_1_wide v w (by omega) hv, fun w => ref_store_big_wide v 1 w (by decide) hv (div_pos v 1 256 (by decide) (by decide) (by omega))⟩
        · by_cases h : v < 65536
          · exact ⟨_, _, fun w => num_store_big_2 v w h, fun w => ref_store_big_ok v 2 w (by decide) hv (div_zero v 2 65536 (by decide) h)⟩
          · exact ⟨_, _, fun w => num_store_big_2_wide v w (by omega) hv, fun w => ref_store_big_wide v 2 w (by decide) hv (div_pos v 2 65536 (by decide) (by decide) (by omega))⟩
        · by_cases h : v < 4294967296
          · exact ⟨_, _, fun w => num_store_big_4 v w h, fun w => ref_store_big_ok v 4 w (by decide) hv (div_zero v 4 4294967296 (by decide) h)⟩
          · exact ⟨_, _, fun w => num_store_big_4_wide v w (by omega) hv, fun w => ref_store_big_wide v 4 w (by decide) hv (div_pos v 4 4294967296 (by decide) (by decide) (by omega))⟩
        · exact ⟨_, _, fun w => num_store_big_8 v w hv, fun w => ref_store_big_ok v 8 w (by decide) hv (div_zero v 8 18446744073709551616 (by decide) hv)⟩
    · have ho' : (o == 0) = false ∧ (o == 1) = false := ⟨by simp; omega, by simp; omega⟩
      exact ⟨_, 12, fun w => num_store_order v k o w ho'.1 ho'.2, fun w => ref_store_no v k o w (Or.inr ho')⟩
  · have hk' : (k == 1) = false ∧ (k == 2) = false ∧ (k == 4) = false ∧ (k == 8) = false := ⟨by simp; omega, by simp; omega, by simp; omega, by simp; omega⟩
    by_cases ho : o = 0 ∨ o = 1
    · exact ⟨_, 12, fun w => num_store_size v k o w ho hk'.1 hk'.2.1 hk'.2.2.1 hk'.2.2.2, fun w => ref_store_no v k o w (Or.inl hk')⟩
    · have ho' : (o == 0) = false ∧ (o == 1) = false := ⟨by simp; omega, by simp; omega⟩
      exact ⟨_, 12, fun w => num_store_order v k o w ho'.1 ho'.2, fun w => ref_store_no v k o w (Or.inr ho')⟩

-- the walk
theorem walk (a0 : Int) (a1 : Int) (a2 : Int) (w0 : (Lit.int .u64 a0).wf = true) (w1 : (Lit.int .i64 a1).wf = true) (w2 : (Lit.int .i64 a2).wf = true) (w : World) :
    Calls Try.prog 4 #[.int .u64 a0, .int .i64 a1, .int .i64 a2] w fun e w' => e = .returned (.bool true) ∧ Below w.heap.size w w' := by
  have hb := bounds_u64 w0
  obtain ⟨v, rfl⟩ := Int.eq_ofNat_of_zero_le hb.1
  obtain ⟨t, c, hn, hr⟩ := both v a1 a2 (by omega)
  have HN : Hid (∀ w, Calls Try.prog 11 #[.int .u64 v, .int .i64 a1, .int .i64 a2] w fun e w' => e = .returned (.tuple #[.string t, .int .i64 c]) ∧ Below w.heap.size w w') := hn
  have HR : Hid (∀ w, Calls Try.prog 12 #[.int .u64 v, .int .i64 a1, .int .i64 a2] w fun e w' => e = .returned (.tuple #[.string t, .int .i64 c]) ∧ Below w.heap.size w w') := hr
  clear hn hr hb w0
  go_enter Try.func4, Try.ntmps4
  go_wp2_with (first
    | (go_at_call 11; refine (HN.out _).mono ?_; rintro e w1 ⟨rfl, hb1⟩)
    | (go_at_call 12; refine (HR.out _).mono ?_; rintro e w2 ⟨rfl, hb2⟩))
  go_ret
  exact ⟨by simp, hb1.trans (hb2.mono hb1.size)⟩

-- the row's step (the frame)
set_option maxRecDepth 100000 in
theorem lifted (os : Os) (started : os.Started) (H : Type) (enc : TypeId × Value → H) :
    ReturnsInHanded {} Try.checked os 4 .any (Rows.numStoreSpec.pre6 enc Try.prog Try.f4 Rows.numStoreRow.domain false) (Rows.numStoreSpec.post enc Try.prog Try.f4 false true false false) := by
  refine returnsInHanded_of_change (C := Try.checked) own started (by kernel_rfl) Try.func4
    (ChangeSpec.witness6 (enc := enc) (C := Try.checked) false ⟨#[], #[.int .u64 0, .int .i64 0, .int .i64 0], []⟩ 8 (by kernel_rfl) (by kernel_rfl) (by kernel_rfl) (by kernel_rfl)) ?_
  intro W base args ds gs before hval0 hW hcnd _
  have hval : ∀ (j : Nat) t v, Try.f4.params[j]? = some t → args[j]? = some v → Value.okWide Try.prog W .any base t v := hval0
  have hW' := hW
  obtain ⟨p, q, hA0, hV, rfl, hfz, hnd⟩ := hW
  have hA : DataW.TrodAll enc Try.prog W 0 (fun _ => true) true Try.f4.params.toList args.toList ds p := hA0
  rw [Try.params4] at hA hval
  obtain ⟨v0, vs0, d0, ds0, p0, q0, hargs, rfl, rfl, h0, r0⟩ := trodAll_cons hA
  obtain ⟨v1, vs1, d1, ds1, p1, q1, rfl, rfl, rfl, h1, r1⟩ := trodAll_cons r0
  obtain ⟨v2, vs2, d2, ds2, p2, q2, rfl, rfl, rfl, h2, r2⟩ := trodAll_cons r1
  obtain ⟨rfl, rfl, rfl⟩ := trodAll_nil r2
  obtain rfl : args = #[v0, v1, v2] := by cases args; simp_all
  obtain ⟨rfl, rfl⟩ := trodVars_none hV
  obtain ⟨a0, rfl, rfl, rfl, w0⟩ := open_int Try.underlying24 (hval 0 24 v0 rfl rfl) h0
  obtain ⟨a1, rfl, rfl, rfl, w1⟩ := open_int Try.underlying3 (hval 1 3 v1 rfl rfl) h1
  obtain ⟨a2, rfl, rfl, rfl, w2⟩ := open_int Try.underlying3 (hval 2 3 v2 rfl rfl) h2
  clear hA0 hval0
  simp only [List.append_nil] at hW'
  refine (walk a0 a1 a2 w0 w1 w2 W).mono fun e W' ⟨he, hg⟩ => ?_
  subst he
  exact ⟨_, rfl, _, _, _, [], _, [], hW', (trodAll_cons_mk (shut_bool Try.underlying4 _) trodAll_mk0), (trodAll_cons_mk (shut_int Try.underlying24 w0) (trodAll_cons_mk (shut_int Try.underlying3 w1) (trodAll_cons_mk (shut_int Try.underlying3 w2) trodAll_mk0))), rfl, hg.frame _, fun h => by cases h⟩

theorem over : Rows.numStoreRow.holds Try.pinned (OpenSpec.ofChange Rows.numStoreSpec) :=
  OpenClaim.holds_of_wide 4 Try.f4 rfl rfl rfl rfl rfl rfl rfl ⟨rfl, rfl, rfl, rfl, rfl⟩ rfl rfl rfl rfl rfl (by kernel_rfl) Try.func4 (by kernel_rfl)
    (of_decide_eq_true (by kernel_rfl)) (by unfold Func.isWrapper; first | (rw [if_pos (by decide +kernel)]; kernel_rfl) | (rw [if_neg (by decide +kernel)]; exact ⟨rfl, rfl⟩))
    (fun os started H enc _ => lifted os started H enc)

theorem proved : Rows.NumStoreSaid :=
  over
end Go.Proofs.Ytfjmjgnifbgneaa.numStore
namespace Go.Proofs.Ytfjmjgnifbgneaa
theorem numStore_holds : Rows.NumStoreSaid := numStore.proved
#print axioms numStore_holds
end Go.Proofs.Ytfjmjgnifbgneaa
