-- Proof of the given statement about NumLoad. The frame is the guide's proof-skeleton; the walk and the lemmas are ours.
import Derived.Test.YtfjmjgnifbgneaaRows
import Derived.WalkKit
import Derived.ProofKit
import Derived.OpenShut
import Derived.ShutString
import Derived.Test.YtfjmjgnifbgneaaNLoad
import Derived.Test.YtfjmjgnifbgneaaRLoad
namespace Go.Proofs.Ytfjmjgnifbgneaa.numLoad
open Go.ChangeShapes Go.WideShapes Go.ChangeAt Go.RowKit
open Go.ChangeMaps (open_string shut_string)
set_option linter.unusedVariables false

theorem own : ownKnob Try.prog.godebug = none := by kernel_rfl

theorem Hid.mk' {p : Prop} (h : p) : Hid p := h
theorem num_no (s : ByteArray) (a k o : Int) (hm : s.size ≤ maxLen) (h : ((k == 1) = false ∧ (k == 2) = false ∧ (k == 4) = false ∧ (k == 8) = false) ∨ ((o == 0) = false ∧ (o == 1) = false) ∨ a < 0 ∨ (s.size : Int) < a + k) (w : World) :
    Calls Try.prog 14 #[.string s, .int .i64 a, .int .i64 k, .int .i64 o] w fun e w' => e = .returned (.tuple #[.int .u64 0, .int .i64 12]) ∧ Below w.heap.size w w' := by
  by_cases ho : (o == 0) = true ∨ (o == 1) = true
  · by_cases hp : a < 0 ∨ (s.size : Int) < a
    · exact num_load_place s a k o w ho hp
    · obtain ⟨n, rfl⟩ := Int.eq_ofNat_of_zero_le (show 0 ≤ a by omega)
      by_cases hk : k = 1 ∨ k = 2 ∨ k = 4 ∨ k = 8
      · have ho' : ¬ ((o == 0) = false ∧ (o == 1) = false) := by
          intro ⟨x, y⟩; rw [x, y] at ho; simp at ho
        have hs : (s.size : Int) < n + k := by
          rcases h with ⟨k1, k2, k4, k8⟩ | h | h | h
          · simp at k1 k2 k4 k8; omega
          · exact absurd h ho'
          · omega
          · exact h
        rcases hk with rfl | rfl | rfl | rfl
        · exact num_load_short_1 s n o w ho (by omega) (by omega) hm
        · exact num_load_short_2 s n o w ho (by omega) (by omega) hm
        · exact num_load_short_4 s n o w ho (by omega) (by omega) hm
        · exact num_load_short_8 s n o w ho (by omega) (by omega) hm
      · exact num_load_size s n k o w ho (by omega) hm (by simp; omega) (by simp; omega) (by simp; omega) (by simp; omega)
  · have h0 : (o == 0) = false := by cases h : (o == 0) <;> simp_all
    have h1 : (o == 1) = false := by cases h : (o == 1) <;> simp_all
    exact num_load_order s a k o w h0 h1
theorem at_little (s : ByteArray) (a K i : Nat) (ha : a + K ≤ s.size) (h : i < K) : ∃ h1 h2, s[a + i]'h1 = ((s.data.toList.drop a).take K)[i]'h2 := by
  have hl : s.data.toList.length = s.size := by simp
  refine ⟨by omega, by rw [List.length_take, List.length_drop]; omega, ?_⟩
  rw [List.getElem_take, List.getElem_drop]; rfl
theorem at_big (s : ByteArray) (a K i : Nat) (ha : a + K ≤ s.size) (h : i < K) : ∃ h1 h2, s[a + K - 1 - i]'h1 = ((s.data.toList.drop a).take K).reverse[i]'h2 := by
  have hl : s.data.toList.length = s.size := by simp
  refine ⟨by omega, by rw [List.length_reverse, List.length_take, List.length_drop]; omega, ?_⟩
  rw [List.getElem_reverse, List.getElem_take, List.getElem_drop]
  have e : a + (((s.data.toList.drop a).take K).length - 1 - i) = a + K - 1 - i := by rw [List.length_take, List.length_drop]; omega
  simp only [e]; rfl
theorem both (s : ByteArray) (a k o : Int) (hm : s.size ≤ maxLen) (ba : -9223372036854775808 ≤ a ∧ a ≤ 9223372036854775807) (bk : -9223372036854775808 ≤ k ∧ k ≤ 9223372036854775807) (bo : -9223372036854775808 ≤ o ∧ o ≤ 9223372036854775807) :
    ∃ v c : Int, (∀ w, Calls Try.prog 14 #[.string s, .int .i64 a, .int .i64 k, .int .i64 o] w fun e w' => e = .returned (.tuple #[.int .u64 v, .int .i64 c]) ∧ Below w.heap.size w w') ∧
      (∀ w, Calls Try.prog 15 #[.string s, .int .i64 a, .int .i64 k, .int .i64 o] w fun e w' => e = .returned (.tuple #[.int .u64 v, .int .i64 c]) ∧ Below w.heap.size w w') := by
  by_cases hk : k = 1 ∨ k = 2 ∨ k = 4 ∨ k = 8
  · by_cases ho : o = 0 ∨ o = 1
    · by_cases hp : a < 0 ∨ (s.size : Int) < a + k
      · exact ⟨0, 12, num_no s a k o hm (Or.inr (Or.inr hp)), fun w => ref_load_place s a k o w hk ho hp hm ba⟩
      · obtain ⟨n, rfl⟩ := Int.eq_ofNat_of_zero_le (show 0 ≤ a by omega)
        have hl : s.data.toList.length = s.size := by simp
        have len (K : Nat) (h : n + K ≤ s.size) : ((s.data.toList.drop n).take K).length = K := by rw [List.length_take, List.length_drop]; omega
        rcases ho with rfl | rfl
        · rcases hk with rfl | rfl | rfl | rfl
          · exact ⟨_, _, fun w => num_load_little_1 s n 0 w rfl rfl (by omega) hm, fun w => ref_load_little s n 1 w (by decide) (by omega) hm _ (len 1 (by omega)) (fun i h => at_little s n 1 i (by omega) h)⟩
          · exact ⟨_, _, fun w => num_load_little_2 s n 0 w rfl rfl (by omega) hm, fun w => ref_load_little s n 2 w (by decide) (by omega) hm _ (len 2 (by omega)) (fun i h => at_little s n 2 i (by omega) h)⟩
          · exact ⟨_, _, fun w => num_load_little_4 s n 0 w rfl rfl (by omega) hm, fun w => ref_load_little s n 4 w (by decide) (by omega) hm _ (len 4 (by omega)) (fun i h => at_little s n 4 i (by omega) h)⟩
          · exact ⟨_, _, fun w => num_load_little_8 s n 0 w rfl rfl (by omega) hm, fun w => ref_load_little s n 8 w (by decide) (by omega) hm _ (len 8 (by omega)) (fun i h => at_little s n 8 i (by omega) h)⟩
        · rcases hk with rfl | rfl | rfl | rfl
          · exact ⟨_, _, fun w => num_load_big_1 s n 1 w rfl rfl (by omega) hm, fun w => ref_load_big s n 1 w (by decide) (by omega) hm _ (by rw [List.length_reverse]; exact len 1 (by omega)) (fun i h => at_big s n 1 i (by omega) h)⟩
          · exact ⟨_, _, fun w => num_load_big_2 s n 1 w rfl rfl (by omega) hm, fun w => ref_load_big s n 2 w (by decide) (by omega) hm _ (by rw [List.length_reverse]; exact len 2 (by omega)) (fun i h => at_big s n 2 i (by omega) h)⟩
          · exact ⟨_, _, fun w => num_load_big_4 s n 1 w rfl rfl (by omega) hm, fun w => ref_load_big s n 4 w (by decide) (by omega) hm _ (by rw [List.length_reverse]; exact len 4 (by omega)) (fun i h => at_big s n 4 i (by omega) h)⟩
          · exact ⟨_, _, fun w => num_load_big_8 s n 1 w rfl rfl (by omega) hm, fun w => ref_load_big s n 8 w (by decide) (by omega) hm _ (by rw [List.length_reverse]; exact len 8 (by omega)) (fun i h => at_big s n 8 i (by omega) h)⟩
    · have ho' : (o == 0) = false ∧ (o == 1) = false := ⟨by simp; omega, by simp; omega⟩
      exact ⟨0, 12, num_no s a k o hm (Or.inr (Or.inl ho')), fun w => ref_load_shape s a k o w (Or.inr ho')⟩
  · have hk' : (k == 1) = false ∧ (k == 2) = false ∧ (k == 4) = false ∧ (k == 8) = false := ⟨by simp; omega, by simp; omega, by simp; omega, by simp; omega⟩
    exact ⟨0, 12, num_no s a k o hm (Or.inl hk'), fun w => ref_load_shape s a k o w (Or.inl hk')⟩

-- the walk
theorem walk (a0 : ByteArray) (a1 : Int) (a2 : Int) (a3 : Int) (w0 : a0.size ≤ maxLen) (w1 : (Lit.int .i64 a1).wf = true) (w2 : (Lit.int .i64 a2).wf = true) (w3 : (Lit.int .i64 a3).wf = true) (w : World) :
    Calls Try.prog 6 #[.string a0, .int .i64 a1, .int .i64 a2, .int .i64 a3] w fun e w' => e = .returned (.bool true) ∧ Below w.heap.size w w' := by
  obtain ⟨v, c, hn, hr⟩ := both a0 a1 a2 a3 w0 (bounds_i64 w1) (bounds_i64 w2) (bounds_i64 w3)
  have HN := Hid.mk' hn
  have HR := Hid.mk' hr
  clear hn hr
  go_enter Try.func6, Try.ntmps6
  go_wp2_with (first
    | (go_at_call 14; refine (HN.out _).mono ?_; rintro e w1 ⟨rfl, hb1⟩)
    | (go_at_call 15; refine (HR.out _).mono ?_; rintro e w2 ⟨rfl, hb2⟩))
  go_ret
  exact ⟨by simp, hb1.trans (hb2.mono hb1.size)⟩

-- the row's step (the frame)
set_option maxRecDepth 100000 in
theorem lifted (os : Os) (started : os.Started) (H : Type) (enc : TypeId × Value → H) :
    ReturnsInHanded {} Try.checked os 6 .any (Rows.numLoadSpec.pre6 enc Try.prog Try.f6 Rows.numLoadRow.domain false) (Rows.numLoadSpec.post enc Try.prog Try.f6 false true false false) := by
  refine returnsInHanded_of_change (C := Try.checked) own started (by kernel_rfl) Try.func6
    (ChangeSpec.witness6 (enc := enc) (C := Try.checked) false ⟨#[], #[.string ByteArray.empty, .int .i64 0, .int .i64 0, .int .i64 0], []⟩ 8 (by kernel_rfl) (by kernel_rfl) (by kernel_rfl) (by kernel_rfl)) ?_
  intro W base args ds gs before hval0 hW hcnd _
  have hval : ∀ (j : Nat) t v, Try.f6.params[j]? = some t → args[j]? = some v → Value.okWide Try.prog W .any base t v := hval0
  have hW' := hW
  obtain ⟨p, q, hA0, hV, rfl, hfz, hnd⟩ := hW
  have hA : DataW.TrodAll enc Try.prog W 0 (fun _ => true) true Try.f6.params.toList args.toList ds p := hA0
  rw [Try.params6] at hA hval
  obtain ⟨v0, vs0, d0, ds0, p0, q0, hargs, rfl, rfl, h0, r0⟩ := trodAll_cons hA
  obtain ⟨v1, vs1, d1, ds1, p1, q1, rfl, rfl, rfl, h1, r1⟩ := trodAll_cons r0
  obtain ⟨v2, vs2, d2, ds2, p2, q2, rfl, rfl, rfl, h2, r2⟩ := trodAll_cons r1
  obtain ⟨v3, vs3, d3, ds3, p3, q3, rfl, rfl, rfl, h3, r3⟩ := trodAll_cons r2
  obtain ⟨rfl, rfl, rfl⟩ := trodAll_nil r3
  obtain rfl : args = #[v0, v1, v2, v3] := by cases args; simp_all
  obtain ⟨rfl, rfl⟩ := trodVars_none hV
  obtain ⟨a0, rfl, rfl, rfl, w0⟩ := open_string Try.underlying9 (hval 0 9 v0 rfl rfl) h0
  obtain ⟨a1, rfl, rfl, rfl, w1⟩ := open_int Try.underlying3 (hval 1 3 v1 rfl rfl) h1
  obtain ⟨a2, rfl, rfl, rfl, w2⟩ := open_int Try.underlying3 (hval 2 3 v2 rfl rfl) h2
  obtain ⟨a3, rfl, rfl, rfl, w3⟩ := open_int Try.underlying3 (hval 3 3 v3 rfl rfl) h3
  clear hA0 hval0
  simp only [List.append_nil] at hW'
  refine (walk a0 a1 a2 a3 w0 w1 w2 w3 W).mono fun e W' ⟨he, hg⟩ => ?_
  subst he
  exact ⟨_, rfl, _, _, _, [], _, [], hW', (trodAll_cons_mk (shut_bool Try.underlying4 _) trodAll_mk0), (trodAll_cons_mk (shut_string Try.underlying9 w0) (trodAll_cons_mk (shut_int Try.underlying3 w1) (trodAll_cons_mk (shut_int Try.underlying3 w2) (trodAll_cons_mk (shut_int Try.underlying3 w3) trodAll_mk0)))), rfl, hg.frame _, fun h => by cases h⟩

theorem over : Rows.numLoadRow.holds Try.pinned (OpenSpec.ofChange Rows.numLoadSpec) :=
  OpenClaim.holds_of_wide 6 Try.f6 rfl rfl rfl rfl rfl rfl rfl ⟨rfl, rfl, rfl, rfl, rfl⟩ rfl rfl rfl rfl rfl (by kernel_rfl) Try.func6 (by kernel_rfl)
    (of_decide_eq_true (by kernel_rfl)) (by unfold Func.isWrapper; first | (rw [if_pos (by decide +kernel)]; kernel_rfl) | (rw [if_neg (by decide +kernel)]; exact ⟨rfl, rfl⟩))
    (fun os started H enc _ => lifted os started H enc)

theorem proved : Rows.NumLoadSaid :=
  over
end Go.Proofs.Ytfjmjgnifbgneaa.numLoad
namespace Go.Proofs.Ytfjmjgnifbgneaa
theorem numLoad_holds : Rows.NumLoadSaid := numLoad.proved
#print axioms numLoad_holds
end Go.Proofs.Ytfjmjgnifbgneaa
