-- Proof of the given statement about NumLoadParts. The frame is the guide's proof-skeleton; the walk and the lemmas are ours.
import Derived.Test.YtfjmjgnifbgneaaRows
import Derived.WalkKit
import Derived.ProofKit
import Derived.OpenShut
import Derived.ShutString
import Derived.Test.YtfjmjgnifbgneaaLdv
import Derived.Test.YtfjmjgnifbgneaaLawLoad
namespace Go.Proofs.Ytfjmjgnifbgneaa.numLoadParts
open Go.ChangeShapes Go.WideShapes Go.ChangeAt Go.RowKit
open Go.ChangeMaps (open_string shut_string)
set_option linter.unusedVariables false

theorem own : ownKnob Try.prog.godebug = none := by kernel_rfl

theorem beNat_append (x y : List UInt8) : beNat (x ++ y) = beNat x * 256 ^ y.length + beNat y := by
  unfold beNat
  rw [List.reverse_append, leNat_append, List.length_reverse, Nat.mul_comm]
  omega
theorem len_take (s : ByteArray) (m K : Nat) (h : m + K ≤ s.size) : ((s.data.toList.drop m).take K).length = K := by
  have hl : s.data.toList.length = s.size := by simp
  rw [List.length_take, List.length_drop]; omega
theorem ldv_big (s : ByteArray) (m h : Nat) (hs : m + (h + h) ≤ s.size) : ldv s m (h + h : Nat) 1 = ldv s m h 1 * 256 ^ h + ldv s ((m : Int) + h) h 1 := by
  have e : ((m : Int) + h).toNat = m + h := by omega
  simp only [ldv, if_true, Int.toNat_natCast, e]
  rw [List.take_add, beNat_append, List.drop_drop, len_take s (m + h) h (by omega)]
theorem ldv_little (s : ByteArray) (m h : Nat) (hs : m + (h + h) ≤ s.size) : ldv s m (h + h : Nat) 0 = ldv s ((m : Int) + h) h 0 * 256 ^ h + ldv s m h 0 := by
  have e : ((m : Int) + h).toNat = m + h := by omega
  simp only [ldv, Int.toNat_natCast, e]
  rw [if_neg (by decide), if_neg (by decide), if_neg (by decide)]
  rw [List.take_add, leNat_append, List.drop_drop, len_take s m h (by omega), Nat.mul_comm]
  omega
theorem ldv_lt (s : ByteArray) (a o : Int) (k : Nat) : ldv s a k o < 256 ^ k := by
  unfold ldv
  split
  · unfold beNat
    refine Nat.lt_of_lt_of_le (leNat_lt _) (Nat.pow_le_pow_right (by omega) ?_)
    rw [List.length_reverse, Int.toNat_natCast]; exact List.length_take_le _ _
  · exact Nat.lt_of_lt_of_le (leNat_lt _) (Nat.pow_le_pow_right (by omega) (by rw [Int.toNat_natCast]; exact List.length_take_le _ _))
theorem ldv_one (s : ByteArray) (m : Nat) (o : Int) (h : m < s.size) : ldv s m 1 o = s[m].toNat := by
  have hl : s.data.toList.length = s.size := by simp
  have e : (s.data.toList.drop m).take 1 = [s[m]] := by
    rw [List.drop_eq_getElem_cons (by omega)]; rfl
  unfold ldv
  show (if o = 1 then beNat ((s.data.toList.drop m).take 1) else leNat ((s.data.toList.drop m).take 1)) = _
  rw [e]
  simp [beNat, leNat]
theorem join (x p q B : Nat) (hB : B ≤ 4294967296) (e : x = p * B + q) (hx : x < 18446744073709551616) : (((x : Nat) : Int) == IntKind.u64.wrap (IntKind.u64.wrap ((p : Int) * (B : Int)) + (q : Int))) = true := by
  have e' : (x : Int) = (p : Int) * (B : Int) + q := by rw [e]; simp
  simp only [IntKind.wrap_u64, beq_iff_eq]
  omega
theorem big_2 (s : ByteArray) (m : Nat) (hs : m + 2 ≤ s.size) : ldv s m 2 1 = ldv s m 1 1 * 256 + ldv s ((m : Int) + 1) 1 1 := by
  have h := ldv_big s m 1 (by omega)
  rw [show (256 : Nat) ^ 1 = 256 from by decide] at h
  exact h
theorem little_2 (s : ByteArray) (m : Nat) (hs : m + 2 ≤ s.size) : ldv s m 2 0 = ldv s ((m : Int) + 1) 1 0 * 256 + ldv s m 1 0 := by
  have h := ldv_little s m 1 (by omega)
  rw [show (256 : Nat) ^ 1 = 256 from by decide] at h
  exact h
theorem lt_2 (s : ByteArray) (m : Nat) (o : Int) : ldv s m 2 o < 18446744073709551616 := by
  have h := ldv_lt s m o 2
  rw [show (256 : Nat) ^ 2 = 65536 from by decide] at h
  have h2 : ldv s m 2 o < 65536 := h
  omega
set_option maxRecDepth 100000 in
set_option maxHeartbeats 400000 in
theorem parts_2 (s : ByteArray) (m : Nat) (n : Int) (w : World) (hn : n % 4 = 1) (h1 : m + 2 ≤ s.size) (hm : s.size ≤ maxLen) :
    Calls Try.prog 5 #[.string s, .int .i64 m, .int .i64 n] w fun e w' => e = .returned (.bool true) ∧ Below w.heap.size w w' := by
  have HM : Hid (s.size ≤ maxLen) := hm
  unfold maxLen at hm
  have HS : Hid (∀ w, Calls Try.prog 13 #[.int .i64 n] w fun e w' => e = .returned (.int .i64 2) ∧ w' = w) := fun w => size_any n 2 w (by omega)
  have b1 : decide ((m : Int) < 0) = false := by simp
  have b2 : decide ((s.size : Int) < 2) = false := by simp; omega
  have b3 : decide ((s.size : Int) - 2 < m) = false := by simp; omega
  have hB : ((ldv s m 2 1 : Int) == IntKind.u64.wrap (IntKind.u64.wrap ((ldv s m 1 1 : Int) * 256) + (ldv s (m + 1) 1 1 : Int))) = true :=
    join _ _ _ 256 (by omega) (big_2 s m h1) (lt_2 s m 1)
  have hL : ((ldv s m 2 0 : Int) == IntKind.u64.wrap (IntKind.u64.wrap ((ldv s (m + 1) 1 0 : Int) * 256) + (ldv s m 1 0 : Int))) = true :=
    join _ _ _ 256 (by omega) (little_2 s m h1) (lt_2 s m 0)
  clear hn
  go_enter Try.func5, Try.ntmps5
  go_wp2_with (first
    | (go_at_call 13; refine (HS.out _).mono ?_; rintro e w1 ⟨rfl, hw1⟩; subst w1)
    | (go_at_call 14; refine (num_ok _ _ _ _ _ (by decide) (by decide) (by omega) (by omega) HM.out).mono ?_; rintro e w2 ⟨rfl, hb2⟩))
  go_ret
  refine ⟨rfl, ?_⟩
  repeat (first | assumption | (apply bel; rotate_left; assumption))
theorem big_4 (s : ByteArray) (m : Nat) (hs : m + 4 ≤ s.size) : ldv s m 4 1 = ldv s m 2 1 * 65536 + ldv s ((m : Int) + 2) 2 1 := by
  have h := ldv_big s m 2 (by omega)
  rw [show (256 : Nat) ^ 2 = 65536 from by decide] at h
  exact h
theorem little_4 (s : ByteArray) (m : Nat) (hs : m + 4 ≤ s.size) : ldv s m 4 0 = ldv s ((m : Int) + 2) 2 0 * 65536 + ldv s m 2 0 := by
  have h := ldv_little s m 2 (by omega)
  rw [show (256 : Nat) ^ 2 = 65536 from by decide] at h
  exact h
theorem lt_4 (s : ByteArray) (m : Nat) (o : Int) : ldv s m 4 o < 18446744073709551616 := by
  have h := ldv_lt s m o 4
  rw [show (256 : Nat) ^ 4 = 4294967296 from by decide] at h
  have h2 : ldv s m 4 o < 4294967296 := h
  omega
set_option maxRecDepth 100000 in
set_option maxHeartbeats 400000 in
theorem parts_4 (s : ByteArray) (m : Nat) (n : Int) (w : World) (hn : n % 4 = 2) (h1 : m + 4 ≤ s.size) (hm : s.size ≤ maxLen) :
    Calls Try.prog 5 #[.string s, .int .i64 m, .int .i64 n] w fun e w' => e = .returned (.bool true) ∧ Below w.heap.size w w' := by
  have HM : Hid (s.size ≤ maxLen) := hm
  unfold maxLen at hm
  have HS : Hid (∀ w, Calls Try.prog 13 #[.int .i64 n] w fun e w' => e = .returned (.int .i64 4) ∧ w' = w) := fun w => size_any n 4 w (by omega)
  have b1 : decide ((m : Int) < 0) = false := by simp
  have b2 : decide ((s.size : Int) < 4) = false := by simp; omega
  have b3 : decide ((s.size : Int) - 4 < m) = false := by simp; omega
  have hB : ((ldv s m 4 1 : Int) == IntKind.u64.wrap (IntKind.u64.wrap ((ldv s m 2 1 : Int) * 65536) + (ldv s (m + 2) 2 1 : Int))) = true :=
    join _ _ _ 65536 (by omega) (big_4 s m h1) (lt_4 s m 1)
  have hL : ((ldv s m 4 0 : Int) == IntKind.u64.wrap (IntKind.u64.wrap ((ldv s (m + 2) 2 0 : Int) * 65536) + (ldv s m 2 0 : Int))) = true :=
    join _ _ _ 65536 (by omega) (little_4 s m h1) (lt_4 s m 0)
  clear hn
  go_enter Try.func5, Try.ntmps5
  go_wp2_with (first
    | (go_at_call 13; refine (HS.out _).mono ?_; rintro e w1 ⟨rfl, hw1⟩; subst w1)
    | (go_at_call 14; refine (num_ok _ _ _ _ _ (by decide) (by decide) (by omega) (by omega) HM.out).mono ?_; rintro e w2 ⟨rfl, hb2⟩))
  go_ret
  refine ⟨rfl, ?_⟩
  repeat (first | assumption | (apply bel; rotate_left; assumption))
theorem big_8 (s : ByteArray) (m : Nat) (hs : m + 8 ≤ s.size) : ldv s m 8 1 = ldv s m 4 1 * 4294967296 + ldv s ((m : Int) + 4) 4 1 := by
  have h := ldv_big s m 4 (by omega)
  rw [show (256 : Nat) ^ 4 = 4294967296 from by decide] at h
  exact h
theorem little_8 (s : ByteArray) (m : Nat) (hs : m + 8 ≤ s.size) : ldv s m 8 0 = ldv s ((m : Int) + 4) 4 0 * 4294967296 + ldv s m 4 0 := by
  have h := ldv_little s m 4 (by omega)
  rw [show (256 : Nat) ^ 4 = 4294967296 from by decide] at h
  exact h
theorem lt_8 (s : ByteArray) (m : Nat) (o : Int) : ldv s m 8 o < 18446744073709551616 := by
  have h := ldv_lt s m o 8
  rw [show (256 : Nat) ^ 8 = 18446744073709551616 from by decide] at h
  have h2 : ldv s m 8 o < 18446744073709551616 := h
  omega
set_option maxRecDepth 100000 in
set_option maxHeartbeats 400000 in
theorem parts_8 (s : ByteArray) (m : Nat) (n : Int) (w : World) (hn : n % 4 = 3) (h1 : m + 8 ≤ s.size) (hm : s.size ≤ maxLen) :
    Calls Try.prog 5 #[.string s, .int .i64 m, .int .i64 n] w fun e w' => e = .returned (.bool true) ∧ Below w.heap.size w w' := by
  have HM : Hid (s.size ≤ maxLen) := hm
  unfold maxLen at hm
  have HS : Hid (∀ w, Calls Try.prog 13 #[.int .i64 n] w fun e w' => e = .returned (.int .i64 8) ∧ w' = w) := fun w => size_any n 8 w (by omega)
  have b1 : decide ((m : Int) < 0) = false := by simp
  have b2 : decide ((s.size : Int) < 8) = false := by simp; omega
  have b3 : decide ((s.size : Int) - 8 < m) = false := by simp; omega
  have hB : ((ldv s m 8 1 : Int) == IntKind.u64.wrap (IntKind.u64.wrap ((ldv s m 4 1 : Int) * 4294967296) + (ldv s (m + 4) 4 1 : Int))) = true :=
    join _ _ _ 4294967296 (by omega) (big_8 s m h1) (lt_8 s m 1)
  have hL : ((ldv s m 8 0 : Int) == IntKind.u64.wrap (IntKind.u64.wrap ((ldv s (m + 4) 4 0 : Int) * 4294967296) + (ldv s m 4 0 : Int))) = true :=
    join _ _ _ 4294967296 (by omega) (little_8 s m h1) (lt_8 s m 0)
  clear hn
  go_enter Try.func5, Try.ntmps5
  go_wp2_with (first
    | (go_at_call 13; refine (HS.out _).mono ?_; rintro e w1 ⟨rfl, hw1⟩; subst w1)
    | (go_at_call 14; refine (num_ok _ _ _ _ _ (by decide) (by decide) (by omega) (by omega) HM.out).mono ?_; rintro e w2 ⟨rfl, hb2⟩))
  go_ret
  refine ⟨rfl, ?_⟩
  repeat (first | assumption | (apply bel; rotate_left; assumption))
set_option maxRecDepth 100000 in
set_option maxHeartbeats 400000 in
theorem parts_1 (s : ByteArray) (m : Nat) (n : Int) (w : World) (hn : n % 4 = 0) (h1 : m + 1 ≤ s.size) (hm : s.size ≤ maxLen) :
    Calls Try.prog 5 #[.string s, .int .i64 m, .int .i64 n] w fun e w' => e = .returned (.bool true) ∧ Below w.heap.size w w' := by
  have HM : Hid (s.size ≤ maxLen) := hm
  unfold maxLen at hm
  have HS : Hid (∀ w, Calls Try.prog 13 #[.int .i64 n] w fun e w' => e = .returned (.int .i64 1) ∧ w' = w) := fun w => size_any n 1 w (by omega)
  have b1 : decide ((m : Int) < 0) = false := by simp
  have b2 : decide ((s.size : Int) < 1) = false := by simp; omega
  have b3 : decide ((s.size : Int) - 1 < m) = false := by simp; omega
  have hidx := idx s m (by omega)
  have X : ∀ o, ldv s m 1 o = s[m].toNat := fun o => ldv_one s m o (by omega)
  have hX : ((ldv s m 1 1 : Int) == IntKind.u64.wrap (s[m].toNat : Int)) = true := by
    have := u8_lt s[m]
    rw [X]; simp only [IntKind.wrap_u64, beq_iff_eq]; omega
  have hY : ((ldv s m 1 0 : Int) == (ldv s m 1 1 : Int)) = true := by rw [X, X]; simp
  clear X
  clear hn
  go_enter Try.func5, Try.ntmps5
  go_wp2_with (first
    | (go_at_call 13; refine (HS.out _).mono ?_; rintro e w1 ⟨rfl, hw1⟩; subst w1)
    | (go_at_call 14; refine (num_ok _ _ _ _ _ (by decide) (by decide) (by omega) (by omega) HM.out).mono ?_; rintro e w2 ⟨rfl, hb2⟩))
  go_ret
  refine ⟨rfl, ?_⟩
  repeat (first | assumption | (apply bel; rotate_left; assumption))
set_option maxRecDepth 100000 in
theorem parts_no (s : ByteArray) (a n k : Int) (w : World) (hn : (n % 4 = 0 ∧ k = 1) ∨ (n % 4 = 1 ∧ k = 2) ∨ (n % 4 = 2 ∧ k = 4) ∨ (n % 4 = 3 ∧ k = 8)) (h1 : a < 0 ∨ (s.size : Int) < a + k) (ha : -9223372036854775808 ≤ a ∧ a ≤ 9223372036854775807) (hm : s.size ≤ maxLen) :
    Calls Try.prog 5 #[.string s, .int .i64 a, .int .i64 n] w fun e w' => e = .returned (.bool true) ∧ Below w.heap.size w w' := by
  have HS : Hid (∀ w, Calls Try.prog 13 #[.int .i64 n] w fun e w' => e = .returned (.int .i64 k) ∧ w' = w) := fun w => size_any n k w hn
  have k0 : 1 ≤ k := by omega
  have k8 : k ≤ 8 := by omega
  have HN : Hid (∀ o w, Calls Try.prog 14 #[.string s, .int .i64 a, .int .i64 k, .int .i64 o] w fun e w' => e = .returned (.tuple #[.int .u64 0, .int .i64 12]) ∧ Below w.heap.size w w') :=
    fun o w => numLoad.num_no s a k o hm (Or.inr (Or.inr h1)) w
  clear hn
  unfold maxLen at hm
  by_cases hneg : a < 0
  · have b1 : decide (a < 0) = true := by simp; omega
    go_enter Try.func5, Try.ntmps5
    go_wp2_with (first
      | (go_at_call 13; refine (HS.out _).mono ?_; rintro e w1 ⟨rfl, hw1⟩; subst w1)
      | (go_at_call 14; refine (HN.out _ _).mono ?_; rintro e w2 ⟨rfl, hb2⟩))
    go_ret
    refine ⟨rfl, ?_⟩
    repeat (first | assumption | (apply bel; rotate_left; assumption))
  · have b1 : decide (a < 0) = false := by simp; omega
    have hp : (s.size : Int) < a + k := by omega
    clear h1 hneg
    by_cases hs : (s.size : Int) < k
    · have b2 : decide ((s.size : Int) < k) = true := by simp; omega
      go_enter Try.func5, Try.ntmps5
      go_wp2_with (first
        | (go_at_call 13; refine (HS.out _).mono ?_; rintro e w1 ⟨rfl, hw1⟩; subst w1)
        | (go_at_call 14; refine (HN.out _ _).mono ?_; rintro e w2 ⟨rfl, hb2⟩))
      go_ret
      refine ⟨rfl, ?_⟩
      repeat (first | assumption | (apply bel; rotate_left; assumption))
    · have b2 : decide ((s.size : Int) < k) = false := by simp; omega
      have b3 : decide ((s.size : Int) - k < a) = true := by simp; omega
      go_enter Try.func5, Try.ntmps5
      go_wp2_with (first
        | (go_at_call 13; refine (HS.out _).mono ?_; rintro e w1 ⟨rfl, hw1⟩; subst w1)
        | (go_at_call 14; refine (HN.out _ _).mono ?_; rintro e w2 ⟨rfl, hb2⟩))
      go_ret
      refine ⟨rfl, ?_⟩
      repeat (first | assumption | (apply bel; rotate_left; assumption))
-- the walk
theorem walk (a0 : ByteArray) (a1 : Int) (a2 : Int) (w0 : a0.size ≤ maxLen) (w1 : (Lit.int .i64 a1).wf = true) (w2 : (Lit.int .i64 a2).wf = true) (w : World) :
    Calls Try.prog 5 #[.string a0, .int .i64 a1, .int .i64 a2] w fun e w' => e = .returned (.bool true) ∧ Below w.heap.size w w' := by
  have ba := bounds_i64 w1
  have hn : a2 % 4 = 0 ∨ a2 % 4 = 1 ∨ a2 % 4 = 2 ∨ a2 % 4 = 3 := by omega
  rcases hn with hn | hn | hn | hn
  · by_cases hp : a1 < 0 ∨ (a0.size : Int) < a1 + 1
    · exact parts_no a0 a1 a2 1 w (by omega) hp ba w0
    · obtain ⟨m, rfl⟩ := Int.eq_ofNat_of_zero_le (show 0 ≤ a1 by omega)
      exact parts_1 a0 m a2 w hn (by omega) w0
  · by_cases hp : a1 < 0 ∨ (a0.size : Int) < a1 + 2
    · exact parts_no a0 a1 a2 2 w (by omega) hp ba w0
    · obtain ⟨m, rfl⟩ := Int.eq_ofNat_of_zero_le (show 0 ≤ a1 by omega)
      exact parts_2 a0 m a2 w hn (by omega) w0
  · by_cases hp : a1 < 0 ∨ (a0.size : Int) < a1 + 4
    · exact parts_no a0 a1 a2 4 w (by omega) hp ba w0
    · obtain ⟨m, rfl⟩ := Int.eq_ofNat_of_zero_le (show 0 ≤ a1 by omega)
      exact parts_4 a0 m a2 w hn (by omega) w0
  · by_cases hp : a1 < 0 ∨ (a0.size : Int) < a1 + 8
    · exact parts_no a0 a1 a2 8 w (by omega) hp ba w0
    · obtain ⟨m, rfl⟩ := Int.eq_ofNat_of_zero_le (show 0 ≤ a1 by omega)
      exact parts_8 a0 m a2 w hn (by omega) w0

-- the row's step (the frame)
set_option maxRecDepth 100000 in
theorem lifted (os : Os) (started : os.Started) (H : Type) (enc : TypeId × Value → H) :
    ReturnsInHanded {} Try.checked os 5 .any (Rows.numLoadPartsSpec.pre6 enc Try.prog Try.f5 Rows.numLoadPartsRow.domain false) (Rows.numLoadPartsSpec.post enc Try.prog Try.f5 false true false false) := by
  refine returnsInHanded_of_change (C := Try.checked) own started (by kernel_rfl) Try.func5
    (ChangeSpec.witness6 (enc := enc) (C := Try.checked) false ⟨#[], #[.string ByteArray.empty, .int .i64 0, .int .i64 0], []⟩ 8 (by kernel_rfl) (by kernel_rfl) (by kernel_rfl) (by kernel_rfl)) ?_
  intro W base args ds gs before hval0 hW hcnd _
  have hval : ∀ (j : Nat) t v, Try.f5.params[j]? = some t → args[j]? = some v → Value.okWide Try.prog W .any base t v := hval0
  have hW' := hW
  obtain ⟨p, q, hA0, hV, rfl, hfz, hnd⟩ := hW
  have hA : DataW.TrodAll enc Try.prog W 0 (fun _ => true) true Try.f5.params.toList args.toList ds p := hA0
  rw [Try.params5] at hA hval
  obtain ⟨v0, vs0, d0, ds0, p0, q0, hargs, rfl, rfl, h0, r0⟩ := trodAll_cons hA
  obtain ⟨v1, vs1, d1, ds1, p1, q1, rfl, rfl, rfl, h1, r1⟩ := trodAll_cons r0
  obtain ⟨v2, vs2, d2, ds2, p2, q2, rfl, rfl, rfl, h2, r2⟩ := trodAll_cons r1
  obtain ⟨rfl, rfl, rfl⟩ := trodAll_nil r2
  obtain rfl : args = #[v0, v1, v2] := by cases args; simp_all
  obtain ⟨rfl, rfl⟩ := trodVars_none hV
  obtain ⟨a0, rfl, rfl, rfl, w0⟩ := open_string Try.underlying9 (hval 0 9 v0 rfl rfl) h0
  obtain ⟨a1, rfl, rfl, rfl, w1⟩ := open_int Try.underlying3 (hval 1 3 v1 rfl rfl) h1
  obtain ⟨a2, rfl, rfl, rfl, w2⟩ := open_int Try.underlying3 (hval 2 3 v2 rfl rfl) h2
  clear hA0 hval0
  simp only [List.append_nil] at hW'
  refine (walk a0 a1 a2 w0 w1 w2 W).mono fun e W' ⟨he, hg⟩ => ?_
  subst he
  exact ⟨_, rfl, _, _, _, [], _, [], hW', (trodAll_cons_mk (shut_bool Try.underlying4 _) trodAll_mk0), (trodAll_cons_mk (shut_string Try.underlying9 w0) (trodAll_cons_mk (shut_int Try.underlying3 w1) (trodAll_cons_mk (shut_int Try.underlying3 w2) trodAll_mk0))), rfl, hg.frame _, fun h => by cases h⟩

theorem over : Rows.numLoadPartsRow.holds Try.pinned (OpenSpec.ofChange Rows.numLoadPartsSpec) :=
  OpenClaim.holds_of_wide 5 Try.f5 rfl rfl rfl rfl rfl rfl rfl ⟨rfl, rfl, rfl, rfl, rfl⟩ rfl rfl rfl rfl rfl (by kernel_rfl) Try.func5 (by kernel_rfl)
    (of_decide_eq_true (by kernel_rfl)) (by unfold Func.isWrapper; first | (rw [if_pos (by decide +kernel)]; kernel_rfl) | (rw [if_neg (by decide +kernel)]; exact ⟨rfl, rfl⟩))
    (fun os started H enc _ => lifted os started H enc)

theorem proved : Rows.NumLoadPartsSaid :=
  over
end Go.Proofs.Ytfjmjgnifbgneaa.numLoadParts
namespace Go.Proofs.Ytfjmjgnifbgneaa
theorem numLoadParts_holds : Rows.NumLoadPartsSaid := numLoadParts.proved
#print axioms numLoadParts_holds
end Go.Proofs.Ytfjmjgnifbgneaa
