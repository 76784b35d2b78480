-- Proof of the given statement about NumGrows. The frame is the guide's proof-skeleton; the walk and the lemmas are ours.
import Derived.Test.YtfjmjgnifbgneabRows
import Derived.WalkKit
import Derived.ProofKit
import Derived.OpenShut
import Derived.ShutString
import Derived.SizedLaws
import Derived.Laws.Bits128
import Derived.Test.YtfjmjgnifbgneabSome
namespace Go.Proofs.Ytfjmjgnifbgneab.numGrows
open Go.ChangeShapes Go.WideShapes Go.ChangeAt Go.RowKit
open Go.ChangeMaps (open_string shut_string)
open Rd
set_option linter.unusedVariables false

theorem own : ownKnob Try.prog.godebug = none := by kernel_rfl

theorem i64_and7 (n : Int) : bits .and .i64 n 7 = n % 8 := by
  have h1 : (BitVec.ofInt 64 7).toNat = 2 ^ 3 - 1 := by decide
  have key : (BitVec.ofInt 64 n &&& BitVec.ofInt 64 7).toNat = (n % ((2 ^ 64 : Nat) : Int)).toNat % 2 ^ 3 := by
    rw [BitVec.toNat_and, BitVec.toNat_ofInt, h1, Nat.and_two_pow_sub_one_eq_mod]
  show IntKind.i64.wrap ((BitVec.ofInt 64 n &&& BitVec.ofInt 64 7).toNat : Nat) = n % 8
  rw [key, IntKind.wrap_i64]
  omega
theorem blanks_any (n : Int) (k : Nat) (w : World) (h : n % 8 = k) :
    Calls Try.prog 8 #[.int .i64 n] w fun e w' => e = .returned (.string (Rd.strOf (List.replicate k 32))) ∧ w' = w := by
  have h1 := i64_and7 n
  rw [h] at h1
  have hk : k ≤ 7 := by omega
  have hc : k = 0 ∨ k = 1 ∨ k = 2 ∨ k = 3 ∨ k = 4 ∨ k = 5 ∨ k = 6 ∨ k = 7 := by omega
  clear h
  rcases hc with rfl | rfl | rfl | rfl | rfl | rfl | rfl | rfl
  all_goals
    go_enter Try.func8, Try.ntmps8
    go_wp2
    go_ret
    exact ⟨rfl, rfl⟩
theorem cnt_field (B : Nat) (A : List UInt8) (k : Nat) (hA : ∀ x ∈ A, dig B x = true) : cnt B (A ++ List.replicate k 32) = A.length := by
  induction A with
  | nil =>
    cases k with
    | zero => rfl
    | succ k => simp [List.replicate_succ, cnt, dig]
  | cons x t ih =>
    have hx := hA x (by simp)
    rw [List.cons_append, cnt, if_pos hx, ih (fun y hy => hA y (by simp [hy])), List.length_cons]
theorem rd_field (B : Nat) (A : List UInt8) (k : Nat) (hA : ∀ x ∈ A, dig B x = true) (hv : val B 0 A ≤ 9223372036854775807) : rd B (A ++ List.replicate k 32) = (val B 0 A, 0) := by
  have hb : blank (List.replicate k 32) = true := by
    unfold blank; rw [List.all_replicate]; simp
  unfold rd
  rw [cnt_field B A k hA, List.drop_left, hb, if_pos rfl, List.take_left, if_pos hv]
theorem some_dig (B : Nat) (s : ByteArray) (n : Nat) (x : UInt8) (h : x ∈ someOf B n s) : dig B x = true := by
  unfold someOf digsOf at h
  exact (List.mem_filter.1 (List.mem_of_mem_take h)).2
theorem some_len (B : Nat) (s : ByteArray) (n : Nat) : (someOf B n s).length ≤ n := List.length_take_le _ _
theorem dig_one (B : Nat) (hB : B = 8 ∨ B = 10) (c : Int) (h0 : 0 ≤ c) (h1 : c ≤ 7) : dig B (UInt8.ofNat (48 + c).toNat) = true ∧ dv (UInt8.ofNat (48 + c).toNat) = c.toNat := by
  have e : (UInt8.ofNat (48 + c).toNat).toNat = 48 + c.toNat := by simp; omega
  refine ⟨(dig_iff _ _).2 (by omega), by unfold dv; omega⟩
theorem val_000 (B : Nat) (A : List UInt8) : val B 0 ([48, 48, 48] ++ A) = val B 0 A := by
  have h : ∀ B, val B 0 [48, 48, 48] = 0 := by
    intro B
    rw [val_cons, val_cons, val_cons, val_nil]
    simp [dv]
  rw [val_append, h]
theorem maxbound (B m : Nat) (D : List UInt8) (hd : ∀ x ∈ D, dig B x = true) (hB : 1 ≤ B) (hl : D.length ≤ m) : val B 0 D < B ^ m :=
  Nat.lt_of_lt_of_le (val_lt B D hd) (Nat.pow_le_pow_right hB hl)
theorem pow_10_18 : (10 : Nat) ^ 18 = 1000000000000000000 := by decide
theorem pow_8_21 : (8 : Nat) ^ 21 = 9223372036854775808 := by decide
theorem three (B k : Nat) (D : List UInt8) (u : UInt8) (c x : Nat) (hB : B = 8 ∨ B = 10) (hD : ∀ y ∈ D, dig B y = true) (hu : dig B u = true) (hc : dv u = c) (hx : val B 0 D = x) (hm : val B 0 (D ++ [u]) ≤ 9223372036854775807) :
    rd B D = (x, 0) ∧ rd B (D ++ [u]) = (B * x + c, 0) ∧ rd B ([48, 48, 48] ++ D ++ [u] ++ List.replicate k 32) = (B * x + c, 0) ∧ B * x + c ≤ 9223372036854775807 := by
  have e1 : val B 0 (D ++ [u]) = B * x + c := by rw [val_snoc, hx, hc, Nat.mul_comm]
  have hxm : x ≤ B * x + c := by
    rcases hB with rfl | rfl <;> omega
  have hD1 : ∀ y ∈ D ++ [u], dig B y = true := by
    intro y hy
    rcases List.mem_append.1 hy with h | h
    · exact hD y h
    · simp at h; rw [h]; exact hu
  have hD2 : ∀ y ∈ [48, 48, 48] ++ (D ++ [u]), dig B y = true := by
    intro y hy
    rcases List.mem_append.1 hy with h | h
    · have : y = 48 := by simpa using h
      rw [this]
      rcases hB with rfl | rfl <;> rfl
    · exact hD1 y h
  have r1 := rd_field B D 0 hD (by omega)
  have r2 := rd_field B (D ++ [u]) 0 hD1 hm
  have r3 := rd_field B ([48, 48, 48] ++ (D ++ [u])) k hD2 (by rw [val_000]; exact hm)
  rw [List.replicate_zero, List.append_nil] at r1 r2
  rw [val_000] at r3
  refine ⟨by rw [r1, hx], by rw [r2, e1], ?_, by omega⟩
  rw [← e1, ← r3]; simp only [List.append_assoc]
set_option maxHeartbeats 2000000 in
theorem grows (t : ByteArray) (b n : Int) (k : Nat) (w : World) (hn : n % 8 = k) (lt : t.size < 140737488355328) (D O : List UInt8) (hD : someOf 10 17 t = D) (hO : someOf 8 20 t = O) (dl : D.length ≤ 17) (ol : O.length ≤ 20)
    (c : Int) (hc : bits .and .i64 b 7 = c) (c0 : 0 ≤ c) (c7 : c ≤ 7) (x y x8 y8 : Nat) (hy : (y : Int) = 10 * x + c) (hy8 : (y8 : Int) = 8 * x8 + c) (ym : y ≤ 9223372036854775807) (y8m : y8 ≤ 9223372036854775807)
    (d1 : rd 10 D = (x, 0)) (d2 : rd 10 (D ++ [UInt8.ofNat (48 + c).toNat]) = (y, 0)) (d3 : rd 10 ([48, 48, 48] ++ D ++ [UInt8.ofNat (48 + c).toNat] ++ List.replicate k 32) = (y, 0))
    (o1 : rd 8 O = (x8, 0)) (o2 : rd 8 (O ++ [UInt8.ofNat (48 + c).toNat]) = (y8, 0)) (o3 : rd 8 ([48, 48, 48] ++ O ++ [UInt8.ofNat (48 + c).toNat] ++ List.replicate k 32) = (y8, 0))
    (hz : D = [] → x = 0) (hz8 : O = [] → x8 = 0) :
    Calls Try.prog 3 #[.string t, .int .i64 b, .int .i64 n] w fun e w' => e = .returned (.bool true) ∧ Below w.heap.size w w' := by
  have hk : k ≤ 7 := by omega
  have u1 : [UInt8.ofNat (48 + c).toNat].length = 1 := rfl
  have HS : Hid (∀ w, Calls Try.prog 6 #[.string t, .int .i64 10, .int .i64 17] w fun e w' => e = .returned (.string (Rd.strOf D)) ∧ w' = w) := by
    intro w; have h := some_10 t 17 w (by omega) (by omega); rw [hD] at h; exact h
  have HS8 : Hid (∀ w, Calls Try.prog 6 #[.string t, .int .i64 8, .int .i64 20] w fun e w' => e = .returned (.string (Rd.strOf O)) ∧ w' = w) := by
    intro w; have h := some_8 t 20 w (by omega) (by omega); rw [hO] at h; exact h
  have HBl : Hid (∀ w, Calls Try.prog 8 #[.int .i64 n] w fun e w' => e = .returned (.string (Rd.strOf (List.replicate k 32))) ∧ w' = w) := fun w => blanks_any n k w hn
  have e2 (X : List UInt8) : Rd.strOf X ++ Rd.strOf [UInt8.ofNat (48 + c).toNat] = Rd.strOf (X ++ [UInt8.ofNat (48 + c).toNat]) := strOf_append _ _
  have e3 (X : List UInt8) : ({ data := #[48, 48, 48] } : ByteArray) ++ Rd.strOf X ++ Rd.strOf [UInt8.ofNat (48 + c).toNat] ++ Rd.strOf (List.replicate k 32) = Rd.strOf ([48, 48, 48] ++ X ++ [UInt8.ofNat (48 + c).toNat] ++ List.replicate k 32) := by
    rw [show ({ data := #[48, 48, 48] } : ByteArray) = Rd.strOf [48, 48, 48] from rfl, strOf_append, strOf_append, strOf_append]
  have HD1 : Hid (∀ w, Calls Try.prog 7 #[.string (Rd.strOf D)] w fun e w' => e = .returned (.tuple #[.int .i64 x, .int .i64 0]) ∧ w' = w) := by
    intro w; have h := dec_any (Rd.strOf D) w (by rw [strOf_size]; unfold maxLen; omega); rw [strOf_data, d1] at h; exact h
  have HD2 : Hid (∀ w, Calls Try.prog 7 #[.string (Rd.strOf D ++ Rd.strOf [UInt8.ofNat (48 + c).toNat])] w fun e w' => e = .returned (.tuple #[.int .i64 y, .int .i64 0]) ∧ w' = w) := by
    intro w; rw [e2]; have h := dec_any (Rd.strOf (D ++ [UInt8.ofNat (48 + c).toNat])) w (by rw [strOf_size, List.length_append]; unfold maxLen; omega); rw [strOf_data, d2] at h; exact h
  have HD3 : Hid (∀ w, Calls Try.prog 7 #[.string (({ data := #[48, 48, 48] } : ByteArray) ++ Rd.strOf D ++ Rd.strOf [UInt8.ofNat (48 + c).toNat] ++ Rd.strOf (List.replicate k 32))] w fun e w' => e = .returned (.tuple #[.int .i64 y, .int .i64 0]) ∧ w' = w) := by
    intro w; rw [e3]; have h := dec_any (Rd.strOf ([48, 48, 48] ++ D ++ [UInt8.ofNat (48 + c).toNat] ++ List.replicate k 32)) w (by rw [strOf_size]; simp only [List.length_append, List.length_replicate, List.length_cons, List.length_nil]; unfold maxLen; omega); rw [strOf_data, d3] at h; exact h
  have HO1 : Hid (∀ w, Calls Try.prog 9 #[.string (Rd.strOf O)] w fun e w' => e = .returned (.tuple #[.int .i64 x8, .int .i64 0]) ∧ w' = w) := by
    intro w; have h := oct_any (Rd.strOf O) w (by rw [strOf_size]; unfold maxLen; omega); rw [strOf_data, o1] at h; exact h
  have HO2 : Hid (∀ w, Calls Try.prog 9 #[.string (Rd.strOf O ++ Rd.strOf [UInt8.ofNat (48 + c).toNat])] w fun e w' => e = .returned (.tuple #[.int .i64 y8, .int .i64 0]) ∧ w' = w) := by
    intro w; rw [e2]; have h := oct_any (Rd.strOf (O ++ [UInt8.ofNat (48 + c).toNat])) w (by rw [strOf_size, List.length_append]; unfold maxLen; omega); rw [strOf_data, o2] at h; exact h
  have HO3 : Hid (∀ w, Calls Try.prog 9 #[.string (({ data := #[48, 48, 48] } : ByteArray) ++ Rd.strOf O ++ Rd.strOf [UInt8.ofNat (48 + c).toNat] ++ Rd.strOf (List.replicate k 32))] w fun e w' => e = .returned (.tuple #[.int .i64 y8, .int .i64 0]) ∧ w' = w) := by
    intro w; rw [e3]; have h := oct_any (Rd.strOf ([48, 48, 48] ++ O ++ [UInt8.ofNat (48 + c).toNat] ++ List.replicate k 32)) w (by rw [strOf_size]; simp only [List.length_append, List.length_replicate, List.length_cons, List.length_nil]; unfold maxLen; omega); rw [strOf_data, o3] at h; exact h
  have s1 := strOf_size D
  have s2 : (Rd.strOf [UInt8.ofNat (48 + c).toNat]).size = 1 := by rw [strOf_size]; rfl
  have s3 : (Rd.strOf (List.replicate k 32)).size = k := by rw [strOf_size, List.length_replicate]
  have s4 := strOf_size O
  have hcv := conv1 w (48 + c) (by omega) (by omega)
  have HZ : ((Rd.strOf D).toList.isEmpty = false ∧ ¬ (Rd.strOf D).toList = []) ∨ ((Rd.strOf D).toList.isEmpty = true ∧ ((x : Int) != 0) = false ∧ (Rd.strOf D).toList = []) := by
    rw [Lib.toList_data, strOf_data]
    cases D with
    | nil => exact Or.inr ⟨rfl, by rw [hz rfl]; rfl, rfl⟩
    | cons _ _ => exact Or.inl ⟨rfl, by simp⟩
  have HZ8 : ((Rd.strOf O).toList.isEmpty = false ∧ ¬ (Rd.strOf O).toList = []) ∨ ((Rd.strOf O).toList.isEmpty = true ∧ ((x8 : Int) == 0) = true ∧ (Rd.strOf O).toList = []) := by
    rw [Lib.toList_data, strOf_data]
    cases O with
    | nil => exact Or.inr ⟨rfl, by rw [hz8 rfl]; rfl, rfl⟩
    | cons _ _ => exact Or.inl ⟨rfl, by simp⟩
  have t1 : ((y : Int) != 10 * (x : Int) + c) = false := by simp; omega
  have t2 : ((y8 : Int) == 8 * (x8 : Int) + c) = true := by simp; omega
  have x1 : 10 * x + c ≤ 9223372036854775807 := by omega
  have x2 : 8 * x8 + c ≤ 9223372036854775807 := by omega
  clear hD hO d1 d2 d3 o1 o2 o3 hz hz8 e2 e3 hn u1 hy hy8
  rcases HZ with ⟨z1, z2⟩ | ⟨z1, z2, z3⟩ <;> rcases HZ8 with ⟨z4, z5⟩ | ⟨z4, z5, z6⟩
  all_goals
    go_enter Try.func3, Try.ntmps3
    go_wp2_with fail
    refine (HS.out _).mono ?_
    rintro e w1 ⟨rfl, hw1⟩; subst w1
    go_wp2_with fail
    refine (HD1.out _).mono ?_
    rintro e w1 ⟨rfl, hw1⟩; subst w1
    go_wp2_with fail
    refine (HD2.out _).mono ?_
    rintro e w1 ⟨rfl, hw1⟩; subst w1
    go_wp2_with fail
    refine (HBl.out _).mono ?_
    rintro e w1 ⟨rfl, hw1⟩; subst w1
    go_wp2_with fail
    refine (HD3.out _).mono ?_
    rintro e w1 ⟨rfl, hw1⟩; subst w1
    go_wp2_with fail
    refine (HS8.out _).mono ?_
    rintro e w1 ⟨rfl, hw1⟩; subst w1
    go_wp2_with fail
    refine (HO1.out _).mono ?_
    rintro e w1 ⟨rfl, hw1⟩; subst w1
    go_wp2_with fail
    refine (HO2.out _).mono ?_
    rintro e w1 ⟨rfl, hw1⟩; subst w1
    go_wp2_with fail
    refine (HBl.out _).mono ?_
    rintro e w1 ⟨rfl, hw1⟩; subst w1
    go_wp2_with fail
    refine (HO3.out _).mono ?_
    rintro e w1 ⟨rfl, hw1⟩; subst w1
    go_wp2_with fail
    go_ret
    exact ⟨rfl, (Below.refl _ _).alloc (Nat.le_refl _) _⟩
-- the walk
theorem walk (a0 : ByteArray) (a1 : Int) (a2 : Int) (w0 : a0.size ≤ maxLen) (w1 : (Lit.int .i64 a1).wf = true) (w2 : (Lit.int .i64 a2).wf = true) (l0 : a0.size < 140737488355328) (w : World) :
    Calls Try.prog 3 #[.string a0, .int .i64 a1, .int .i64 a2] w fun e w' => e = .returned (.bool true) ∧ Below w.heap.size w w' := by
  obtain ⟨k, hk⟩ : ∃ k : Nat, a2 % 8 = k := ⟨(a2 % 8).toNat, by omega⟩
  have c0 : 0 ≤ a1 % 8 := by omega
  have c7 : a1 % 8 ≤ 7 := by omega
  have hD := some_dig 10 a0 17
  have hO := some_dig 8 a0 20
  have lD := some_len 10 a0 17
  have lO := some_len 8 a0 20
  have u10 := dig_one 10 (Or.inr rfl) (a1 % 8) c0 c7
  have u8 := dig_one 8 (Or.inl rfl) (a1 % 8) c0 c7
  have m10 : val 10 0 (someOf 10 17 a0 ++ [UInt8.ofNat (48 + a1 % 8).toNat]) ≤ 9223372036854775807 := by
    have h := maxbound 10 18 (someOf 10 17 a0 ++ [UInt8.ofNat (48 + a1 % 8).toNat]) (by
      intro y hy
      rcases List.mem_append.1 hy with h | h
      · exact hD y h
      · simp at h; rw [h]; exact u10.1) (by decide) (by rw [List.length_append]; simp only [List.length_cons, List.length_nil]; omega)
    rw [pow_10_18] at h; omega
  have m8 : val 8 0 (someOf 8 20 a0 ++ [UInt8.ofNat (48 + a1 % 8).toNat]) ≤ 9223372036854775807 := by
    have h := maxbound 8 21 (someOf 8 20 a0 ++ [UInt8.ofNat (48 + a1 % 8).toNat]) (by
      intro y hy
      rcases List.mem_append.1 hy with h | h
      · exact hO y h
      · simp at h; rw [h]; exact u8.1) (by decide) (by rw [List.length_append]; simp only [List.length_cons, List.length_nil]; omega)
    rw [pow_8_21] at h; omega
  obtain ⟨d1, d2, d3, d4⟩ := three 10 k _ _ _ _ (Or.inr rfl) hD u10.1 u10.2 rfl m10
  obtain ⟨o1, o2, o3, o4⟩ := three 8 k _ _ _ _ (Or.inl rfl) hO u8.1 u8.2 rfl m8
  exact grows a0 a1 a2 k w hk l0 _ _ rfl rfl lD lO (a1 % 8) (i64_and7 a1) c0 c7 _ _ _ _ (by rw [Int.natCast_add, Int.natCast_mul]; omega) (by rw [Int.natCast_add, Int.natCast_mul]; omega) d4 o4 d1 d2 d3 o1 o2 o3
    (fun h => by rw [h, val_nil]) (fun h => by rw [h, val_nil])

-- the row's step (the frame)
set_option maxRecDepth 100000 in
theorem lifted (os : Os) (started : os.Started) (H : Type) (enc : TypeId × Value → H) :
    ReturnsInHanded {} Try.checked os 3 .any (Rows.numGrowsSpec.pre6 enc Try.prog Try.f3 Rows.numGrowsRow.domain false) (Rows.numGrowsSpec.post enc Try.prog Try.f3 false true false false) := by
  refine returnsInHanded_of_change_sized (C := Try.checked) own started (by kernel_rfl) Try.func3
    (ChangeSpec.witness6 (enc := enc) (C := Try.checked) false ⟨#[], #[.string ByteArray.empty, .int .i64 0, .int .i64 0], []⟩ 8 (by kernel_rfl) (by kernel_rfl) (by kernel_rfl) (by kernel_rfl)) ?_
  intro W base args ds gs before hval0 hW hcnd hsz0 _
  have hval : ∀ (j : Nat) t v, Try.f3.params[j]? = some t → args[j]? = some v → Value.okWide Try.prog W .any base t v := hval0
  have hsz : (DataW.weightsEach Try.prog (Try.f3.params.toList ++ Rows.numGrowsSpec.plain.varTypes Try.prog) (ds ++ gs)).all (· ≤ reachBytes) = true := hsz0
  have hW' := hW
  obtain ⟨p, q, hA0, hV, rfl, hfz, hnd⟩ := hW
  have hA : DataW.TrodAll enc Try.prog W 0 (fun _ => true) true Try.f3.params.toList args.toList ds p := hA0
  rw [Try.params3] at hA hval hsz
  obtain ⟨v0, vs0, d0, ds0, p0, q0, hargs, rfl, rfl, h0, r0⟩ := trodAll_cons hA
  obtain ⟨v1, vs1, d1, ds1, p1, q1, rfl, rfl, rfl, h1, r1⟩ := trodAll_cons r0
  obtain ⟨v2, vs2, d2, ds2, p2, q2, rfl, rfl, rfl, h2, r2⟩ := trodAll_cons r1
  obtain ⟨rfl, rfl, rfl⟩ := trodAll_nil r2
  obtain rfl : args = #[v0, v1, v2] := by cases args; simp_all
  obtain ⟨rfl, rfl⟩ := trodVars_none hV
  obtain ⟨a0, rfl, rfl, rfl, w0⟩ := open_string Try.underlying9 (hval 0 9 v0 rfl rfl) h0
  obtain ⟨a1, rfl, rfl, rfl, w1⟩ := open_int Try.underlying3 (hval 1 3 v1 rfl rfl) h1
  obtain ⟨a2, rfl, rfl, rfl, w2⟩ := open_int Try.underlying3 (hval 2 3 v2 rfl rfl) h2
  have l0 : a0.size < 140737488355328 := by
    have h1 := sized_string hsz (j := 0) (t := 9) rfl rfl
    have h2 := reachBytes_lt
    have e3 : (2 : Nat) ^ 47 = 140737488355328 := by decide
    have e2 : a0.data.toList.length = a0.size := by simp
    omega
  clear hA0 hval0
  simp only [List.append_nil] at hW'
  refine (walk a0 a1 a2 w0 w1 w2 l0 W).mono fun e W' ⟨he, hg⟩ => ?_
  subst he
  exact ⟨_, rfl, _, _, _, [], _, [], hW', (trodAll_cons_mk (shut_bool Try.underlying4 _) trodAll_mk0), (trodAll_cons_mk (shut_string Try.underlying9 w0) (trodAll_cons_mk (shut_int Try.underlying3 w1) (trodAll_cons_mk (shut_int Try.underlying3 w2) trodAll_mk0))), rfl, hg.frame _, fun h => by cases h⟩

theorem over : Rows.numGrowsRow.holds Try.pinned (OpenSpec.ofChange Rows.numGrowsSpec) :=
  OpenClaim.holds_of_wide 3 Try.f3 rfl rfl rfl rfl rfl rfl rfl ⟨rfl, rfl, rfl, rfl, rfl⟩ rfl rfl rfl rfl rfl (by kernel_rfl) Try.func3 (by kernel_rfl)
    (of_decide_eq_true (by kernel_rfl)) (by unfold Func.isWrapper; first | (rw [if_pos (by decide +kernel)]; kernel_rfl) | (rw [if_neg (by decide +kernel)]; exact ⟨rfl, rfl⟩))
    (fun os started H enc _ => lifted os started H enc)

theorem proved : Rows.NumGrowsSaid :=
  over
end Go.Proofs.Ytfjmjgnifbgneab.numGrows
namespace Go.Proofs.Ytfjmjgnifbgneab
theorem numGrows_holds : Rows.NumGrowsSaid := numGrows.proved
#print axioms numGrows_holds
end Go.Proofs.Ytfjmjgnifbgneab
