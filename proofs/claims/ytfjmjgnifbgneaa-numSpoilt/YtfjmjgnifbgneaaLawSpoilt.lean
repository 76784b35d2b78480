-- Proof of the given statement about NumSpoilt. The frame is the guide's proof-skeleton; the walk and the lemmas are ours.
import Derived.Test.YtfjmjgnifbgneaaRows
import Derived.WalkKit
import Derived.ProofKit
import Derived.OpenShut
import Derived.ShutString
import Derived.SizedLaws
import Derived.Test.YtfjmjgnifbgneaaSome
namespace Go.Proofs.Ytfjmjgnifbgneaa.numSpoilt
open Go.ChangeShapes Go.WideShapes Go.ChangeAt Go.RowKit
open Go.ChangeMaps (open_string shut_string)
open Rd
set_option linter.unusedVariables false

theorem own : ownKnob Try.prog.godebug = none := by kernel_rfl

theorem u8wrap (b : Int) : IntKind.u8.wrap b = b % 256 := by simp [IntKind.wrap, IntKind.bits, IntKind.signed]
theorem cnt_app (B : Nat) (A r : List UInt8) (c : UInt8) (hA : ∀ x ∈ A, dig B x = true) (hc : dig B c = false) : cnt B (A ++ c :: r) = A.length := by
  induction A with
  | nil => simp [cnt, hc]
  | cons x t ih =>
    have hx := hA x (by simp)
    rw [List.cons_append, cnt, if_pos hx, ih (fun y hy => hA y (by simp [hy])), List.length_cons]
theorem spoils (B : Nat) (A Z : List UInt8) (c : UInt8) (hA : ∀ x ∈ A, dig B x = true) (hc : dig B c = false) (hb : blank (c :: Z) = false) : rd B (A ++ [c] ++ Z) = (0, 10) := by
  have e : A ++ [c] ++ Z = A ++ c :: Z := by simp
  unfold rd
  rw [e, cnt_app B A Z c hA hc, List.drop_left, hb]
  rfl
theorem some_dig (s : ByteArray) (n : Nat) (x : UInt8) (h : x ∈ someOf 8 n s) : dig 8 x = true := by
  unfold someOf digsOf at h
  exact (List.mem_filter.1 (List.mem_of_mem_take h)).2
theorem dig_10 (x : UInt8) (h : dig 8 x = true) : dig 10 x = true := by
  have := (dig_iff _ _).1 h
  exact (dig_iff _ _).2 (by omega)
theorem some_len (s : ByteArray) (n : Nat) : (someOf 8 n s).length ≤ s.size := by
  have hl : s.data.toList.length = s.size := by simp
  have := digsOf_le 8 s.data.toList
  unfold someOf
  rw [List.length_take]; omega

set_option maxHeartbeats 400000 in
theorem at_low (h t : ByteArray) (b : Int) (w : World) (lh : h.size < 140737488355328) (lt : t.size < 140737488355328) (A Z : List UInt8) (hA : someOf 8 h.size h = A) (hZ : someOf 8 t.size t = Z) (hAl : A.length ≤ h.size) (hZl : Z.length ≤ 140737488355328)
    (c : Int) (hc : b % 256 = c) (hn : c < 48) (hs : (c == 32) = false) (h0 : 0 ≤ c) (h1 : c < 256) (hD : ∀ B, (B = 8 ∨ B = 10) → rd B (A ++ [UInt8.ofNat c.toNat] ++ Z) = (0, 10)) :
    Calls Try.prog 8 #[.string h, .int .i64 b, .string t] w fun e w' => e = .returned (.bool true) ∧ Below w.heap.size w w' := by
  have HH : Hid (∀ w, Calls Try.prog 17 #[.string h, .int .i64 8, .int .i64 h.size] w fun e w' => e = .returned (.string (strOf A)) ∧ w' = w) := by
    intro w; have := some_8 h h.size w (by omega) (by omega); rw [hA] at this; exact this
  have HT : Hid (∀ w, Calls Try.prog 17 #[.string t, .int .i64 8, .int .i64 t.size] w fun e w' => e = .returned (.string (strOf Z)) ∧ w' = w) := by
    intro w; have := some_8 t t.size w (by omega) (by omega); rw [hZ] at this; exact this
  have s1 := strOf_size A
  have s2 := strOf_size Z
  have s3 : (strOf [UInt8.ofNat c.toNat]).size = 1 := by rw [strOf_size]; rfl
  have hsum : strOf A ++ strOf [UInt8.ofNat c.toNat] ++ strOf Z = strOf (A ++ [UInt8.ofNat c.toNat] ++ Z) := by rw [strOf_append, strOf_append]
  have hz : (strOf A ++ strOf [UInt8.ofNat c.toNat] ++ strOf Z).size ≤ maxLen := by
    rw [hsum, strOf_size, List.length_append, List.length_append]; simp only [List.length_cons, List.length_nil]; unfold maxLen; omega
  have HDec : Hid (∀ w, Calls Try.prog 18 #[.string (strOf A ++ strOf [UInt8.ofNat c.toNat] ++ strOf Z)] w fun e w' => e = .returned (.tuple #[.int .i64 0, .int .i64 10]) ∧ w' = w) := by
    intro w
    have h := dec_any _ w hz
    rw [hsum, strOf_data, hD 10 (Or.inr rfl)] at h
    rw [hsum]; exact h
  have HOct : Hid (∀ w, Calls Try.prog 19 #[.string (strOf A ++ strOf [UInt8.ofNat c.toNat] ++ strOf Z)] w fun e w' => e = .returned (.tuple #[.int .i64 0, .int .i64 10]) ∧ w' = w) := by
    intro w
    have h := oct_any _ w hz
    rw [hsum, strOf_data, hD 8 (Or.inl rfl)] at h
    rw [hsum]; exact h
  have hc' := u8wrap b
  rw [hc] at hc'
  have hcv := conv1 w c h0 h1
  have d1 : decide (48 ≤ c) = false := by simp; omega
  clear hA hZ hc hD hsum hz
  go_enter Try.func8, Try.ntmps8
  go_wp2_with fail
  refine (HH.out _).mono ?_
  rintro e w1 ⟨rfl, hw1⟩; subst w1
  go_wp2_with fail
  refine (HT.out _).mono ?_
  rintro e w1 ⟨rfl, hw1⟩; subst w1
  go_wp2_with fail
  refine (HDec.out _).mono ?_
  rintro e w1 ⟨rfl, hw1⟩; subst w1
  go_wp2_with fail
  refine (HOct.out _).mono ?_
  rintro e w1 ⟨rfl, hw1⟩; subst w1
  go_wp2_with fail
  go_ret
  exact ⟨rfl, (Below.refl _ _).alloc (Nat.le_refl _) _⟩

set_option maxHeartbeats 400000 in
theorem at_high (h t : ByteArray) (b : Int) (w : World) (lh : h.size < 140737488355328) (lt : t.size < 140737488355328) (A Z : List UInt8) (hA : someOf 8 h.size h = A) (hZ : someOf 8 t.size t = Z) (hAl : A.length ≤ h.size) (hZl : Z.length ≤ 140737488355328)
    (c : Int) (hc : b % 256 = c) (hn : 57 < c) (hs : (c == 32) = false) (h0 : 0 ≤ c) (h1 : c < 256) (hD : ∀ B, (B = 8 ∨ B = 10) → rd B (A ++ [UInt8.ofNat c.toNat] ++ Z) = (0, 10)) :
    Calls Try.prog 8 #[.string h, .int .i64 b, .string t] w fun e w' => e = .returned (.bool true) ∧ Below w.heap.size w w' := by
  have HH : Hid (∀ w, Calls Try.prog 17 #[.string h, .int .i64 8, .int .i64 h.size] w fun e w' => e = .returned (.string (strOf A)) ∧ w' = w) := by
    intro w; have := some_8 h h.size w (by omega) (by omega); rw [hA] at this; exact this
  have HT : Hid (∀ w, Calls Try.prog 17 #[.string t, .int .i64 8, .int .i64 t.size] w fun e w' => e = .returned (.string (strOf Z)) ∧ w' = w) := by
    intro w; have := some_8 t t.size w (by omega) (by omega); rw [hZ] at this; exact this
  have s1 := strOf_size A
  have s2 := strOf_size Z
  have s3 : (strOf [UInt8.ofNat c.toNat]).size = 1 := by rw [strOf_size]; rfl
  have hsum : strOf A ++ strOf [UInt8.ofNat c.toNat] ++ strOf Z = strOf (A ++ [UInt8.ofNat c.toNat] ++ Z) := by rw [strOf_append, strOf_append]
  have hz : (strOf A ++ strOf [UInt8.ofNat c.toNat] ++ strOf Z).size ≤ maxLen := by
    rw [hsum, strOf_size, List.length_append, List.length_append]; simp only [List.length_cons, List.length_nil]; unfold maxLen; omega
  have HDec : Hid (∀ w, Calls Try.prog 18 #[.string (strOf A ++ strOf [UInt8.ofNat c.toNat] ++ strOf Z)] w fun e w' => e = .returned (.tuple #[.int .i64 0, .int .i64 10]) ∧ w' = w) := by
    intro w
    have h := dec_any _ w hz
    rw [hsum, strOf_data, hD 10 (Or.inr rfl)] at h
    rw [hsum]; exact h
  have HOct : Hid (∀ w, Calls Try.prog 19 #[.string (strOf A ++ strOf [UInt8.ofNat c.toNat] ++ strOf Z)] w fun e w' => e = .returned (.tuple #[.int .i64 0, .int .i64 10]) ∧ w' = w) := by
    intro w
    have h := oct_any _ w hz
    rw [hsum, strOf_data, hD 8 (Or.inl rfl)] at h
    rw [hsum]; exact h
  have hc' := u8wrap b
  rw [hc] at hc'
  have hcv := conv1 w c h0 h1
  have d1 : decide (48 ≤ c) = true := by simp; omega
  have d2 : decide (c ≤ 57) = false := by simp; omega
  clear hA hZ hc hD hsum hz
  go_enter Try.func8, Try.ntmps8
  go_wp2_with fail
  refine (HH.out _).mono ?_
  rintro e w1 ⟨rfl, hw1⟩; subst w1
  go_wp2_with fail
  refine (HT.out _).mono ?_
  rintro e w1 ⟨rfl, hw1⟩; subst w1
  go_wp2_with fail
  refine (HDec.out _).mono ?_
  rintro e w1 ⟨rfl, hw1⟩; subst w1
  go_wp2_with fail
  refine (HOct.out _).mono ?_
  rintro e w1 ⟨rfl, hw1⟩; subst w1
  go_wp2_with fail
  go_ret
  exact ⟨rfl, (Below.refl _ _).alloc (Nat.le_refl _) _⟩

set_option maxHeartbeats 400000 in
theorem at_blank_mid (h t : ByteArray) (b : Int) (w : World) (lh : h.size < 140737488355328) (lt : t.size < 140737488355328) (A Z : List UInt8) (hA : someOf 8 h.size h = A) (hZ : someOf 8 t.size t = Z) (hAl : A.length ≤ h.size) (hZl : Z.length ≤ 140737488355328)
    (c : Int) (hc : b % 256 = c) (hs : (c == 32) = true) (hne : Z ≠ []) (h0 : 0 ≤ c) (h1 : c < 256) (hD : ∀ B, (B = 8 ∨ B = 10) → rd B (A ++ [UInt8.ofNat c.toNat] ++ Z) = (0, 10)) :
    Calls Try.prog 8 #[.string h, .int .i64 b, .string t] w fun e w' => e = .returned (.bool true) ∧ Below w.heap.size w w' := by
  have HH : Hid (∀ w, Calls Try.prog 17 #[.string h, .int .i64 8, .int .i64 h.size] w fun e w' => e = .returned (.string (strOf A)) ∧ w' = w) := by
    intro w; have := some_8 h h.size w (by omega) (by omega); rw [hA] at this; exact this
  have HT : Hid (∀ w, Calls Try.prog 17 #[.string t, .int .i64 8, .int .i64 t.size] w fun e w' => e = .returned (.string (strOf Z)) ∧ w' = w) := by
    intro w; have := some_8 t t.size w (by omega) (by omega); rw [hZ] at this; exact this
  have s1 := strOf_size A
  have s2 := strOf_size Z
  have s3 : (strOf [UInt8.ofNat c.toNat]).size = 1 := by rw [strOf_size]; rfl
  have hsum : strOf A ++ strOf [UInt8.ofNat c.toNat] ++ strOf Z = strOf (A ++ [UInt8.ofNat c.toNat] ++ Z) := by rw [strOf_append, strOf_append]
  have hz : (strOf A ++ strOf [UInt8.ofNat c.toNat] ++ strOf Z).size ≤ maxLen := by
    rw [hsum, strOf_size, List.length_append, List.length_append]; simp only [List.length_cons, List.length_nil]; unfold maxLen; omega
  have HDec : Hid (∀ w, Calls Try.prog 18 #[.string (strOf A ++ strOf [UInt8.ofNat c.toNat] ++ strOf Z)] w fun e w' => e = .returned (.tuple #[.int .i64 0, .int .i64 10]) ∧ w' = w) := by
    intro w
    have h := dec_any _ w hz
    rw [hsum, strOf_data, hD 10 (Or.inr rfl)] at h
    rw [hsum]; exact h
  have HOct : Hid (∀ w, Calls Try.prog 19 #[.string (strOf A ++ strOf [UInt8.ofNat c.toNat] ++ strOf Z)] w fun e w' => e = .returned (.tuple #[.int .i64 0, .int .i64 10]) ∧ w' = w) := by
    intro w
    have h := oct_any _ w hz
    rw [hsum, strOf_data, hD 8 (Or.inl rfl)] at h
    rw [hsum]; exact h
  have hc' := u8wrap b
  rw [hc] at hc'
  have hcv := conv1 w c h0 h1
  have hc32 : c = 32 := by simpa using hs
  have d1 : decide (48 ≤ c) = false := by simp; omega
  have hc48 : c < 48 := by omega
  have e1 : (strOf Z).toList.isEmpty = false := by rw [Lib.toList_data, strOf_data]; cases Z <;> simp_all
  clear hc32 hne
  clear hA hZ hc hD hsum hz
  go_enter Try.func8, Try.ntmps8
  go_wp2_with fail
  refine (HH.out _).mono ?_
  rintro e w1 ⟨rfl, hw1⟩; subst w1
  go_wp2_with fail
  refine (HT.out _).mono ?_
  rintro e w1 ⟨rfl, hw1⟩; subst w1
  go_wp2_with fail
  refine (HDec.out _).mono ?_
  rintro e w1 ⟨rfl, hw1⟩; subst w1
  go_wp2_with fail
  refine (HOct.out _).mono ?_
  rintro e w1 ⟨rfl, hw1⟩; subst w1
  go_wp2_with fail
  go_ret
  exact ⟨rfl, (Below.refl _ _).alloc (Nat.le_refl _) _⟩

set_option maxHeartbeats 400000 in
theorem at_blank_end (h t : ByteArray) (b : Int) (w : World) (lh : h.size < 140737488355328) (lt : t.size < 140737488355328) (A Z : List UInt8) (hA : someOf 8 h.size h = A) (hZ : someOf 8 t.size t = []) (hAl : A.length ≤ h.size) (hZl : Z.length ≤ 140737488355328)
    (c : Int) (hc : b % 256 = c) (hs : (c == 32) = true) (hne : Z = [48]) (h0 : 0 ≤ c) (h1 : c < 256) (hD : ∀ B, (B = 8 ∨ B = 10) → rd B (A ++ [UInt8.ofNat c.toNat] ++ Z) = (0, 10)) :
    Calls Try.prog 8 #[.string h, .int .i64 b, .string t] w fun e w' => e = .returned (.bool true) ∧ Below w.heap.size w w' := by
  have HH : Hid (∀ w, Calls Try.prog 17 #[.string h, .int .i64 8, .int .i64 h.size] w fun e w' => e = .returned (.string (strOf A)) ∧ w' = w) := by
    intro w; have := some_8 h h.size w (by omega) (by omega); rw [hA] at this; exact this
  have HT : Hid (∀ w, Calls Try.prog 17 #[.string t, .int .i64 8, .int .i64 t.size] w fun e w' => e = .returned (.string (strOf [])) ∧ w' = w) := by
    intro w; have := some_8 t t.size w (by omega) (by omega); rw [hZ] at this; exact this
  have s1 := strOf_size A
  have s2 := strOf_size Z
  have s3 : (strOf [UInt8.ofNat c.toNat]).size = 1 := by rw [strOf_size]; rfl
  have hsum : strOf A ++ strOf [UInt8.ofNat c.toNat] ++ strOf Z = strOf (A ++ [UInt8.ofNat c.toNat] ++ Z) := by rw [strOf_append, strOf_append]
  have hz : (strOf A ++ strOf [UInt8.ofNat c.toNat] ++ strOf Z).size ≤ maxLen := by
    rw [hsum, strOf_size, List.length_append, List.length_append]; simp only [List.length_cons, List.length_nil]; unfold maxLen; omega
  have HDec : Hid (∀ w, Calls Try.prog 18 #[.string (strOf A ++ strOf [UInt8.ofNat c.toNat] ++ strOf Z)] w fun e w' => e = .returned (.tuple #[.int .i64 0, .int .i64 10]) ∧ w' = w) := by
    intro w
    have h := dec_any _ w hz
    rw [hsum, strOf_data, hD 10 (Or.inr rfl)] at h
    rw [hsum]; exact h
  have HOct : Hid (∀ w, Calls Try.prog 19 #[.string (strOf A ++ strOf [UInt8.ofNat c.toNat] ++ strOf Z)] w fun e w' => e = .returned (.tuple #[.int .i64 0, .int .i64 10]) ∧ w' = w) := by
    intro w
    have h := oct_any _ w hz
    rw [hsum, strOf_data, hD 8 (Or.inl rfl)] at h
    rw [hsum]; exact h
  have hc' := u8wrap b
  rw [hc] at hc'
  have hcv := conv1 w c h0 h1
  have hc32 : c = 32 := by simpa using hs
  have d1 : decide (48 ≤ c) = false := by simp; omega
  have hc48 : c < 48 := by omega
  have e1 : (strOf []).toList.isEmpty = true := by rw [Lib.toList_data, strOf_data]; rfl
  subst hne
  clear hc32
  clear hA hZ hc hD hsum hz
  go_enter Try.func8, Try.ntmps8
  go_wp2_with fail
  refine (HH.out _).mono ?_
  rintro e w1 ⟨rfl, hw1⟩; subst w1
  go_wp2_with fail
  refine (HT.out _).mono ?_
  rintro e w1 ⟨rfl, hw1⟩; subst w1
  go_wp2_with fail
  refine (HDec.out _).mono ?_
  rintro e w1 ⟨rfl, hw1⟩; subst w1
  go_wp2_with fail
  refine (HOct.out _).mono ?_
  rintro e w1 ⟨rfl, hw1⟩; subst w1
  go_wp2_with fail
  go_ret
  exact ⟨rfl, (Below.refl _ _).alloc (Nat.le_refl _) _⟩

set_option maxHeartbeats 400000 in
theorem at_digit (h t : ByteArray) (b : Int) (w : World) (lh : h.size < 140737488355328) (lt : t.size < 140737488355328)
    (c : Int) (hc : b % 256 = c) (h0 : 48 ≤ c) (h1 : c ≤ 57) :
    Calls Try.prog 8 #[.string h, .int .i64 b, .string t] w fun e w' => e = .returned (.bool true) ∧ Below w.heap.size w w' := by
  have HH : Hid (∀ w, Calls Try.prog 17 #[.string h, .int .i64 8, .int .i64 h.size] w fun e w' => e = .returned (.string (strOf (someOf 8 h.size h))) ∧ w' = w) := by
    intro w; exact some_8 h h.size w (by omega) (by omega)
  have HT : Hid (∀ w, Calls Try.prog 17 #[.string t, .int .i64 8, .int .i64 t.size] w fun e w' => e = .returned (.string (strOf (someOf 8 t.size t))) ∧ w' = w) := by
    intro w; exact some_8 t t.size w (by omega) (by omega)
  have hc' := u8wrap b
  rw [hc] at hc'
  have d1 : decide (48 ≤ c) = true := by simp; omega
  have d2 : decide (c ≤ 57) = true := by simp; omega
  clear hc
  go_enter Try.func8, Try.ntmps8
  go_wp2_with fail
  refine (HH.out _).mono ?_
  rintro e w1 ⟨rfl, hw1⟩; subst w1
  go_wp2_with fail
  refine (HT.out _).mono ?_
  rintro e w1 ⟨rfl, hw1⟩; subst w1
  go_wp2_with fail
  go_ret
  exact ⟨rfl, Below.refl _ _⟩
theorem of_nat (c : Int) (h0 : 0 ≤ c) (h1 : c < 256) : ((UInt8.ofNat c.toNat).toNat : Int) = c := by
  simp; omega
-- the walk
theorem walk (a0 : ByteArray) (a1 : Int) (a2 : ByteArray) (w0 : a0.size ≤ maxLen) (w1 : (Lit.int .i64 a1).wf = true) (w2 : a2.size ≤ maxLen) (l0 : a0.size < 140737488355328) (l2 : a2.size < 140737488355328) (w : World) :
    Calls Try.prog 8 #[.string a0, .int .i64 a1, .string a2] w fun e w' => e = .returned (.bool true) ∧ Below w.heap.size w w' := by
  obtain ⟨c, hc⟩ : ∃ c, a1 % 256 = c := ⟨_, rfl⟩
  have c0 : 0 ≤ c := by omega
  have c1 : c < 256 := by omega
  have hof := of_nat c c0 c1
  have hAl := some_len a0 a0.size
  have hZl := some_len a2 a2.size
  by_cases hd : 48 ≤ c ∧ c ≤ 57
  · exact at_digit a0 a2 a1 w l0 l2 c hc hd.1 hd.2
  · have hA (B : Nat) (hB : B = 8 ∨ B = 10) : ∀ x ∈ someOf 8 a0.size a0, dig B x = true := by
      intro x hx
      rcases hB with rfl | rfl
      · exact some_dig a0 _ x hx
      · exact dig_10 x (some_dig a0 _ x hx)
    have hcd (B : Nat) (hB : B = 8 ∨ B = 10) : dig B (UInt8.ofNat c.toNat) = false := dig_no B _ (by omega)
    by_cases h32 : c = 32
    · have hs : (c == 32) = true := by simp [h32]
      cases hZ : someOf 8 a2.size a2 with
      | nil =>
        refine at_blank_end a0 a2 a1 w l0 l2 _ [48] rfl hZ hAl (by simp) c hc hs rfl c0 c1 (fun B hB => spoils B _ _ _ (hA B hB) (hcd B hB) ?_)
        simp [blank]
      | cons z r =>
        have hz := (dig_iff _ _).1 (some_dig a2 a2.size z (by rw [hZ]; simp))
        refine at_blank_mid a0 a2 a1 w l0 l2 _ (z :: r) rfl hZ hAl (by rw [← hZ]; omega) c hc hs (by simp) c0 c1 (fun B hB => spoils B _ _ _ (hA B hB) (hcd B hB) ?_)
        have : (z.toNat == 32) = false := by simp; omega
        simp [blank, this]
    · have hs : (c == 32) = false := by simp [h32]
      have hb : blank (UInt8.ofNat c.toNat :: someOf 8 a2.size a2) = false := by
        have : ((UInt8.ofNat c.toNat).toNat == 32) = false := by
          rw [beq_eq_false_iff_ne]; omega
        unfold blank; rw [List.all_cons, this]; rfl
      by_cases hl : c < 48
      · exact at_low a0 a2 a1 w l0 l2 _ _ rfl rfl hAl (by omega) c hc hl hs c0 c1 (fun B hB => spoils B _ _ _ (hA B hB) (hcd B hB) hb)
      · exact at_high a0 a2 a1 w l0 l2 _ _ rfl rfl hAl (by omega) c hc (by omega) hs c0 c1 (fun B hB => spoils B _ _ _ (hA B hB) (hcd B hB) hb)

-- the row's step (the frame)
set_option maxRecDepth 100000 in
theorem lifted (os : Os) (started : os.Started) (H : Type) (enc : TypeId × Value → H) :
    ReturnsInHanded {} Try.checked os 8 .any (Rows.numSpoiltSpec.pre6 enc Try.prog Try.f8 Rows.numSpoiltRow.domain false) (Rows.numSpoiltSpec.post enc Try.prog Try.f8 false true false false) := by
  refine returnsInHanded_of_change_sized (C := Try.checked) own started (by kernel_rfl) Try.func8
    (ChangeSpec.witness6 (enc := enc) (C := Try.checked) false ⟨#[], #[.string ByteArray.empty, .int .i64 0, .string ByteArray.empty], []⟩ 8 (by kernel_rfl) (by kernel_rfl) (by kernel_rfl) (by kernel_rfl)) ?_
  intro W base args ds gs before hval0 hW hcnd hsz0 _
  have hval : ∀ (j : Nat) t v, Try.f8.params[j]? = some t → args[j]? = some v → Value.okWide Try.prog W .any base t v := hval0
  have hsz : (DataW.weightsEach Try.prog (Try.f8.params.toList ++ Rows.numSpoiltSpec.plain.varTypes Try.prog) (ds ++ gs)).all (· ≤ reachBytes) = true := hsz0
  have hW' := hW
  obtain ⟨p, q, hA0, hV, rfl, hfz, hnd⟩ := hW
  have hA : DataW.TrodAll enc Try.prog W 0 (fun _ => true) true Try.f8.params.toList args.toList ds p := hA0
  rw [Try.params8] at hA hval hsz
  obtain ⟨v0, vs0, d0, ds0, p0, q0, hargs, rfl, rfl, h0, r0⟩ := trodAll_cons hA
  obtain ⟨v1, vs1, d1, ds1, p1, q1, rfl, rfl, rfl, h1, r1⟩ := trodAll_cons r0
  obtain ⟨v2, vs2, d2, ds2, p2, q2, rfl, rfl, rfl, h2, r2⟩ := trodAll_cons r1
  obtain ⟨rfl, rfl, rfl⟩ := trodAll_nil r2
  obtain rfl : args = #[v0, v1, v2] := by cases args; simp_all
  obtain ⟨rfl, rfl⟩ := trodVars_none hV
  obtain ⟨a0, rfl, rfl, rfl, w0⟩ := open_string Try.underlying9 (hval 0 9 v0 rfl rfl) h0
  obtain ⟨a1, rfl, rfl, rfl, w1⟩ := open_int Try.underlying3 (hval 1 3 v1 rfl rfl) h1
  obtain ⟨a2, rfl, rfl, rfl, w2⟩ := open_string Try.underlying9 (hval 2 9 v2 rfl rfl) h2
  have l0 : a0.size < 140737488355328 := by
    have h1 := sized_string hsz (j := 0) (t := 9) rfl rfl
    have h2 := reachBytes_lt
    have e3 : (2 : Nat) ^ 47 = 140737488355328 := by decide
    have e2 : a0.data.toList.length = a0.size := by simp
    omega
  have l2 : a2.size < 140737488355328 := by
    have h1 := sized_string hsz (j := 2) (t := 9) rfl rfl
    have h2 := reachBytes_lt
    have e3 : (2 : Nat) ^ 47 = 140737488355328 := by decide
    have e2 : a2.data.toList.length = a2.size := by simp
    omega
  clear hA0 hval0
  simp only [List.append_nil] at hW'
  refine (walk a0 a1 a2 w0 w1 w2 l0 l2 W).mono fun e W' ⟨he, hg⟩ => ?_
  subst he
  exact ⟨_, rfl, _, _, _, [], _, [], hW', (trodAll_cons_mk (shut_bool Try.underlying4 _) trodAll_mk0), (trodAll_cons_mk (shut_string Try.underlying9 w0) (trodAll_cons_mk (shut_int Try.underlying3 w1) (trodAll_cons_mk (shut_string Try.underlying9 w2) trodAll_mk0))), rfl, hg.frame _, fun h => by cases h⟩

theorem over : Rows.numSpoiltRow.holds Try.pinned (OpenSpec.ofChange Rows.numSpoiltSpec) :=
  OpenClaim.holds_of_wide 8 Try.f8 rfl rfl rfl rfl rfl rfl rfl ⟨rfl, rfl, rfl, rfl, rfl⟩ rfl rfl rfl rfl rfl (by kernel_rfl) Try.func8 (by kernel_rfl)
    (of_decide_eq_true (by kernel_rfl)) (by unfold Func.isWrapper; first | (rw [if_pos (by decide +kernel)]; kernel_rfl) | (rw [if_neg (by decide +kernel)]; exact ⟨rfl, rfl⟩))
    (fun os started H enc _ => lifted os started H enc)

theorem proved : Rows.NumSpoiltSaid :=
  over
end Go.Proofs.Ytfjmjgnifbgneaa.numSpoilt
namespace Go.Proofs.Ytfjmjgnifbgneaa
theorem numSpoilt_holds : Rows.NumSpoiltSaid := numSpoilt.proved
#print axioms numSpoilt_holds
end Go.Proofs.Ytfjmjgnifbgneaa
