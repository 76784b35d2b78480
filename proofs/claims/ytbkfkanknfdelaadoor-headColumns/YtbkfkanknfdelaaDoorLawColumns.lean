
-- Proof of the given card about HeadColumns. The frame follows the guide's toy for a law over a table; the walk and the lemmas are ours.
import Derived.Test.YtbkfkanknfdelaaDoorCards
import Derived.Test.YtbkfkanknfdelaaDoorTie
import Derived.Test.YtbkfkanknfdelaaDoorX7
import Derived.Test.YtbkfkanknfdelaaDoorQ2
import Derived.WalkKit
import Derived.ProofKit
import Derived.OpenShut
import Derived.ShutString
import Derived.ChangeOld
import Derived.Below
import Derived.Deep.DeepHandedRow
import Derived.Stop.LaidErr
namespace Go.Proofs.YtbkfkanknfdelaaDoor.headColumns
open Go.ChangeShapes Go.WideShapes Go.ChangeAt Go.RowKit
open Go.ChangeMaps (open_string shut_string)
set_option linter.unusedVariables false
set_option maxRecDepth 100000

theorem own : ownKnob Tryd.prog.godebug = none := by kernel_rfl
theorem laidOut : laidOutB Tryd.prog = true := by kernel_rfl
theorem laid_is {W : World} (h : laidMetH Tryd.prog Rows.headColumnsRow.laid W) : laidMet Tryd.prog [("unicode/utf8.acceptRanges", Rows.laid_unicode_utf8_acceptRanges), ("shelf/head.columns", Rows.laid_shelf_head_columns), ("unicode/utf8.first", Rows.laid_unicode_utf8_first)] W := h
theorem cols_of {W : World} (h : laidMetH Tryd.prog Rows.headColumnsRow.laid W) : Cols W := cols_of_head (laid_is h).tail
set_option maxHeartbeats 1000000 in
theorem lens (F D U G M S : ByteArray) (w : World) (hF : F.size ≤ maxLen) (hD : D.size ≤ maxLen) (hU : U.size ≤ maxLen) (hG : G.size ≤ maxLen) (hM : M.size ≤ maxLen) (hS : S.size ≤ maxLen)
    (h : ¬ (F.size = 16 ∧ D.size = 12 ∧ U.size = 6 ∧ G.size = 6 ∧ M.size = 8 ∧ S.size = 10)) : Calls Tryd.prog 4 #[.string F, .string D, .string U, .string G, .string M, .string S] w fun e w' => e = .returned (.bool true) ∧ Below w.heap.size w w' := by
  unfold maxLen at *
  by_cases q0 : F.size = 16
  rotate_left
  · have c0 : ((F.size : Int) != 16) = true := by simp; omega
    clear h
    go_enter Tryd.func4, Tryd.ntmps4
    go_wp2
    go_ret
    exact ⟨rfl, Below.refl _ _⟩
  have c0 : ((F.size : Int) != 16) = false := by simp; omega
  by_cases q1 : D.size = 12
  rotate_left
  · have c1 : ((D.size : Int) != 12) = true := by simp; omega
    clear h
    go_enter Tryd.func4, Tryd.ntmps4
    go_wp2
    go_ret
    exact ⟨rfl, Below.refl _ _⟩
  have c1 : ((D.size : Int) != 12) = false := by simp; omega
  by_cases q2 : U.size = 6
  rotate_left
  · have c2 : ((U.size : Int) != 6) = true := by simp; omega
    clear h
    go_enter Tryd.func4, Tryd.ntmps4
    go_wp2
    go_ret
    exact ⟨rfl, Below.refl _ _⟩
  have c2 : ((U.size : Int) != 6) = false := by simp; omega
  by_cases q3 : G.size = 6
  rotate_left
  · have c3 : ((G.size : Int) != 6) = true := by simp; omega
    clear h
    go_enter Tryd.func4, Tryd.ntmps4
    go_wp2
    go_ret
    exact ⟨rfl, Below.refl _ _⟩
  have c3 : ((G.size : Int) != 6) = false := by simp; omega
  by_cases q4 : M.size = 8
  rotate_left
  · have c4 : ((M.size : Int) != 8) = true := by simp; omega
    clear h
    go_enter Tryd.func4, Tryd.ntmps4
    go_wp2
    go_ret
    exact ⟨rfl, Below.refl _ _⟩
  have c4 : ((M.size : Int) != 8) = false := by simp; omega
  by_cases q5 : S.size = 10
  rotate_left
  · have c5 : ((S.size : Int) != 10) = true := by simp; omega
    clear h
    go_enter Tryd.func4, Tryd.ntmps4
    go_wp2
    go_ret
    exact ⟨rfl, Below.refl _ _⟩
  have c5 : ((S.size : Int) != 10) = false := by simp; omega
  exact absurd ⟨q0, q1, q2, q3, q4, q5⟩ h
set_option maxHeartbeats 2000000 in
theorem bad (F D U G M S : ByteArray) (w : World) (s0 : F.size = 16) (s1 : D.size = 12) (s2 : U.size = 6) (s3 : G.size = 6) (s4 : M.size = 8) (s5 : S.size = 10) (dv de ov oe : ByteArray → Int)
    (HD : Hid (∀ (g : ByteArray) (w : World), g.size ≤ 60 → Calls Tryd.prog 10 #[.string g] w fun e w' => e = .returned (.tuple #[.int .i64 (dv g), .int .i64 (de g)]) ∧ w' = w))
    (HO : Hid (∀ (g : ByteArray) (w : World), g.size ≤ 60 → Calls Tryd.prog 11 #[.string g] w fun e w' => e = .returned (.tuple #[.int .i64 (ov g), .int .i64 (oe g)]) ∧ w' = w)) (HC : Hid (Cols w))
    (HP : Hid (∀ w, Cols w → Calls Tryd.prog 9 #[.string (F ++ D ++ U ++ G ++ M ++ S ++ ⟨#[96, 10]⟩), .int .i64 0] w fun e w' => e = .returned (.tuple #[.agg #[.int .i64 0, .int .i64 0, .int .i64 0, .int .i64 0, .string ⟨#[]⟩, .int .i64 0], .int .i64 72]) ∧ Below w.heap.size w w'))
    (hb : ¬ (de D = 0 ∧ de U = 0 ∧ de G = 0 ∧ oe M = 0 ∧ de S = 0)) : Calls Tryd.prog 4 #[.string F, .string D, .string U, .string G, .string M, .string S] w fun e w' => e = .returned (.bool true) ∧ Below w.heap.size w w' := by
  have hE := eqHd 0 0 0 0 ⟨#[]⟩ 0
  have z1 : D.size ≤ 60 := by omega
  have z2 : U.size ≤ 60 := by omega
  have z3 : G.size ≤ 60 := by omega
  have z4 : M.size ≤ 60 := by omega
  have z5 : S.size ≤ 60 := by omega
  have c1 : (F ++ D).size = 28 := by rw [ByteArray.size_append, s0, s1]
  have c2 : (F ++ D ++ U).size = 34 := by rw [ByteArray.size_append, c1, s2]
  have c3 : (F ++ D ++ U ++ G).size = 40 := by rw [ByteArray.size_append, c2, s3]
  have c4 : (F ++ D ++ U ++ G ++ M).size = 48 := by rw [ByteArray.size_append, c3, s4]
  have c5 : (F ++ D ++ U ++ G ++ M ++ S).size = 58 := by rw [ByteArray.size_append, c4, s5]
  by_cases q0 : de D = 0
  rotate_left
  · have y0 : (de D != 0) = true := by simp [q0]
    clear hb q0
    go_enter Tryd.func4, Tryd.ntmps4
    go_wp2_with (first | (go_at_call 9; refine (HP.out _ HC.out).mono ?_; rintro e w1 ⟨rfl, hb1⟩) | (go_at_call 10; refine (HD.out _ _ (by assumption)).mono ?_; rintro e w2 ⟨rfl, hw2⟩; subst w2) | (go_at_call 11; refine (HO.out _ _ (by assumption)).mono ?_; rintro e w2 ⟨rfl, hw2⟩; subst w2))
    go_ret
    exact ⟨rfl, bup hb1 _⟩
  have y0 : (de D != 0) = false := by simp [q0]
  by_cases q1 : de U = 0
  rotate_left
  · have y1 : (de U != 0) = true := by simp [q1]
    clear hb q0 q1
    go_enter Tryd.func4, Tryd.ntmps4
    go_wp2_with (first | (go_at_call 9; refine (HP.out _ HC.out).mono ?_; rintro e w1 ⟨rfl, hb1⟩) | (go_at_call 10; refine (HD.out _ _ (by assumption)).mono ?_; rintro e w2 ⟨rfl, hw2⟩; subst w2) | (go_at_call 11; refine (HO.out _ _ (by assumption)).mono ?_; rintro e w2 ⟨rfl, hw2⟩; subst w2))
    go_ret
    exact ⟨rfl, bup hb1 _⟩
  have y1 : (de U != 0) = false := by simp [q1]
  by_cases q2 : de G = 0
  rotate_left
  · have y2 : (de G != 0) = true := by simp [q2]
    clear hb q0 q1 q2
    go_enter Tryd.func4, Tryd.ntmps4
    go_wp2_with (first | (go_at_call 9; refine (HP.out _ HC.out).mono ?_; rintro e w1 ⟨rfl, hb1⟩) | (go_at_call 10; refine (HD.out _ _ (by assumption)).mono ?_; rintro e w2 ⟨rfl, hw2⟩; subst w2) | (go_at_call 11; refine (HO.out _ _ (by assumption)).mono ?_; rintro e w2 ⟨rfl, hw2⟩; subst w2))
    go_ret
    exact ⟨rfl, bup hb1 _⟩
  have y2 : (de G != 0) = false := by simp [q2]
  by_cases q3 : oe M = 0
  rotate_left
  · have y3 : (oe M != 0) = true := by simp [q3]
    clear hb q0 q1 q2 q3
    go_enter Tryd.func4, Tryd.ntmps4
    go_wp2_with (first | (go_at_call 9; refine (HP.out _ HC.out).mono ?_; rintro e w1 ⟨rfl, hb1⟩) | (go_at_call 10; refine (HD.out _ _ (by assumption)).mono ?_; rintro e w2 ⟨rfl, hw2⟩; subst w2) | (go_at_call 11; refine (HO.out _ _ (by assumption)).mono ?_; rintro e w2 ⟨rfl, hw2⟩; subst w2))
    go_ret
    exact ⟨rfl, bup hb1 _⟩
  have y3 : (oe M != 0) = false := by simp [q3]
  by_cases q4 : de S = 0
  rotate_left
  · have y4 : (de S != 0) = true := by simp [q4]
    clear hb q0 q1 q2 q3 q4
    go_enter Tryd.func4, Tryd.ntmps4
    go_wp2_with (first | (go_at_call 9; refine (HP.out _ HC.out).mono ?_; rintro e w1 ⟨rfl, hb1⟩) | (go_at_call 10; refine (HD.out _ _ (by assumption)).mono ?_; rintro e w2 ⟨rfl, hw2⟩; subst w2) | (go_at_call 11; refine (HO.out _ _ (by assumption)).mono ?_; rintro e w2 ⟨rfl, hw2⟩; subst w2))
    go_ret
    exact ⟨rfl, bup hb1 _⟩
  have y4 : (de S != 0) = false := by simp [q4]
  exact absurd ⟨q0, q1, q2, q3, q4⟩ hb
set_option maxHeartbeats 2000000 in
theorem good (F D U G M S nm : ByteArray) (w : World) (s0 : F.size = 16) (s1 : D.size = 12) (s2 : U.size = 6) (s3 : G.size = 6) (s4 : M.size = 8) (s5 : S.size = 10) (dv de ov oe : ByteArray → Int)
    (HD : Hid (∀ (g : ByteArray) (w : World), g.size ≤ 60 → Calls Tryd.prog 10 #[.string g] w fun e w' => e = .returned (.tuple #[.int .i64 (dv g), .int .i64 (de g)]) ∧ w' = w))
    (HO : Hid (∀ (g : ByteArray) (w : World), g.size ≤ 60 → Calls Tryd.prog 11 #[.string g] w fun e w' => e = .returned (.tuple #[.int .i64 (ov g), .int .i64 (oe g)]) ∧ w' = w)) (HC : Hid (Cols w))
    (HP : Hid (∀ w, Cols w → Calls Tryd.prog 9 #[.string (F ++ D ++ U ++ G ++ M ++ S ++ ⟨#[96, 10]⟩), .int .i64 0] w fun e w' => e = .returned (.tuple #[.agg #[.int .i64 (dv D), .int .i64 (dv U), .int .i64 (dv G), .int .i64 (ov M), .string nm, .int .i64 (dv S)], .int .i64 0]) ∧ Below w.heap.size w w'))
    (y0 : (de D != 0) = false) (y1 : (de U != 0) = false) (y2 : (de G != 0) = false) (y3 : (oe M != 0) = false) (y4 : (de S != 0) = false)
    (HN : Hid (∀ w, Calls Tryd.prog 12 #[.string nm] w fun e w' => e = .returned (.bool true) ∧ w' = w)) (hn16 : nm.size ≤ 16)
    (HB : Hid (∀ j, nm.size ≤ j → (hj : j < 16) → ∀ w, (Instr.index 9 (.string F) (.int .i64 (j : Int))).run Tryd.prog w = .ok (.int .u8 32) w))
    (hsl : ∀ w, (Instr.slice 9 (.string F) none (some (.int .i64 (nm.size : Int))) none).run Tryd.prog w = .ok (.string nm) w) : Calls Tryd.prog 4 #[.string F, .string D, .string U, .string G, .string M, .string S] w fun e w' => e = .returned (.bool true) ∧ Below w.heap.size w w' := by
  have z1 : D.size ≤ 60 := by omega
  have z2 : U.size ≤ 60 := by omega
  have z3 : G.size ≤ 60 := by omega
  have z4 : M.size ≤ 60 := by omega
  have z5 : S.size ≤ 60 := by omega
  have c1 : (F ++ D).size = 28 := by rw [ByteArray.size_append, s0, s1]
  have c2 : (F ++ D ++ U).size = 34 := by rw [ByteArray.size_append, c1, s2]
  have c3 : (F ++ D ++ U ++ G).size = 40 := by rw [ByteArray.size_append, c2, s3]
  have c4 : (F ++ D ++ U ++ G ++ M).size = 48 := by rw [ByteArray.size_append, c3, s4]
  have c5 : (F ++ D ++ U ++ G ++ M ++ S).size = 58 := by rw [ByteArray.size_append, c4, s5]
  go_enter Tryd.func4, Tryd.ntmps4
  go_wp2_with (first | (go_at_call 9; refine (HP.out _ HC.out).mono ?_; rintro e w1 ⟨rfl, hb1⟩) | (go_at_call 10; refine (HD.out _ _ (by assumption)).mono ?_; rintro e w2 ⟨rfl, hw2⟩; subst w2) | (go_at_call 11; refine (HO.out _ _ (by assumption)).mono ?_; rintro e w2 ⟨rfl, hw2⟩; subst w2))
  go_loopw [26] (fun i wx => ∃ k : Nat, nm.size ≤ k ∧ k ≤ 16 ∧ i = .int .i64 k ∧ wx = w1.alloc (.cells #[.int .i64 (dv D), .int .i64 (dv U), .int .i64 (dv G), .int .i64 (ov M), .string nm, .int .i64 (dv S)] 25)) (fun i _ => 16 - (intOf i).toNat)
  case atStart => exact ⟨nm.size, Nat.le_refl _, hn16, rfl, rfl⟩
  case round =>
    obtain ⟨k, hk1, hk2, rfl, rfl⟩ := hrel
    by_cases hlt : k < 16
    · have hi := HB.out k hk1 hlt
      go_wp2
      go_roundw
      case rel => exact ⟨k + 1, by omega, by omega, by go_num, by first | rfl | trivial⟩
      case measure => simp [intOf]; omega
    · obtain rfl : k = 16 := by omega
      go_wp2_with (first | (go_at_call 12; refine (HN.out _).mono ?_; rintro e w3 ⟨rfl, hw3⟩; subst w3))
      go_quiet (fail)
      go_wp2
      go_ret
      exact ⟨by simp, below_drewN (bup hb1 _) _⟩
theorem walk (a0 : ByteArray) (w0 : a0.size ≤ maxLen) (a1 : ByteArray) (w1 : a1.size ≤ maxLen) (a2 : ByteArray) (w2 : a2.size ≤ maxLen) (a3 : ByteArray) (w3 : a3.size ≤ maxLen) (a4 : ByteArray) (w4 : a4.size ≤ maxLen) (a5 : ByteArray) (w5 : a5.size ≤ maxLen) (w : World) (hC : Cols w) :
    Calls Tryd.prog 4 #[.string a0, .string a1, .string a2, .string a3, .string a4, .string a5] w fun e w' => e = .returned (.bool true) ∧ Below w.heap.size w w' := by
  by_cases hs : a0.size = 16 ∧ a1.size = 12 ∧ a2.size = 6 ∧ a3.size = 6 ∧ a4.size = 8 ∧ a5.size = 10
  rotate_left
  · exact lens a0 a1 a2 a3 a4 a5 w w0 w1 w2 w3 w4 w5 hs
  obtain ⟨s0, s1, s2, s3, s4, s5⟩ := hs
  have l0 : a0.data.toList.length = 16 := by rw [← s0]; simp
  have l1 : a1.data.toList.length = 12 := by rw [← s1]; simp
  have l2 : a2.data.toList.length = 6 := by rw [← s2]; simp
  have l3 : a3.data.toList.length = 6 := by rw [← s3]; simp
  have l4 : a4.data.toList.length = 8 := by rw [← s4]; simp
  have l5 : a5.data.toList.length = 10 := by rw [← s5]; simp
  have hz : (a0 ++ a1 ++ a2 ++ a3 ++ a4 ++ a5 ++ ⟨#[96, 10]⟩).size = 60 := by
    rw [ByteArray.size_append, ByteArray.size_append, ByteArray.size_append, ByteArray.size_append, ByteArray.size_append, ByteArray.size_append, s0, s1, s2, s3, s4, s5]; rfl
  have hl : (a0 ++ a1 ++ a2 ++ a3 ++ a4 ++ a5 ++ ⟨#[96, 10]⟩).data.toList = a0.data.toList ++ (a1.data.toList ++ (a2.data.toList ++ (a3.data.toList ++ (a4.data.toList ++ (a5.data.toList ++ [96, 10]))))) := by
    simp [ByteArray.data_append, Array.toList_append]
  obtain ⟨d0, d1, d2, d3, d4, d5, d6⟩ := cols a0.data.toList a1.data.toList a2.data.toList a3.data.toList a4.data.toList a5.data.toList [96, 10] l0 l1 l2 l3 l4 l5 rfl
  have HP : ∀ w, Cols w → Calls Tryd.prog 9 #[.string (a0 ++ a1 ++ a2 ++ a3 ++ a4 ++ a5 ++ ⟨#[96, 10]⟩), .int .i64 0] w fun e w' => e = .returned (.tuple #[hdV (parseH (a0.data.toList ++ (a1.data.toList ++ (a2.data.toList ++ (a3.data.toList ++ (a4.data.toList ++ (a5.data.toList ++ [96, 10]))))))).1, .int .i64 (parseH (a0.data.toList ++ (a1.data.toList ++ (a2.data.toList ++ (a3.data.toList ++ (a4.data.toList ++ (a5.data.toList ++ [96, 10]))))))).2]) ∧ Below w.heap.size w w' := fun w hC => by
    have h := parse_c (a0 ++ a1 ++ a2 ++ a3 ++ a4 ++ a5 ++ ⟨#[96, 10]⟩) 0 w hC (by rw [hz]; unfold maxLen; omega)
    rw [parse_zero _ hz, hl] at h; exact h
  have HD : Hid (∀ (g : ByteArray) (w : World), g.size ≤ 60 → Calls Tryd.prog 10 #[.string g] w fun e w' => e = .returned (.tuple #[.int .i64 ((fun g : ByteArray => ((rd 10 g.data.toList).1 : Int)) g), .int .i64 ((fun g : ByteArray => ((rd 10 g.data.toList).2 : Int)) g)]) ∧ w' = w) := fun g w hg => Rd.dec_any g w (by unfold maxLen; omega)
  have HO : Hid (∀ (g : ByteArray) (w : World), g.size ≤ 60 → Calls Tryd.prog 11 #[.string g] w fun e w' => e = .returned (.tuple #[.int .i64 ((fun g : ByteArray => ((rd 8 g.data.toList).1 : Int)) g), .int .i64 ((fun g : ByteArray => ((rd 8 g.data.toList).2 : Int)) g)]) ∧ w' = w) := fun g w hg => Rd.oct_any g w (by unfold maxLen; omega)
  unfold parseH at HP
  rw [if_pos d6] at HP
  by_cases hn : numOk (a0.data.toList ++ (a1.data.toList ++ (a2.data.toList ++ (a3.data.toList ++ (a4.data.toList ++ (a5.data.toList ++ [96, 10]))))))
  · rw [if_pos hn] at HP
    obtain ⟨q1, q2, q3, q4, q5⟩ := hn
    rw [d1] at q1; rw [d2] at q2; rw [d3] at q3; rw [d4] at q4; rw [d5] at q5
    unfold hdOf at HP
    rw [d0, d1, d2, d3, d4, d5] at HP
    have hk : (strL (trimN a0.data.toList)).size = (trimN a0.data.toList).length := strL_size _
    have hkl := trimN_len a0.data.toList
    obtain ⟨htk, hbl⟩ := trimN_take a0.data.toList
    refine good a0 a1 a2 a3 a4 a5 (strL (trimN a0.data.toList)) w s0 s1 s2 s3 s4 s5 _ _ _ _ HD HO hC HP (by simp only [q1]; rfl) (by simp only [q2]; rfl) (by simp only [q3]; rfl) (by simp only [q4]; rfl) (by simp only [q5]; rfl) (fun w => ?_) (by omega) (fun j hj hj2 w => ?_) (fun w => ?_)
    · have h := named_c (strL (trimN a0.data.toList)) w (by unfold maxLen; omega)
      rw [strL_data, decide_eq_true ⟨by omega, (getLast_noB _).1 (trimN_noB _)⟩] at h
      exact h
    · have h := Rd.idx a0 j (by omega) w
      have hb := hbl j _ (by omega) (Rd.at_some a0 j (by omega))
      rw [h, hb]; rfl
    · rw [hk, run_slice_string_to_if w 9 a0 .i64 _ Tryd.underlying9, if_pos (by omega), Int.toNat_natCast, Lib.extract_upto, ← htk]; rfl
  · rw [if_neg hn] at HP
    refine bad a0 a1 a2 a3 a4 a5 w s0 s1 s2 s3 s4 s5 _ _ _ _ HD HO hC HP ?_
    rintro ⟨q1, q2, q3, q4, q5⟩
    refine hn ⟨?_, ?_, ?_, ?_, ?_⟩
    · rw [d1]; exact Int.ofNat.inj q1
    · rw [d2]; exact Int.ofNat.inj q2
    · rw [d3]; exact Int.ofNat.inj q3
    · rw [d4]; exact Int.ofNat.inj q4
    · rw [d5]; exact Int.ofNat.inj q5
theorem contract (H : Type) (enc : TypeId × Value → H) (W : World) (base : Nat) (args : Array Value) (ds gs : List (DataW H)) (before : List MemPlace)
    (hval : ∀ (j : Nat) t v, Tryd.f4.params[j]? = some t → args[j]? = some v → Value.okWide Tryd.prog W .any base t v)
    (hW : DataW.Whole enc Tryd.prog Tryd.f4.params.toList Rows.headColumnsSpec.vars false W args.toList ds gs before) (hL : laidMetH Tryd.prog Rows.headColumnsRow.laid W) :
    Calls Tryd.prog 4 args W fun e W' => ∃ v, e = .returned v ∧ Rows.headColumnsSpec.post enc Tryd.prog Tryd.f4 false true false false W args v W' := by
  have hW' := hW
  obtain ⟨p, q, hA0, hV, rfl, hfz, hnd⟩ := hW
  have hA : DataW.TrodAll enc Tryd.prog W 0 (fun _ => true) true Tryd.f4.params.toList args.toList ds p := hA0
  rw [Tryd.params4] at hA hval
  obtain ⟨v0, vs0, d0, ds0, p0, q0, hargs, rfl, rfl, h0, r0⟩ := trodAll_cons hA
  obtain ⟨v1, vs1, d1, ds1, p1, q1, rfl, rfl, rfl, h1, r1⟩ := trodAll_cons r0
  obtain ⟨v2, vs2, d2, ds2, p2, q2, rfl, rfl, rfl, h2, r2⟩ := trodAll_cons r1
  obtain ⟨v3, vs3, d3, ds3, p3, q3, rfl, rfl, rfl, h3, r3⟩ := trodAll_cons r2
  obtain ⟨v4, vs4, d4, ds4, p4, q4, rfl, rfl, rfl, h4, r4⟩ := trodAll_cons r3
  obtain ⟨v5, vs5, d5, ds5, p5, q5, rfl, rfl, rfl, h5, r5⟩ := trodAll_cons r4
  obtain ⟨rfl, rfl, rfl⟩ := trodAll_nil r5
  obtain rfl : args = #[v0, v1, v2, v3, v4, v5] := by have h := congrArg List.toArray hargs; rw [Array.toArray_toList] at h; exact h
  obtain ⟨rfl, rfl⟩ := trodVars_none hV
  obtain ⟨a0, rfl, rfl, rfl, w0⟩ := open_string Tryd.underlying9 (hval 0 9 v0 rfl rfl) h0
  obtain ⟨a1, rfl, rfl, rfl, w1⟩ := open_string Tryd.underlying9 (hval 1 9 v1 rfl rfl) h1
  obtain ⟨a2, rfl, rfl, rfl, w2⟩ := open_string Tryd.underlying9 (hval 2 9 v2 rfl rfl) h2
  obtain ⟨a3, rfl, rfl, rfl, w3⟩ := open_string Tryd.underlying9 (hval 3 9 v3 rfl rfl) h3
  obtain ⟨a4, rfl, rfl, rfl, w4⟩ := open_string Tryd.underlying9 (hval 4 9 v4 rfl rfl) h4
  obtain ⟨a5, rfl, rfl, rfl, w5⟩ := open_string Tryd.underlying9 (hval 5 9 v5 rfl rfl) h5
  clear hA0
  simp only [List.append_nil] at hW'
  refine (walk a0 w0 a1 w1 a2 w2 a3 w3 a4 w4 a5 w5 W (cols_of hL)).mono fun e W' ⟨he, hg⟩ => ?_
  subst he
  exact ⟨_, rfl, _, _, _, [], _, [], hW', trodAll_cons_mk (shut_bool Tryd.underlying4 _) trodAll_mk0, (trodAll_cons_mk (shut_string Tryd.underlying9 w0) (trodAll_cons_mk (shut_string Tryd.underlying9 w1) (trodAll_cons_mk (shut_string Tryd.underlying9 w2) (trodAll_cons_mk (shut_string Tryd.underlying9 w3) (trodAll_cons_mk (shut_string Tryd.underlying9 w4) (trodAll_cons_mk (shut_string Tryd.underlying9 w5) trodAll_mk0)))))), rfl, hg.frame _, fun h => by cases h⟩
theorem laid_met (os : Os) : laidMet Tryd.prog Rows.headColumnsRow.laid (({ (World.holding Tryd.prog os ⟨#[], #[], []⟩) with heap := ((((World.holding Tryd.prog os ⟨#[], #[], []⟩).heap.modify 3 fun
      | .cells _ t frozen => .cells #[.int .u8 128, .int .u8 191, .int .u8 160, .int .u8 191, .int .u8 128, .int .u8 159, .int .u8 144, .int .u8 191, .int .u8 128, .int .u8 143, .int .u8 0, .int .u8 0, .int .u8 0, .int .u8 0, .int .u8 0, .int .u8 0, .int .u8 0, .int .u8 0, .int .u8 0, .int .u8 0, .int .u8 0, .int .u8 0, .int .u8 0, .int .u8 0, .int .u8 0, .int .u8 0, .int .u8 0, .int .u8 0, .int .u8 0, .int .u8 0, .int .u8 0, .int .u8 0] t frozen
      | o => o).modify 0 fun
      | .cells _ t frozen => .cells #[.int .i64 0, .int .i64 16, .int .i64 0, .int .i64 16, .int .i64 12, .int .i64 10, .int .i64 28, .int .i64 6, .int .i64 10, .int .i64 34, .int .i64 6, .int .i64 10, .int .i64 40, .int .i64 8, .int .i64 8, .int .i64 48, .int .i64 10, .int .i64 10, .int .i64 58, .int .i64 2, .int .i64 0] t frozen
      | o => o).modify 2 fun
      | .cells _ t frozen => .cells (Go.Pinned.utf8FirstZ.map fun (n : Nat) => Value.int .u8 n).toArray t frozen
      | o => o) } : World).forCall (fun _ _ => 0) ⟨#[], #[.string ByteArray.empty, .string ByteArray.empty, .string ByteArray.empty, .string ByteArray.empty, .string ByteArray.empty, .string ByteArray.empty], []⟩).memory :=
  laidMet_of_run' 8 (by kernel_rfl) (by kernel_rfl)
theorem reads (os : Os) {H : Type} (enc : TypeId × Value → H) : ∃ places, DataW.whole enc Tryd.prog (({ (World.holding Tryd.prog os ⟨#[], #[], []⟩) with heap := ((((World.holding Tryd.prog os ⟨#[], #[], []⟩).heap.modify 3 fun
      | .cells _ t frozen => .cells #[.int .u8 128, .int .u8 191, .int .u8 160, .int .u8 191, .int .u8 128, .int .u8 159, .int .u8 144, .int .u8 191, .int .u8 128, .int .u8 143, .int .u8 0, .int .u8 0, .int .u8 0, .int .u8 0, .int .u8 0, .int .u8 0, .int .u8 0, .int .u8 0, .int .u8 0, .int .u8 0, .int .u8 0, .int .u8 0, .int .u8 0, .int .u8 0, .int .u8 0, .int .u8 0, .int .u8 0, .int .u8 0, .int .u8 0, .int .u8 0, .int .u8 0, .int .u8 0] t frozen
      | o => o).modify 0 fun
      | .cells _ t frozen => .cells #[.int .i64 0, .int .i64 16, .int .i64 0, .int .i64 16, .int .i64 12, .int .i64 10, .int .i64 28, .int .i64 6, .int .i64 10, .int .i64 34, .int .i64 6, .int .i64 10, .int .i64 40, .int .i64 8, .int .i64 8, .int .i64 48, .int .i64 10, .int .i64 10, .int .i64 58, .int .i64 2, .int .i64 0] t frozen
      | o => o).modify 2 fun
      | .cells _ t frozen => .cells (Go.Pinned.utf8FirstZ.map fun (n : Nat) => Value.int .u8 n).toArray t frozen
      | o => o) } : World).forCall (fun _ _ => 0) ⟨#[], #[.string ByteArray.empty, .string ByteArray.empty, .string ByteArray.empty, .string ByteArray.empty, .string ByteArray.empty, .string ByteArray.empty], []⟩).memory Tryd.f4.params.toList Rows.headColumnsSpec.vars false (#[.string ByteArray.empty, .string ByteArray.empty, .string ByteArray.empty, .string ByteArray.empty, .string ByteArray.empty, .string ByteArray.empty] : Array Value).toList 8 = some ([.lit (.string []), .lit (.string []), .lit (.string []), .lit (.string []), .lit (.string []), .lit (.string [])], [], places) :=
  ⟨[], by kernel_rfl⟩
set_option maxRecDepth 100000 in
theorem lifted (os : Os) (started : os.Started) (H : Type) (enc : TypeId × Value → H) (F : Stop.Interp) :
    ReturnsInHanded {} Tryd.checked os 4 .any ((OpenSpec.ofChange Rows.headColumnsSpec).preRow enc Tryd.prog Tryd.f4 Rows.headColumnsRow.domain false Rows.headColumnsRow.laid) (((OpenSpec.ofChange Rows.headColumnsSpec).at F).post enc Tryd.prog Tryd.f4 false true false false) := by
  obtain ⟨places, hx⟩ := reads os enc
  refine returnsInHanded_of_row (C := Tryd.checked) (s := (OpenSpec.ofChange Rows.headColumnsSpec)) own started (by kernel_rfl) Tryd.func4
    (witness_row_at (enc := enc) (C := Tryd.checked) false ({ (World.holding Tryd.prog os ⟨#[], #[], []⟩) with heap := ((((World.holding Tryd.prog os ⟨#[], #[], []⟩).heap.modify 3 fun
      | .cells _ t frozen => .cells #[.int .u8 128, .int .u8 191, .int .u8 160, .int .u8 191, .int .u8 128, .int .u8 159, .int .u8 144, .int .u8 191, .int .u8 128, .int .u8 143, .int .u8 0, .int .u8 0, .int .u8 0, .int .u8 0, .int .u8 0, .int .u8 0, .int .u8 0, .int .u8 0, .int .u8 0, .int .u8 0, .int .u8 0, .int .u8 0, .int .u8 0, .int .u8 0, .int .u8 0, .int .u8 0, .int .u8 0, .int .u8 0, .int .u8 0, .int .u8 0, .int .u8 0, .int .u8 0] t frozen
      | o => o).modify 0 fun
      | .cells _ t frozen => .cells #[.int .i64 0, .int .i64 16, .int .i64 0, .int .i64 16, .int .i64 12, .int .i64 10, .int .i64 28, .int .i64 6, .int .i64 10, .int .i64 34, .int .i64 6, .int .i64 10, .int .i64 40, .int .i64 8, .int .i64 8, .int .i64 48, .int .i64 10, .int .i64 10, .int .i64 58, .int .i64 2, .int .i64 0] t frozen
      | o => o).modify 2 fun
      | .cells _ t frozen => .cells (Go.Pinned.utf8FirstZ.map fun (n : Nat) => Value.int .u8 n).toArray t frozen
      | o => o) } : World) #[.string ByteArray.empty, .string ByteArray.empty, .string ByteArray.empty, .string ByteArray.empty, .string ByteArray.empty, .string ByteArray.empty] rfl (by kernel_rfl) (by kernel_rfl) (by kernel_rfl)
      (OpenSpec.preRow_of_cond 8 hx (by kernel_rfl) (fun k hk => by cases hk) (by kernel_rfl) (laid_met os))) ?_
  intro W base args ds gs before hval hW _ _ _ hL _ _
  exact contract H enc W base args ds gs before hval hW hL
theorem said : Rows.HeadColumnsSaid :=
  OpenClaim.holds_of_cond 4 Tryd.f4 rfl rfl rfl rfl rfl rfl rfl ⟨rfl, rfl, rfl, rfl, rfl⟩ rfl rfl rfl rfl rfl (by kernel_rfl) Tryd.func4 (by kernel_rfl)
    (of_decide_eq_true (by kernel_rfl)) (by unfold Func.isWrapper; first | (rw [if_pos (by decide +kernel)]; kernel_rfl) | (rw [if_neg (by decide +kernel)]; exact ⟨rfl, rfl⟩))
    (fun os started H enc _ F => by rw [OpenClaim.pre_eq_preRow]; exact lifted os started H enc F)
theorem plain (f : FuncId) (fn : Func) (hf : Tryd.pinned.checked.prog.funcNamed "shelf/shelflaw7.HeadColumns" = some f) (hfn : Tryd.pinned.checked.prog.funcs[f]? = some fn) :
    false = Tryd.pinned.checked.prog.looks [] ∧ ∀ (j : Nat) t, fn.params[j]? = some t → Tryd.pinned.checked.prog.wantsStandIn t = false := by
  obtain rfl : f = 4 := Option.some.inj ((show Tryd.prog.funcNamed "shelf/shelflaw7.HeadColumns" = some 4 by kernel_rfl).symm.trans hf) |>.symm
  obtain rfl : fn = Tryd.f4 := (Option.some.inj (Tryd.func4.symm.trans hfn)).symm
  refine ⟨by kernel_rfl, fun j t ht => ?_⟩
  rw [Tryd.params4] at ht
  have hmem := Array.mem_of_getElem? ht
  have s9 : Tryd.pinned.checked.prog.wantsStandIn 9 = false := by kernel_rfl
  have s3 : Tryd.pinned.checked.prog.wantsStandIn 3 = false := by kernel_rfl
  have sH : Tryd.pinned.checked.prog.wantsStandIn 25 = false := by kernel_rfl
  simp at hmem
  first
    | (rcases hmem with rfl | rfl | rfl <;> assumption)
    | (rcases hmem with rfl | rfl <;> assumption)
    | (subst hmem; assumption)
theorem card : Rows.HeadColumnsCardSaid :=
  Claim7.holds_tied_plain_at .later [] _ _ _ _ said (fun _ h => by cases h) (by kernel_rfl) (fun _ h => by cases h) headColumns_row_tie rfl ⟨rfl, rfl⟩ (by kernel_rfl) rfl plain (by kernel_rfl)
end Go.Proofs.YtbkfkanknfdelaaDoor.headColumns
namespace Go.Proofs.YtbkfkanknfdelaaDoor
theorem headColumns_holds : Rows.HeadColumnsCardSaid := headColumns.card
#print axioms headColumns_holds
end Go.Proofs.YtbkfkanknfdelaaDoor
