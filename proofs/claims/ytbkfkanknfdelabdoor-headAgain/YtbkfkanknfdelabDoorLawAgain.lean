
-- Proof of the given card about HeadAgain. The frame follows the guide's toy for a law over a table; the walk and the lemmas are ours.
import Derived.Test.YtbkfkanknfdelabDoorCards
import Derived.Test.YtbkfkanknfdelabDoorTie
import Derived.Test.YtbkfkanknfdelabDoorW4
import Derived.Test.YtbkfkanknfdelabDoorW5
import Derived.Test.YtbkfkanknfdelabDoorW6
import Derived.Test.YtbkfkanknfdelabDoorO3
import Derived.Test.YtbkfkanknfdelabDoorQ2
import Derived.Test.YtbkfkanknfdelabDoorZ1
import Derived.WalkKit
import Derived.ProofKit
import Derived.OpenShut
import Derived.ShutString
import Derived.ChangeOld
import Derived.Below
import Derived.Deep.DeepHandedRow
import Derived.Stop.LaidErr
import Derived.BigRegion
import Derived.RegionTactic
namespace Go.Proofs.YtbkfkanknfdelabDoor.headAgain
open Go.ChangeShapes Go.WideShapes Go.ChangeAt Go.RowKit
open Go.ChangeMaps (open_string shut_string)
set_option linter.unusedVariables false
set_option maxRecDepth 100000

theorem own : ownKnob Tryd.prog.godebug = none := by kernel_rfl
theorem laidOut : laidOutB Tryd.prog = true := by kernel_rfl
theorem laid_is {W : World} (h : laidMetH Tryd.prog Rows.headAgainRow.laid W) : laidMet Tryd.prog [("math/bits.deBruijn32tab", Rows.laid_math_bits_deBruijn32tab), ("math/bits.deBruijn64tab", Rows.laid_math_bits_deBruijn64tab), ("internal/strconv.uint64pow10", Rows.laid_internal_strconv_uint64pow10), ("unicode/utf8.acceptRanges", Rows.laid_unicode_utf8_acceptRanges), ("shelf/head.columns", Rows.laid_shelf_head_columns), ("unicode/utf8.first", Rows.laid_unicode_utf8_first)] W := h
theorem cols_of {W : World} (h : laidMetH Tryd.prog Rows.headAgainRow.laid W) : Cols W := cols_of_head (laid_is h).tail.tail.tail.tail
theorem tabs_of {W : World} (h : laidMetH Tryd.prog Rows.headAgainRow.laid W) : Tabs W := tabs_of_heads (laid_is h).tail (laid_is h).tail.tail
theorem no (d u g m s c i : Int) (n : ByteArray) (w : World) (HI : Hid (∀ w, Calls Tryd.prog 5 #[.agg #[.int .i64 d, .int .i64 u, .int .i64 g, .int .i64 m, .string n, .int .i64 s]] w fun e w' => e = .returned (.bool false) ∧ Below w.heap.size w w')) : Calls Tryd.prog 3 #[.agg #[.int .i64 d, .int .i64 u, .int .i64 g, .int .i64 m, .string n, .int .i64 s], .int .i64 i, .int .i64 c] w fun e w' => e = .returned (.bool true) ∧ Below w.heap.size w w' := by
  have hB0 : Below w.heap.size w (w.alloc (.cells #[.int .i64 d, .int .i64 u, .int .i64 g, .int .i64 m, .string n, .int .i64 s] 25)) := bup (Below.refl _ _) _
  have hr0 := heap_alloc_new w (.cells #[.int .i64 d, .int .i64 u, .int .i64 g, .int .i64 m, .string n, .int .i64 s] 25)
  go_enter Tryd.func3, Tryd.ntmps3
  go_wp2_with (first | (go_at_call 5; refine (HI.out _).mono ?_; rintro e w1 ⟨rfl, hb1⟩; have hr1 := hkeep hb1 hr0; have hB1 := bel3 hB0 hb1) | (refine wpList_load_row rfl _ _ rfl w.heap.size rfl _ _ _ _ hr1 Tryd.underlying25 rfl (by kernel_rfl) ?_))
  go_ret
  exact ⟨rfl, hB1⟩
set_option maxHeartbeats 4000000 in
theorem refused (d u g m s c i : Int) (k : Nat) (n T P Q : ByteArray) (w : World) (hz : T.size = 60) (hi : (i = k ∧ k ≤ 57) ∨ ((i < 0 ∨ 57 < i) ∧ k = 0)) (HC : Hid (Cols w)) (HT : Hid (Tabs w)) (HI : Hid (∀ w, Calls Tryd.prog 5 #[.agg #[.int .i64 d, .int .i64 u, .int .i64 g, .int .i64 m, .string n, .int .i64 s]] w fun e w' => e = .returned (.bool true) ∧ Below w.heap.size w w')) (HF : Hid (∀ w, Cols w → Tabs w → Calls Tryd.prog 6 #[.agg #[.int .i64 d, .int .i64 u, .int .i64 g, .int .i64 m, .string n, .int .i64 s]] w fun e w' => e = .returned (.tuple #[.string T, .int .i64 0]) ∧ Below w.heap.size w w'))
    (s1 : ∀ w, (Instr.slice 9 (.string T) none (some (.int .i64 (k : Int))) none).run Tryd.prog w = .ok (.string P) w) (s2 : ∀ w, (Instr.slice 9 (.string T) (some (.int .i64 ((k : Int) + 1))) none none).run Tryd.prog w = .ok (.string Q) w)
    (pz : P.size = k) (qz : Q.size = 59 - k) (X : ByteArray) (xz : X.size = 1) (HX : Hid (∀ w : World, (convert 30 9 (.slice (some ⟨w.heap.size, 0, none⟩) 1 1)).run Tryd.prog ((w.alloc (.cells #[.int .u8 (c % 256)] 5)).drew) = .ok (.string X) ((w.alloc (.cells #[.int .u8 (c % 256)] 5)).drew))) (h16 : 16 ≤ k)
    (HP : Hid (∀ w, Cols w → Calls Tryd.prog 7 #[.string (P ++ X ++ Q), .int .i64 0] w fun e w' => e = .returned (.tuple #[.agg #[.int .i64 0, .int .i64 0, .int .i64 0, .int .i64 0, .string ⟨#[]⟩, .int .i64 0], .int .i64 72]) ∧ Below w.heap.size w w')) : Calls Tryd.prog 3 #[.agg #[.int .i64 d, .int .i64 u, .int .i64 g, .int .i64 m, .string n, .int .i64 s], .int .i64 i, .int .i64 c] w fun e w' => e = .returned (.bool true) ∧ Below w.heap.size w w' := by
  have hE := eqHd 0 0 0 0 ⟨#[]⟩ 0
  have b3 : decide ((16 : Int) ≤ (k : Int)) = true := by simp; omega
  have c1 : (P ++ X).size = k + 1 := by rw [ByteArray.size_append, pz, xz]
  have c2 : (P ++ X ++ Q).size = 60 := by rw [ByteArray.size_append, c1, qz]; rcases hi with hi | hi <;> omega
  have hwr : IntKind.i64.wrap ((k : Int) + 1) = (k : Int) + 1 := by rw [IntKind.wrap_i64]; rcases hi with hi | hi <;> omega
  rcases hi with ⟨rfl, hk⟩ | ⟨hi, rfl⟩
  · have b1 : decide ((k : Int) < 0) = false := by simp
    have b2 : decide ((57 : Int) < (k : Int)) = false := by simp; omega
    have hB0 : Below w.heap.size w (w.alloc (.cells #[.int .i64 d, .int .i64 u, .int .i64 g, .int .i64 m, .string n, .int .i64 s] 25)) := bup (Below.refl _ _) _
    have hr0 := heap_alloc_new w (.cells #[.int .i64 d, .int .i64 u, .int .i64 g, .int .i64 m, .string n, .int .i64 s] 25)
    go_enter Tryd.func3, Tryd.ntmps3
    go_wp2_with (first | (go_at_call 5; refine (HI.out _).mono ?_; rintro e w1 ⟨rfl, hb1⟩; have hr1 := hkeep hb1 hr0; have hB1 := bel3 hB0 hb1) | (go_at_call 6; refine (HF.out _ (HC.out.on hB1) (HT.out.on hB1)).mono ?_; rintro e w2 ⟨rfl, hb2⟩; have hB2 := bel3 hB1 hb2) | (refine wpList_load_row rfl _ _ rfl w.heap.size rfl _ _ _ _ hr1 Tryd.underlying25 rfl (by kernel_rfl) ?_))
    have hcv := HX.out w2
    go_region
    all_goals
      go_wp2_with (first
        | (go_at_call 7; refine (HP.out _ (HC.out.on (Below.drew (bup hB2 _)))).mono ?_; rintro e w3 ⟨rfl, hb3⟩; have hB3 := bup (bel3 (Below.drew (bup hB2 _)) hb3) (.cells #[.int .i64 0, .int .i64 0, .int .i64 0, .int .i64 0, .string ⟨#[]⟩, .int .i64 0] 25)))
      go_ret
      exact ⟨by simp, hB3⟩
  · exact absurd h16 (by omega)
set_option maxHeartbeats 4000000 in
theorem again (d u g m s c i : Int) (k : Nat) (n T P Q : ByteArray) (w : World) (hz : T.size = 60) (hi : (i = k ∧ k ≤ 57) ∨ ((i < 0 ∨ 57 < i) ∧ k = 0)) (HC : Hid (Cols w)) (HT : Hid (Tabs w)) (HI : Hid (∀ w, Calls Tryd.prog 5 #[.agg #[.int .i64 d, .int .i64 u, .int .i64 g, .int .i64 m, .string n, .int .i64 s]] w fun e w' => e = .returned (.bool true) ∧ Below w.heap.size w w')) (HF : Hid (∀ w, Cols w → Tabs w → Calls Tryd.prog 6 #[.agg #[.int .i64 d, .int .i64 u, .int .i64 g, .int .i64 m, .string n, .int .i64 s]] w fun e w' => e = .returned (.tuple #[.string T, .int .i64 0]) ∧ Below w.heap.size w w'))
    (s1 : ∀ w, (Instr.slice 9 (.string T) none (some (.int .i64 (k : Int))) none).run Tryd.prog w = .ok (.string P) w) (s2 : ∀ w, (Instr.slice 9 (.string T) (some (.int .i64 ((k : Int) + 1))) none none).run Tryd.prog w = .ok (.string Q) w)
    (pz : P.size = k) (qz : Q.size = 59 - k) (X : ByteArray) (xz : X.size = 1) (HX : Hid (∀ w : World, (convert 30 9 (.slice (some ⟨w.heap.size, 0, none⟩) 1 1)).run Tryd.prog ((w.alloc (.cells #[.int .u8 (c % 256)] 5)).drew) = .ok (.string X) ((w.alloc (.cells #[.int .u8 (c % 256)] 5)).drew))) (kd ku kg km ks : Int) (kn T2 : ByteArray)
    (HP : Hid (∀ w, Cols w → Calls Tryd.prog 7 #[.string (P ++ X ++ Q), .int .i64 0] w fun e w' => e = .returned (.tuple #[.agg #[.int .i64 kd, .int .i64 ku, .int .i64 kg, .int .i64 km, .string kn, .int .i64 ks], .int .i64 0]) ∧ Below w.heap.size w w'))
    (HF2 : Hid (∀ w, Cols w → Tabs w → Calls Tryd.prog 6 #[.agg #[.int .i64 kd, .int .i64 ku, .int .i64 kg, .int .i64 km, .string kn, .int .i64 ks]] w fun e w' => e = .returned (.tuple #[.string T2, .int .i64 0]) ∧ Below w.heap.size w w'))
    (H2 : Hid (∀ w, Cols w → Calls Tryd.prog 7 #[.string T2, .int .i64 0] w fun e w' => e = .returned (.tuple #[.agg #[.int .i64 kd, .int .i64 ku, .int .i64 kg, .int .i64 km, .string kn, .int .i64 ks], .int .i64 0]) ∧ Below w.heap.size w w')) : Calls Tryd.prog 3 #[.agg #[.int .i64 d, .int .i64 u, .int .i64 g, .int .i64 m, .string n, .int .i64 s], .int .i64 i, .int .i64 c] w fun e w' => e = .returned (.bool true) ∧ Below w.heap.size w w' := by
  have hE := eqHd kd ku kg km kn ks
  have c1 : (P ++ X).size = k + 1 := by rw [ByteArray.size_append, pz, xz]
  have c2 : (P ++ X ++ Q).size = 60 := by rw [ByteArray.size_append, c1, qz]; rcases hi with hi | hi <;> omega
  have hwr : IntKind.i64.wrap ((k : Int) + 1) = (k : Int) + 1 := by rw [IntKind.wrap_i64]; rcases hi with hi | hi <;> omega
  rcases hi with ⟨rfl, hk⟩ | ⟨hi, rfl⟩
  · have b1 : decide ((k : Int) < 0) = false := by simp
    have b2 : decide ((57 : Int) < (k : Int)) = false := by simp; omega
    have hB0 : Below w.heap.size w (w.alloc (.cells #[.int .i64 d, .int .i64 u, .int .i64 g, .int .i64 m, .string n, .int .i64 s] 25)) := bup (Below.refl _ _) _
    have hr0 := heap_alloc_new w (.cells #[.int .i64 d, .int .i64 u, .int .i64 g, .int .i64 m, .string n, .int .i64 s] 25)
    go_enter Tryd.func3, Tryd.ntmps3
    go_wp2_with (first | (go_at_call 5; refine (HI.out _).mono ?_; rintro e w1 ⟨rfl, hb1⟩; have hr1 := hkeep hb1 hr0; have hB1 := bel3 hB0 hb1) | (go_at_call 6; refine (HF.out _ (HC.out.on hB1) (HT.out.on hB1)).mono ?_; rintro e w2 ⟨rfl, hb2⟩; have hB2 := bel3 hB1 hb2) | (refine wpList_load_row rfl _ _ rfl w.heap.size rfl _ _ _ _ hr1 Tryd.underlying25 rfl (by kernel_rfl) ?_))
    have hcv := HX.out w2
    go_region
    all_goals
      go_wp2_with (first
        | (go_at_call 6; refine (HF2.out _ (HC.out.on hB5) (HT.out.on hB5)).mono ?_; rintro e w6 ⟨rfl, hb6⟩; have hk6 := hkeep hb6 hk5; have hl6 := hkeep hb6 hl5; have hB6 := bel3 hB5 hb6; obtain ⟨y0, y1, y2, y3, y4, y5⟩ := RowB.cells ⟨hk6⟩; obtain ⟨z0, z1, z2, z3, z4, z5⟩ := RowB.cells ⟨hl6⟩)
        | (go_at_call 6; refine (HF2.out _ (HC.out.on hB3) (HT.out.on hB3)).mono ?_; rintro e w4 ⟨rfl, hb4⟩; have hk4 := hkeep hb4 hk3; have hB4 := bel3 hB3 hb4)
        | (go_at_call 7; refine (H2.out _ (HC.out.on hB4)).mono ?_; rintro e w5 ⟨rfl, hb5⟩; have hk5 := hup (hkeep hb5 hk4) (.cells #[.int .i64 kd, .int .i64 ku, .int .i64 kg, .int .i64 km, .string kn, .int .i64 ks] 25); have hl5 := heap_alloc_new w5 (.cells #[.int .i64 kd, .int .i64 ku, .int .i64 kg, .int .i64 km, .string kn, .int .i64 ks] 25); have hB5 := bup (bel3 hB4 hb5) (.cells #[.int .i64 kd, .int .i64 ku, .int .i64 kg, .int .i64 km, .string kn, .int .i64 ks] 25))
        | (go_at_call 7; refine (HP.out _ (HC.out.on (Below.drew (bup hB2 _)))).mono ?_; rintro e w3 ⟨rfl, hb3⟩; have hk3 := heap_alloc_new w3 (.cells #[.int .i64 kd, .int .i64 ku, .int .i64 kg, .int .i64 km, .string kn, .int .i64 ks] 25); have hB3 := bup (bel3 (Below.drew (bup hB2 _)) hb3) (.cells #[.int .i64 kd, .int .i64 ku, .int .i64 kg, .int .i64 km, .string kn, .int .i64 ks] 25)))
      go_ret
      exact ⟨by simp, hB6⟩
  · have hwr0 : IntKind.i64.wrap (0 + 1) = 1 := by decide
    simp only [Int.natCast_zero, Int.zero_add] at *
    by_cases h0 : i < 0
    · have b1 : decide (i < 0) = true := by simp; omega
      have hB0 : Below w.heap.size w (w.alloc (.cells #[.int .i64 d, .int .i64 u, .int .i64 g, .int .i64 m, .string n, .int .i64 s] 25)) := bup (Below.refl _ _) _
      have hr0 := heap_alloc_new w (.cells #[.int .i64 d, .int .i64 u, .int .i64 g, .int .i64 m, .string n, .int .i64 s] 25)
      go_enter Tryd.func3, Tryd.ntmps3
      go_wp2_with (first | (go_at_call 5; refine (HI.out _).mono ?_; rintro e w1 ⟨rfl, hb1⟩; have hr1 := hkeep hb1 hr0; have hB1 := bel3 hB0 hb1) | (go_at_call 6; refine (HF.out _ (HC.out.on hB1) (HT.out.on hB1)).mono ?_; rintro e w2 ⟨rfl, hb2⟩; have hB2 := bel3 hB1 hb2) | (refine wpList_load_row rfl _ _ rfl w.heap.size rfl _ _ _ _ hr1 Tryd.underlying25 rfl (by kernel_rfl) ?_))
      have hcv := HX.out w2
      go_region
      all_goals
        go_wp2_with (first
          | (go_at_call 6; refine (HF2.out _ (HC.out.on hB5) (HT.out.on hB5)).mono ?_; rintro e w6 ⟨rfl, hb6⟩; have hk6 := hkeep hb6 hk5; have hl6 := hkeep hb6 hl5; have hB6 := bel3 hB5 hb6; obtain ⟨y0, y1, y2, y3, y4, y5⟩ := RowB.cells ⟨hk6⟩; obtain ⟨z0, z1, z2, z3, z4, z5⟩ := RowB.cells ⟨hl6⟩)
          | (go_at_call 6; refine (HF2.out _ (HC.out.on hB3) (HT.out.on hB3)).mono ?_; rintro e w4 ⟨rfl, hb4⟩; have hk4 := hkeep hb4 hk3; have hB4 := bel3 hB3 hb4)
          | (go_at_call 7; refine (H2.out _ (HC.out.on hB4)).mono ?_; rintro e w5 ⟨rfl, hb5⟩; have hk5 := hup (hkeep hb5 hk4) (.cells #[.int .i64 kd, .int .i64 ku, .int .i64 kg, .int .i64 km, .string kn, .int .i64 ks] 25); have hl5 := heap_alloc_new w5 (.cells #[.int .i64 kd, .int .i64 ku, .int .i64 kg, .int .i64 km, .string kn, .int .i64 ks] 25); have hB5 := bup (bel3 hB4 hb5) (.cells #[.int .i64 kd, .int .i64 ku, .int .i64 kg, .int .i64 km, .string kn, .int .i64 ks] 25))
          | (go_at_call 7; refine (HP.out _ (HC.out.on (Below.drew (bup hB2 _)))).mono ?_; rintro e w3 ⟨rfl, hb3⟩; have hk3 := heap_alloc_new w3 (.cells #[.int .i64 kd, .int .i64 ku, .int .i64 kg, .int .i64 km, .string kn, .int .i64 ks] 25); have hB3 := bup (bel3 (Below.drew (bup hB2 _)) hb3) (.cells #[.int .i64 kd, .int .i64 ku, .int .i64 kg, .int .i64 km, .string kn, .int .i64 ks] 25)))
        go_ret
        exact ⟨by simp, hB6⟩
    · have b1 : decide (i < 0) = false := by simp; omega
      have b2 : decide ((57 : Int) < i) = true := by simp; omega
      have hB0 : Below w.heap.size w (w.alloc (.cells #[.int .i64 d, .int .i64 u, .int .i64 g, .int .i64 m, .string n, .int .i64 s] 25)) := bup (Below.refl _ _) _
      have hr0 := heap_alloc_new w (.cells #[.int .i64 d, .int .i64 u, .int .i64 g, .int .i64 m, .string n, .int .i64 s] 25)
      go_enter Tryd.func3, Tryd.ntmps3
      go_wp2_with (first | (go_at_call 5; refine (HI.out _).mono ?_; rintro e w1 ⟨rfl, hb1⟩; have hr1 := hkeep hb1 hr0; have hB1 := bel3 hB0 hb1) | (go_at_call 6; refine (HF.out _ (HC.out.on hB1) (HT.out.on hB1)).mono ?_; rintro e w2 ⟨rfl, hb2⟩; have hB2 := bel3 hB1 hb2) | (refine wpList_load_row rfl _ _ rfl w.heap.size rfl _ _ _ _ hr1 Tryd.underlying25 rfl (by kernel_rfl) ?_))
      have hcv := HX.out w2
      go_region
      all_goals
        go_wp2_with (first
          | (go_at_call 6; refine (HF2.out _ (HC.out.on hB5) (HT.out.on hB5)).mono ?_; rintro e w6 ⟨rfl, hb6⟩; have hk6 := hkeep hb6 hk5; have hl6 := hkeep hb6 hl5; have hB6 := bel3 hB5 hb6; obtain ⟨y0, y1, y2, y3, y4, y5⟩ := RowB.cells ⟨hk6⟩; obtain ⟨z0, z1, z2, z3, z4, z5⟩ := RowB.cells ⟨hl6⟩)
          | (go_at_call 6; refine (HF2.out _ (HC.out.on hB3) (HT.out.on hB3)).mono ?_; rintro e w4 ⟨rfl, hb4⟩; have hk4 := hkeep hb4 hk3; have hB4 := bel3 hB3 hb4)
          | (go_at_call 7; refine (H2.out _ (HC.out.on hB4)).mono ?_; rintro e w5 ⟨rfl, hb5⟩; have hk5 := hup (hkeep hb5 hk4) (.cells #[.int .i64 kd, .int .i64 ku, .int .i64 kg, .int .i64 km, .string kn, .int .i64 ks] 25); have hl5 := heap_alloc_new w5 (.cells #[.int .i64 kd, .int .i64 ku, .int .i64 kg, .int .i64 km, .string kn, .int .i64 ks] 25); have hB5 := bup (bel3 hB4 hb5) (.cells #[.int .i64 kd, .int .i64 ku, .int .i64 kg, .int .i64 km, .string kn, .int .i64 ks] 25))
          | (go_at_call 7; refine (HP.out _ (HC.out.on (Below.drew (bup hB2 _)))).mono ?_; rintro e w3 ⟨rfl, hb3⟩; have hk3 := heap_alloc_new w3 (.cells #[.int .i64 kd, .int .i64 ku, .int .i64 kg, .int .i64 km, .string kn, .int .i64 ks] 25); have hB3 := bup (bel3 (Below.drew (bup hB2 _)) hb3) (.cells #[.int .i64 kd, .int .i64 ku, .int .i64 kg, .int .i64 km, .string kn, .int .i64 ks] 25)))
        go_ret
        exact ⟨by simp, hB6⟩

theorem walk (a0 : Hd) (w0 : HdOk a0) (a1 : Int) (w1 : (Lit.int .i64 a1).wf = true) (a2 : Int) (w2 : (Lit.int .i64 a2).wf = true) (w : World) (hC : Cols w) (hT : Tabs w) :
    Calls Tryd.prog 3 #[.agg (hdC a0), .int .i64 a1, .int .i64 a2] w fun e w' => e = .returned (.bool true) ∧ Below w.heap.size w w' := by
  have hI := fun w => fits_c a0 w w0
  by_cases ht : named a0.name.data.toList ∧ fitsH a0
  rotate_left
  · have e2 : takes a0 = false := decide_eq_false ht
    rw [e2] at hI
    exact no a0.date a0.uid a0.gid a0.mode a0.size a2 a1 a0.name w hI
  obtain ⟨hn, hf⟩ := ht
  have e2 : takes a0 = true := decide_eq_true ⟨hn, hf⟩
  rw [e2] at hI
  have hF := fun w hC hT => format_c a0 w hC hT w0
  have e1 : formatH a0 = (strL (formL a0), 0) := by unfold formatH; rw [if_pos hn, if_pos hf]
  rw [e1] at hF
  have hl := formL_len a0 hn hf
  have hz : (strL (formL a0)).size = 60 := by rw [strL_size]; exact hl
  obtain ⟨k, hi⟩ : ∃ k : Nat, (a1 = k ∧ k ≤ 57) ∨ ((a1 < 0 ∨ 57 < a1) ∧ k = 0) := by
    by_cases h : a1 < 0 ∨ 57 < a1
    · exact ⟨0, Or.inr ⟨h, rfl⟩⟩
    · exact ⟨a1.toNat, Or.inl ⟨by omega, by omega⟩⟩
  have hk : k ≤ 57 := by rcases hi with hi | hi <;> omega
  have s1 := slice_to (strL (formL a0)) k (by omega)
  have s2 := slice_from (strL (formL a0)) k (by omega)
  rw [strL_data] at s1 s2
  have hset := set_str (formL a0) k (byteOf a2) (by omega)
  have hz2 : (strL ((formL a0).set k (byteOf a2))).size = 60 := by rw [strL_size, List.length_set]; exact hl
  have HPx : ∀ w, Cols w → Calls Tryd.prog 7 #[.string (strL ((formL a0).take k) ++ strL [byteOf a2] ++ strL ((formL a0).drop (k + 1))), .int .i64 0] w fun e w' => e = .returned (.tuple #[hdV (parseH ((formL a0).set k (byteOf a2))).1, .int .i64 (parseH ((formL a0).set k (byteOf a2))).2]) ∧ Below w.heap.size w w' := fun w hC => by
    rw [hset]
    have h := parse_c (strL ((formL a0).set k (byteOf a2))) 0 w hC (by rw [hz2]; unfold maxLen; omega)
    rw [parse_zero _ hz2, strL_data] at h; exact h
  rcases set_parse a0 w0.inn hn hf k (byteOf a2) hk with ⟨hok, hp⟩ | ⟨h16, hp⟩
  · rw [hp] at HPx
    have hl2 : ((formL a0).set k (byteOf a2)).length = 60 := by rw [List.length_set]; exact hl
    have hko := hdOf_ok _ hl2
    obtain ⟨kf, kn⟩ := numOk_fits _ hl2 hok
    generalize hdOf ((formL a0).set k (byteOf a2)) = K at HPx hko kf kn
    have hF2 := fun w hC hT => format_c K w hC hT hko
    have e3 : formatH K = (strL (formL K), 0) := by unfold formatH; rw [if_pos kn, if_pos kf]
    rw [e3] at hF2
    have hlk : (strL (formL K)).size = 60 := by rw [strL_size]; exact formL_len K kn kf
    exact again a0.date a0.uid a0.gid a0.mode a0.size a2 a1 k a0.name (strL (formL a0)) _ _ w hz hi hC hT hI hF s1 s2 (by rw [strL_size, List.length_take]; omega) (by rw [strL_size, List.length_drop]; omega) (strL [byteOf a2]) (by rw [strL_size]; rfl) (fun w => convD w a2) K.date K.uid K.gid K.mode K.size K.name (strL (formL K)) HPx hF2 (fun w hC => by
      have h := parse_c (strL (formL K)) 0 w hC (by rw [hlk]; unfold maxLen; omega)
      rw [parse_zero _ hlk, strL_data, parse_format K hko.inn kn kf] at h
      exact h)
  · rw [hp] at HPx
    exact refused a0.date a0.uid a0.gid a0.mode a0.size a2 a1 k a0.name (strL (formL a0)) _ _ w hz hi hC hT hI hF s1 s2 (by rw [strL_size, List.length_take]; omega) (by rw [strL_size, List.length_drop]; omega) (strL [byteOf a2]) (by rw [strL_size]; rfl) (fun w => convD w a2) h16 HPx
theorem contract (H : Type) (enc : TypeId × Value → H) (W : World) (base : Nat) (args : Array Value) (ds gs : List (DataW H)) (before : List MemPlace)
    (hval : ∀ (j : Nat) t v, Tryd.f3.params[j]? = some t → args[j]? = some v → Value.okWide Tryd.prog W .any base t v)
    (hW : DataW.Whole enc Tryd.prog Tryd.f3.params.toList Rows.headAgainSpec.vars false W args.toList ds gs before) (hL : laidMetH Tryd.prog Rows.headAgainRow.laid W) :
    Calls Tryd.prog 3 args W fun e W' => ∃ v, e = .returned v ∧ Rows.headAgainSpec.post enc Tryd.prog Tryd.f3 false true false false W args v W' := by
  have hW' := hW
  obtain ⟨p, q, hA0, hV, rfl, hfz, hnd⟩ := hW
  have hA : DataW.TrodAll enc Tryd.prog W 0 (fun _ => true) true Tryd.f3.params.toList args.toList ds p := hA0
  rw [Tryd.params3] at hA hval
  obtain ⟨v0, vs0, d0, ds0, p0, q0, hargs, rfl, rfl, h0, r0⟩ := trodAll_cons hA
  obtain ⟨v1, vs1, d1, ds1, p1, q1, rfl, rfl, rfl, h1, r1⟩ := trodAll_cons r0
  obtain ⟨v2, vs2, d2, ds2, p2, q2, rfl, rfl, rfl, h2, r2⟩ := trodAll_cons r1
  obtain ⟨rfl, rfl, rfl⟩ := trodAll_nil r2
  obtain rfl : args = #[v0, v1, v2] := by have h := congrArg List.toArray hargs; rw [Array.toArray_toList] at h; exact h
  obtain ⟨rfl, rfl⟩ := trodVars_none hV
  have k0 := h0
  have lt0 : ∀ x ∈ p0, x.block < W.heap.size := by obtain ⟨m, hm⟩ := k0; exact DataW.trod_lt m _ _ _ hm
  obtain ⟨cs0, rfl, hcs0⟩ := okWide_struct Tryd.underlying25 (hval 0 25 v0 rfl rfl)
  obtain ⟨a0, rfl, w0⟩ := open_head h0
  obtain ⟨a1, rfl, rfl, rfl, w1⟩ := open_int Tryd.underlying3 (hval 1 3 v1 rfl rfl) h1
  obtain ⟨a2, rfl, rfl, rfl, w2⟩ := open_int Tryd.underlying3 (hval 2 3 v2 rfl rfl) h2
  clear hA0
  simp only [List.append_nil] at hW'
  refine (walk a0 w0 a1 w1 a2 w2 W (cols_of hL) (tabs_of hL)).mono fun e W' ⟨he, hg⟩ => ?_
  subst he
  exact ⟨_, rfl, _, _, _, [], _, [], hW', trodAll_cons_mk (shut_bool Tryd.underlying4 _) trodAll_mk0, (trodAll_cons_mk (Below.trod laidOut (by kernel_rfl) (of_decide_eq_true (by kernel_rfl)) k0 hg lt0) (trodAll_cons_mk (shut_int Tryd.underlying3 w1) (trodAll_cons_mk (shut_int Tryd.underlying3 w2) trodAll_mk0))), rfl, hg.frame _, fun h => by cases h⟩
theorem laid_met (os : Os) : laidMet Tryd.prog Rows.headAgainRow.laid (({ (World.holding Tryd.prog os ⟨#[], #[], []⟩) with heap := (((((((World.holding Tryd.prog os ⟨#[], #[], []⟩).heap.modify 5 fun
      | .cells _ t frozen => .cells #[.int .u8 0, .int .u8 1, .int .u8 28, .int .u8 2, .int .u8 29, .int .u8 14, .int .u8 24, .int .u8 3, .int .u8 30, .int .u8 22, .int .u8 20, .int .u8 15, .int .u8 25, .int .u8 17, .int .u8 4, .int .u8 8, .int .u8 31, .int .u8 27, .int .u8 13, .int .u8 23, .int .u8 21, .int .u8 19, .int .u8 16, .int .u8 7, .int .u8 26, .int .u8 12, .int .u8 18, .int .u8 6, .int .u8 11, .int .u8 5, .int .u8 10, .int .u8 9] t frozen
      | o => o).modify 6 fun
      | .cells _ t frozen => .cells #[.int .u8 0, .int .u8 1, .int .u8 56, .int .u8 2, .int .u8 57, .int .u8 49, .int .u8 28, .int .u8 3, .int .u8 61, .int .u8 58, .int .u8 42, .int .u8 50, .int .u8 38, .int .u8 29, .int .u8 17, .int .u8 4, .int .u8 62, .int .u8 47, .int .u8 59, .int .u8 36, .int .u8 45, .int .u8 43, .int .u8 51, .int .u8 22, .int .u8 53, .int .u8 39, .int .u8 33, .int .u8 30, .int .u8 24, .int .u8 18, .int .u8 12, .int .u8 5, .int .u8 63, .int .u8 55, .int .u8 48, .int .u8 27, .int .u8 60, .int .u8 41, .int .u8 37, .int .u8 16, .int .u8 46, .int .u8 35, .int .u8 44, .int .u8 21, .int .u8 52, .int .u8 32, .int .u8 23, .int .u8 11, .int .u8 54, .int .u8 26, .int .u8 40, .int .u8 15, .int .u8 34, .int .u8 20, .int .u8 31, .int .u8 10, .int .u8 25, .int .u8 14, .int .u8 19, .int .u8 9, .int .u8 13, .int .u8 8, .int .u8 7, .int .u8 6] t frozen
      | o => o).modify 4 fun
      | .cells _ t frozen => .cells #[.int .u64 1, .int .u64 10, .int .u64 100, .int .u64 1000, .int .u64 10000, .int .u64 100000, .int .u64 1000000, .int .u64 10000000, .int .u64 100000000, .int .u64 1000000000, .int .u64 10000000000, .int .u64 100000000000, .int .u64 1000000000000, .int .u64 10000000000000, .int .u64 100000000000000, .int .u64 1000000000000000, .int .u64 10000000000000000, .int .u64 100000000000000000, .int .u64 1000000000000000000, .int .u64 10000000000000000000] t frozen
      | o => o).modify 2 fun
      | .cells _ t frozen => .cells #[.int .u8 128, .int .u8 191, .int .u8 160, .int .u8 191, .int .u8 128, .int .u8 159, .int .u8 144, .int .u8 191, .int .u8 128, .int .u8 143, .int .u8 0, .int .u8 0, .int .u8 0, .int .u8 0, .int .u8 0, .int .u8 0, .int .u8 0, .int .u8 0, .int .u8 0, .int .u8 0, .int .u8 0, .int .u8 0, .int .u8 0, .int .u8 0, .int .u8 0, .int .u8 0, .int .u8 0, .int .u8 0, .int .u8 0, .int .u8 0, .int .u8 0, .int .u8 0] t frozen
      | o => o).modify 0 fun
      | .cells _ t frozen => .cells #[.int .i64 0, .int .i64 16, .int .i64 0, .int .i64 16, .int .i64 12, .int .i64 10, .int .i64 28, .int .i64 6, .int .i64 10, .int .i64 34, .int .i64 6, .int .i64 10, .int .i64 40, .int .i64 8, .int .i64 8, .int .i64 48, .int .i64 10, .int .i64 10, .int .i64 58, .int .i64 2, .int .i64 0] t frozen
      | o => o).modify 1 fun
      | .cells _ t frozen => .cells (Go.Pinned.utf8FirstZ.map fun (n : Nat) => Value.int .u8 n).toArray t frozen
      | o => o) } : World).forCall (fun _ _ => 0) ⟨#[], #[.agg #[.int .i64 0, .int .i64 0, .int .i64 0, .int .i64 0, .string ByteArray.empty, .int .i64 0], .int .i64 0, .int .i64 0], []⟩).memory :=
  laidMet_of_run' 8 (by kernel_rfl) (by kernel_rfl)
theorem reads (os : Os) {H : Type} (enc : TypeId × Value → H) : ∃ places, DataW.whole enc Tryd.prog (({ (World.holding Tryd.prog os ⟨#[], #[], []⟩) with heap := (((((((World.holding Tryd.prog os ⟨#[], #[], []⟩).heap.modify 5 fun
      | .cells _ t frozen => .cells #[.int .u8 0, .int .u8 1, .int .u8 28, .int .u8 2, .int .u8 29, .int .u8 14, .int .u8 24, .int .u8 3, .int .u8 30, .int .u8 22, .int .u8 20, .int .u8 15, .int .u8 25, .int .u8 17, .int .u8 4, .int .u8 8, .int .u8 31, .int .u8 27, .int .u8 13, .int .u8 23, .int .u8 21, .int .u8 19, .int .u8 16, .int .u8 7, .int .u8 26, .int .u8 12, .int .u8 18, .int .u8 6, .int .u8 11, .int .u8 5, .int .u8 10, .int .u8 9] t frozen
      | o => o).modify 6 fun
      | .cells _ t frozen => .cells #[.int .u8 0, .int .u8 1, .int .u8 56, .int .u8 2, .int .u8 57, .int .u8 49, .int .u8 28, .int .u8 3, .int .u8 61, .int .u8 58, .int .u8 42, .int .u8 50, .int .u8 38, .int .u8 29, .int .u8 17, .int .u8 4, .int .u8 62, .int .u8 47, .int .u8 59, .int .u8 36, .int .u8 45, .int .u8 43, .int .u8 51, .int .u8 22, .int .u8 53, .int .u8 39, .int .u8 33, .int .u8 30, .int .u8 24, .int .u8 18, .int .u8 12, .int .u8 5, .int .u8 63, .int .u8 55, .int .u8 48, .int .u8 27, .int .u8 60, .int .u8 41, .int .u8 37, .int .u8 16, .int .u8 46, .int .u8 35, .int .u8 44, .int .u8 21, .int .u8 52, .int .u8 32, .int .u8 23, .int .u8 11, .int .u8 54, .int .u8 26, .int .u8 40, .int .u8 15, .int .u8 34, .int .u8 20, .int .u8 31, .int .u8 10, .int .u8 25, .int .u8 14, .int .u8 19, .int .u8 9, .int .u8 13, .int .u8 8, .int .u8 7, .int .u8 6] t frozen
      | o => o).modify 4 fun
      | .cells _ t frozen => .cells #[.int .u64 1, .int .u64 10, .int .u64 100, .int .u64 1000, .int .u64 10000, .int .u64 100000, .int .u64 1000000, .int .u64 10000000, .int .u64 100000000, .int .u64 1000000000, .int .u64 10000000000, .int .u64 100000000000, .int .u64 1000000000000, .int .u64 10000000000000, .int .u64 100000000000000, .int .u64 1000000000000000, .int .u64 10000000000000000, .int .u64 100000000000000000, .int .u64 1000000000000000000, .int .u64 10000000000000000000] t frozen
      | o => o).modify 2 fun
      | .cells _ t frozen => .cells #[.int .u8 128, .int .u8 191, .int .u8 160, .int .u8 191, .int .u8 128, .int .u8 159, .int .u8 144, .int .u8 191, .int .u8 128, .int .u8 143, .int .u8 0, .int .u8 0, .int .u8 0, .int .u8 0, .int .u8 0, .int .u8 0, .int .u8 0, .int .u8 0, .int .u8 0, .int .u8 0, .int .u8 0, .int .u8 0, .int .u8 0, .int .u8 0, .int .u8 0, .int .u8 0, .int .u8 0, .int .u8 0, .int .u8 0, .int .u8 0, .int .u8 0, .int .u8 0] t frozen
      | o => o).modify 0 fun
      | .cells _ t frozen => .cells #[.int .i64 0, .int .i64 16, .int .i64 0, .int .i64 16, .int .i64 12, .int .i64 10, .int .i64 28, .int .i64 6, .int .i64 10, .int .i64 34, .int .i64 6, .int .i64 10, .int .i64 40, .int .i64 8, .int .i64 8, .int .i64 48, .int .i64 10, .int .i64 10, .int .i64 58, .int .i64 2, .int .i64 0] t frozen
      | o => o).modify 1 fun
      | .cells _ t frozen => .cells (Go.Pinned.utf8FirstZ.map fun (n : Nat) => Value.int .u8 n).toArray t frozen
      | o => o) } : World).forCall (fun _ _ => 0) ⟨#[], #[.agg #[.int .i64 0, .int .i64 0, .int .i64 0, .int .i64 0, .string ByteArray.empty, .int .i64 0], .int .i64 0, .int .i64 0], []⟩).memory Tryd.f3.params.toList Rows.headAgainSpec.vars false (#[.agg #[.int .i64 0, .int .i64 0, .int .i64 0, .int .i64 0, .string ByteArray.empty, .int .i64 0], .int .i64 0, .int .i64 0] : Array Value).toList 8 = some ([.agg [.agg [.lit (.int .i64 0), .lit (.int .i64 0), .lit (.int .i64 0), .lit (.int .i64 0)], .lit (.string []), .lit (.int .i64 0)], .lit (.int .i64 0), .lit (.int .i64 0)], [], places) :=
  ⟨[], by kernel_rfl⟩
set_option maxRecDepth 100000 in
theorem lifted (os : Os) (started : os.Started) (H : Type) (enc : TypeId × Value → H) (F : Stop.Interp) :
    ReturnsInHanded {} Tryd.checked os 3 .any ((OpenSpec.ofChange Rows.headAgainSpec).preRow enc Tryd.prog Tryd.f3 Rows.headAgainRow.domain false Rows.headAgainRow.laid) (((OpenSpec.ofChange Rows.headAgainSpec).at F).post enc Tryd.prog Tryd.f3 false true false false) := by
  obtain ⟨places, hx⟩ := reads os enc
  refine returnsInHanded_of_row (C := Tryd.checked) (s := (OpenSpec.ofChange Rows.headAgainSpec)) own started (by kernel_rfl) Tryd.func3
    (witness_row_at (enc := enc) (C := Tryd.checked) false ({ (World.holding Tryd.prog os ⟨#[], #[], []⟩) with heap := (((((((World.holding Tryd.prog os ⟨#[], #[], []⟩).heap.modify 5 fun
      | .cells _ t frozen => .cells #[.int .u8 0, .int .u8 1, .int .u8 28, .int .u8 2, .int .u8 29, .int .u8 14, .int .u8 24, .int .u8 3, .int .u8 30, .int .u8 22, .int .u8 20, .int .u8 15, .int .u8 25, .int .u8 17, .int .u8 4, .int .u8 8, .int .u8 31, .int .u8 27, .int .u8 13, .int .u8 23, .int .u8 21, .int .u8 19, .int .u8 16, .int .u8 7, .int .u8 26, .int .u8 12, .int .u8 18, .int .u8 6, .int .u8 11, .int .u8 5, .int .u8 10, .int .u8 9] t frozen
      | o => o).modify 6 fun
      | .cells _ t frozen => .cells #[.int .u8 0, .int .u8 1, .int .u8 56, .int .u8 2, .int .u8 57, .int .u8 49, .int .u8 28, .int .u8 3, .int .u8 61, .int .u8 58, .int .u8 42, .int .u8 50, .int .u8 38, .int .u8 29, .int .u8 17, .int .u8 4, .int .u8 62, .int .u8 47, .int .u8 59, .int .u8 36, .int .u8 45, .int .u8 43, .int .u8 51, .int .u8 22, .int .u8 53, .int .u8 39, .int .u8 33, .int .u8 30, .int .u8 24, .int .u8 18, .int .u8 12, .int .u8 5, .int .u8 63, .int .u8 55, .int .u8 48, .int .u8 27, .int .u8 60, .int .u8 41, .int .u8 37, .int .u8 16, .int .u8 46, .int .u8 35, .int .u8 44, .int .u8 21, .int .u8 52, .int .u8 32, .int .u8 23, .int .u8 11, .int .u8 54, .int .u8 26, .int .u8 40, .int .u8 15, .int .u8 34, .int .u8 20, .int .u8 31, .int .u8 10, .int .u8 25, .int .u8 14, .int .u8 19, .int .u8 9, .int .u8 13, .int .u8 8, .int .u8 7, .int .u8 6] t frozen
      | o => o).modify 4 fun
      | .cells _ t frozen => .cells #[.int .u64 1, .int .u64 10, .int .u64 100, .int .u64 1000, .int .u64 10000, .int .u64 100000, .int .u64 1000000, .int .u64 10000000, .int .u64 100000000, .int .u64 1000000000, .int .u64 10000000000, .int .u64 100000000000, .int .u64 1000000000000, .int .u64 10000000000000, .int .u64 100000000000000, .int .u64 1000000000000000, .int .u64 10000000000000000, .int .u64 100000000000000000, .int .u64 1000000000000000000, .int .u64 10000000000000000000] t frozen
      | o => o).modify 2 fun
      | .cells _ t frozen => .cells #[.int .u8 128, .int .u8 191, .int .u8 160, .int .u8 191, .int .u8 128, .int .u8 159, .int .u8 144, .int .u8 191, .int .u8 128, .int .u8 143, .int .u8 0, .int .u8 0, .int .u8 0, .int .u8 0, .int .u8 0, .int .u8 0, .int .u8 0, .int .u8 0, .int .u8 0, .int .u8 0, .int .u8 0, .int .u8 0, .int .u8 0, .int .u8 0, .int .u8 0, .int .u8 0, .int .u8 0, .int .u8 0, .int .u8 0, .int .u8 0, .int .u8 0, .int .u8 0] t frozen
      | o => o).modify 0 fun
      | .cells _ t frozen => .cells #[.int .i64 0, .int .i64 16, .int .i64 0, .int .i64 16, .int .i64 12, .int .i64 10, .int .i64 28, .int .i64 6, .int .i64 10, .int .i64 34, .int .i64 6, .int .i64 10, .int .i64 40, .int .i64 8, .int .i64 8, .int .i64 48, .int .i64 10, .int .i64 10, .int .i64 58, .int .i64 2, .int .i64 0] t frozen
      | o => o).modify 1 fun
      | .cells _ t frozen => .cells (Go.Pinned.utf8FirstZ.map fun (n : Nat) => Value.int .u8 n).toArray t frozen
      | o => o) } : World) #[.agg #[.int .i64 0, .int .i64 0, .int .i64 0, .int .i64 0, .string ByteArray.empty, .int .i64 0], .int .i64 0, .int .i64 0] rfl (by kernel_rfl) (by kernel_rfl) (by kernel_rfl)
      (OpenSpec.preRow_of_cond 8 hx (by kernel_rfl) (fun k hk => by cases hk) (by kernel_rfl) (laid_met os))) ?_
  intro W base args ds gs before hval hW _ _ _ hL _ _
  exact contract H enc W base args ds gs before hval hW hL
theorem said : Rows.HeadAgainSaid :=
  OpenClaim.holds_of_cond 3 Tryd.f3 rfl rfl rfl rfl rfl rfl rfl ⟨rfl, rfl, rfl, rfl, rfl⟩ rfl rfl rfl rfl rfl (by kernel_rfl) Tryd.func3 (by kernel_rfl)
    (of_decide_eq_true (by kernel_rfl)) (by unfold Func.isWrapper; first | (rw [if_pos (by decide +kernel)]; kernel_rfl) | (rw [if_neg (by decide +kernel)]; exact ⟨rfl, rfl⟩))
    (fun os started H enc _ F => by rw [OpenClaim.pre_eq_preRow]; exact lifted os started H enc F)
theorem plain (f : FuncId) (fn : Func) (hf : Tryd.pinned.checked.prog.funcNamed "shelf/shelflaw7.HeadAgain" = some f) (hfn : Tryd.pinned.checked.prog.funcs[f]? = some fn) :
    false = Tryd.pinned.checked.prog.looks [] ∧ ∀ (j : Nat) t, fn.params[j]? = some t → Tryd.pinned.checked.prog.wantsStandIn t = false := by
  obtain rfl : f = 3 := Option.some.inj ((show Tryd.prog.funcNamed "shelf/shelflaw7.HeadAgain" = some 3 by kernel_rfl).symm.trans hf) |>.symm
  obtain rfl : fn = Tryd.f3 := (Option.some.inj (Tryd.func3.symm.trans hfn)).symm
  refine ⟨by kernel_rfl, fun j t ht => ?_⟩
  rw [Tryd.params3] at ht
  have hmem := Array.mem_of_getElem? ht
  have s9 : Tryd.pinned.checked.prog.wantsStandIn 9 = false := by kernel_rfl
  have s3 : Tryd.pinned.checked.prog.wantsStandIn 3 = false := by kernel_rfl
  have sH : Tryd.pinned.checked.prog.wantsStandIn 25 = false := by kernel_rfl
  simp at hmem
  first
    | (rcases hmem with rfl | rfl | rfl <;> assumption)
    | (rcases hmem with rfl | rfl <;> assumption)
    | (subst hmem; assumption)
theorem card : Rows.HeadAgainCardSaid :=
  Claim7.holds_tied_plain_at .later [] _ _ _ _ said (fun _ h => by cases h) (by kernel_rfl) (fun _ h => by cases h) headAgain_row_tie rfl ⟨rfl, rfl⟩ (by kernel_rfl) rfl plain (by kernel_rfl)
end Go.Proofs.YtbkfkanknfdelabDoor.headAgain
namespace Go.Proofs.YtbkfkanknfdelabDoor
theorem headAgain_holds : Rows.HeadAgainCardSaid := headAgain.card
#print axioms headAgain_holds
end Go.Proofs.YtbkfkanknfdelabDoor
