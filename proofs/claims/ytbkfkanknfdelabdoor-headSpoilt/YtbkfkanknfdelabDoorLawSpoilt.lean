
-- Proof of the given card about HeadSpoilt. The frame follows the guide's toy for a law over a table; the walk and the lemmas are ours.
import Derived.Test.YtbkfkanknfdelabDoorCards
import Derived.Test.YtbkfkanknfdelabDoorTie
import Derived.Test.YtbkfkanknfdelabDoorW4
import Derived.Test.YtbkfkanknfdelabDoorW5
import Derived.Test.YtbkfkanknfdelabDoorW6
import Derived.Test.YtbkfkanknfdelabDoorO3
import Derived.Test.YtbkfkanknfdelabDoorQ2
import Derived.Test.YtbkfkanknfdelabDoorZ2
import Derived.WalkKit
import Derived.ProofKit
import Derived.OpenShut
import Derived.ShutString
import Derived.ChangeOld
import Derived.Below
import Derived.Deep.DeepHandedRow
import Derived.Stop.LaidErr
import Derived.BigRegion
import Derived.RegionTactic
namespace Go.Proofs.YtbkfkanknfdelabDoor.headSpoilt
open Go.ChangeShapes Go.WideShapes Go.ChangeAt Go.RowKit
open Go.ChangeMaps (open_string shut_string)
set_option linter.unusedVariables false
set_option maxRecDepth 100000

theorem own : ownKnob Tryd.prog.godebug = none := by kernel_rfl
theorem laidOut : laidOutB Tryd.prog = true := by kernel_rfl
theorem laid_is {W : World} (h : laidMetH Tryd.prog Rows.headSpoiltRow.laid W) : laidMet Tryd.prog [("math/bits.deBruijn32tab", Rows.laid_math_bits_deBruijn32tab), ("math/bits.deBruijn64tab", Rows.laid_math_bits_deBruijn64tab), ("internal/strconv.uint64pow10", Rows.laid_internal_strconv_uint64pow10), ("unicode/utf8.acceptRanges", Rows.laid_unicode_utf8_acceptRanges), ("shelf/head.columns", Rows.laid_shelf_head_columns), ("unicode/utf8.first", Rows.laid_unicode_utf8_first)] W := h
theorem cols_of {W : World} (h : laidMetH Tryd.prog Rows.headSpoiltRow.laid W) : Cols W := cols_of_head (laid_is h).tail.tail.tail.tail
theorem tabs_of {W : World} (h : laidMetH Tryd.prog Rows.headSpoiltRow.laid W) : Tabs W := tabs_of_heads (laid_is h).tail (laid_is h).tail.tail
theorem below_s6 {w w' : World} {R : Nat} {v0 v1 v2 v3 v4 v5 : Value} (h : Below w.heap.size w w') (hR : w.heap.size ≤ R) : Below w.heap.size w ((((((w'.setCell ⟨R, 0, none⟩ v0).setCell ⟨R, 1, none⟩ v1).setCell ⟨R, 2, none⟩ v2).setCell ⟨R, 3, none⟩ v3).setCell ⟨R, 4, none⟩ v4).setCell ⟨R, 5, none⟩ v5) := Below.setCell (Below.setCell (Below.setCell (Below.setCell (Below.setCell (Below.setCell (h) hR _) hR _) hR _) hR _) hR _) hR _
theorem no (d u g m s c i : Int) (n : ByteArray) (w : World) (HI : Hid (∀ w, Calls Tryd.prog 5 #[.agg #[.int .i64 d, .int .i64 u, .int .i64 g, .int .i64 m, .string n, .int .i64 s]] w fun e w' => e = .returned (.bool false) ∧ Below w.heap.size w w')) : Calls Tryd.prog 4 #[.agg #[.int .i64 d, .int .i64 u, .int .i64 g, .int .i64 m, .string n, .int .i64 s], .int .i64 i, .int .i64 c] w fun e w' => e = .returned (.bool true) ∧ Below w.heap.size w w' := by
  have hB0 : Below w.heap.size w (w.alloc (.cells #[.int .i64 d, .int .i64 u, .int .i64 g, .int .i64 m, .string n, .int .i64 s] 25)) := bup (Below.refl _ _) _
  have hr0 := heap_alloc_new w (.cells #[.int .i64 d, .int .i64 u, .int .i64 g, .int .i64 m, .string n, .int .i64 s] 25)
  go_enter Tryd.func4, Tryd.ntmps4
  go_wp2_with (first | (go_at_call 5; refine (HI.out _).mono ?_; rintro e w1 ⟨rfl, hb1⟩; have hr1 := hkeep hb1 hr0; have hB1 := bel3 hB0 hb1) | (refine wpList_load_row rfl _ _ rfl w.heap.size rfl _ _ _ _ hr1 Tryd.underlying25 rfl (by kernel_rfl) ?_))
  go_ret
  exact ⟨rfl, hB1⟩
theorem out1 (d u g m s c i : Int) (n : ByteArray) (w : World) (HI : Hid (∀ w, Calls Tryd.prog 5 #[.agg #[.int .i64 d, .int .i64 u, .int .i64 g, .int .i64 m, .string n, .int .i64 s]] w fun e w' => e = .returned (.bool true) ∧ Below w.heap.size w w')) (hi : i < 16) : Calls Tryd.prog 4 #[.agg #[.int .i64 d, .int .i64 u, .int .i64 g, .int .i64 m, .string n, .int .i64 s], .int .i64 i, .int .i64 c] w fun e w' => e = .returned (.bool true) ∧ Below w.heap.size w w' := by
  have b1 : decide (i < 16) = true := by simp; omega
  have hB0 : Below w.heap.size w (w.alloc (.cells #[.int .i64 d, .int .i64 u, .int .i64 g, .int .i64 m, .string n, .int .i64 s] 25)) := bup (Below.refl _ _) _
  have hr0 := heap_alloc_new w (.cells #[.int .i64 d, .int .i64 u, .int .i64 g, .int .i64 m, .string n, .int .i64 s] 25)
  go_enter Tryd.func4, Tryd.ntmps4
  go_wp2_with (first | (go_at_call 5; refine (HI.out _).mono ?_; rintro e w1 ⟨rfl, hb1⟩; have hr1 := hkeep hb1 hr0; have hB1 := bel3 hB0 hb1) | (refine wpList_load_row rfl _ _ rfl w.heap.size rfl _ _ _ _ hr1 Tryd.underlying25 rfl (by kernel_rfl) ?_))
  go_ret
  exact ⟨rfl, hB1⟩
theorem out2 (d u g m s c i : Int) (n : ByteArray) (w : World) (HI : Hid (∀ w, Calls Tryd.prog 5 #[.agg #[.int .i64 d, .int .i64 u, .int .i64 g, .int .i64 m, .string n, .int .i64 s]] w fun e w' => e = .returned (.bool true) ∧ Below w.heap.size w w')) (hi : 59 < i) : Calls Tryd.prog 4 #[.agg #[.int .i64 d, .int .i64 u, .int .i64 g, .int .i64 m, .string n, .int .i64 s], .int .i64 i, .int .i64 c] w fun e w' => e = .returned (.bool true) ∧ Below w.heap.size w w' := by
  have b1 : decide (i < 16) = false := by simp; omega
  have b2 : decide (59 < i) = true := by simp; omega
  have hB0 : Below w.heap.size w (w.alloc (.cells #[.int .i64 d, .int .i64 u, .int .i64 g, .int .i64 m, .string n, .int .i64 s] 25)) := bup (Below.refl _ _) _
  have hr0 := heap_alloc_new w (.cells #[.int .i64 d, .int .i64 u, .int .i64 g, .int .i64 m, .string n, .int .i64 s] 25)
  go_enter Tryd.func4, Tryd.ntmps4
  go_wp2_with (first | (go_at_call 5; refine (HI.out _).mono ?_; rintro e w1 ⟨rfl, hb1⟩; have hr1 := hkeep hb1 hr0; have hB1 := bel3 hB0 hb1) | (refine wpList_load_row rfl _ _ rfl w.heap.size rfl _ _ _ _ hr1 Tryd.underlying25 rfl (by kernel_rfl) ?_))
  go_ret
  exact ⟨rfl, hB1⟩
set_option maxHeartbeats 4000000 in
theorem fine (d u g m s c : Int) (k : Nat) (n T P Q : ByteArray) (w : World) (hz : T.size = 60) (HC : Hid (Cols w)) (HT : Hid (Tabs w)) (HI : Hid (∀ w, Calls Tryd.prog 5 #[.agg #[.int .i64 d, .int .i64 u, .int .i64 g, .int .i64 m, .string n, .int .i64 s]] w fun e w' => e = .returned (.bool true) ∧ Below w.heap.size w w')) (HF : Hid (∀ w, Cols w → Tabs w → Calls Tryd.prog 6 #[.agg #[.int .i64 d, .int .i64 u, .int .i64 g, .int .i64 m, .string n, .int .i64 s]] w fun e w' => e = .returned (.tuple #[.string T, .int .i64 0]) ∧ Below w.heap.size w w'))
    (s1 : ∀ w, (Instr.slice 9 (.string T) none (some (.int .i64 (k : Int))) none).run Tryd.prog w = .ok (.string P) w) (s2 : ∀ w, (Instr.slice 9 (.string T) (some (.int .i64 ((k : Int) + 1))) none none).run Tryd.prog w = .ok (.string Q) w)
    (pz : P.size = k) (qz : Q.size = 59 - k) (X : ByteArray) (xz : X.size = 1) (HX : Hid (∀ w : World, (convert 30 9 (.slice (some ⟨w.heap.size, 0, none⟩) 1 1)).run Tryd.prog ((w.alloc (.cells #[.int .u8 (c % 256)] 5)).drew) = .ok (.string X) ((w.alloc (.cells #[.int .u8 (c % 256)] 5)).drew))) (h16 : 16 ≤ k) (h57 : k ≤ 57) (er : Int) (r : Array Value) (r0 r1 r2 r3 r5 : Int) (r4 : ByteArray) (hr : r = #[.int .i64 r0, .int .i64 r1, .int .i64 r2, .int .i64 r3, .string r4, .int .i64 r5])
    (HP : Hid (∀ w, Cols w → Calls Tryd.prog 7 #[.string (P ++ X ++ Q), .int .i64 0] w fun e w' => e = .returned (.tuple #[.agg r, .int .i64 er]) ∧ Below w.heap.size w w')) (HG : Hid (∀ w, Calls Tryd.prog 8 #[.int .u8 (c % 256), .int .i64 k] w fun e w' => e = .returned (.bool true) ∧ w' = w)) : Calls Tryd.prog 4 #[.agg #[.int .i64 d, .int .i64 u, .int .i64 g, .int .i64 m, .string n, .int .i64 s], .int .i64 k, .int .i64 c] w fun e w' => e = .returned (.bool true) ∧ Below w.heap.size w w' := by
  subst hr
  have c1 : (P ++ X).size = k + 1 := by rw [ByteArray.size_append, pz, xz]
  have c2 : (P ++ X ++ Q).size = 60 := by rw [ByteArray.size_append, c1, qz]; omega
  have hwr : IntKind.i64.wrap ((k : Int) + 1) = (k : Int) + 1 := by rw [IntKind.wrap_i64]; omega
  have b1 : decide ((k : Int) < 16) = false := by simp; omega
  have b2 : decide ((59 : Int) < (k : Int)) = false := by simp; omega
  have b3 : decide ((58 : Int) ≤ (k : Int)) = false := by simp; omega
  have hB0 : Below w.heap.size w (w.alloc (.cells #[.int .i64 d, .int .i64 u, .int .i64 g, .int .i64 m, .string n, .int .i64 s] 25)) := bup (Below.refl _ _) _
  have hr0 := heap_alloc_new w (.cells #[.int .i64 d, .int .i64 u, .int .i64 g, .int .i64 m, .string n, .int .i64 s] 25)
  go_enter Tryd.func4, Tryd.ntmps4
  go_wp2_with (first | (go_at_call 5; refine (HI.out _).mono ?_; rintro e w1 ⟨rfl, hb1⟩; have hr1 := hkeep hb1 hr0; have hB1 := bel3 hB0 hb1) | (go_at_call 6; refine (HF.out _ (HC.out.on hB1) (HT.out.on hB1)).mono ?_; rintro e w2 ⟨rfl, hb2⟩; have hr2 := hkeep hb2 hr1; have hB2 := bel3 hB1 hb2) | (refine wpList_load_row rfl _ _ rfl w.heap.size rfl _ _ _ _ hr1 Tryd.underlying25 rfl (by kernel_rfl) ?_))
  have hcv := HX.out w2
  go_region
  all_goals
    go_wp2_with (first
      | (go_at_call 7; refine (HP.out _ (HC.out.on (Below.drew (bup hB2 _)))).mono ?_; rintro e w3 ⟨rfl, hb3⟩; have hB3 := bup (bel3 (Below.drew (bup hB2 _)) hb3) (.cells #[.int .i64 r0, .int .i64 r1, .int .i64 r2, .int .i64 r3, .string r4, .int .i64 r5] 25); have hr3 := hup (hkeep hb3 (show ((w2.alloc (.cells #[.int .u8 (c % 256)] 5)).drew).heap[w.heap.size]? = _ from hup hr2 _)) (.cells #[.int .i64 r0, .int .i64 r1, .int .i64 r2, .int .i64 r3, .string r4, .int .i64 r5] 25); obtain ⟨y0, y1, y2, y3, y4, y5⟩ := RowB.cells ⟨hr3⟩)
      | (go_at_call 8; refine (HG.out _).mono ?_; rintro e w4 ⟨rfl, hw4⟩; subst w4))
    go_ret
    exact ⟨by simp, hB3⟩
set_option maxHeartbeats 4000000 in
theorem spoilt (d u g m s c : Int) (k : Nat) (n T P Q : ByteArray) (w : World) (hz : T.size = 60) (HC : Hid (Cols w)) (HT : Hid (Tabs w)) (HI : Hid (∀ w, Calls Tryd.prog 5 #[.agg #[.int .i64 d, .int .i64 u, .int .i64 g, .int .i64 m, .string n, .int .i64 s]] w fun e w' => e = .returned (.bool true) ∧ Below w.heap.size w w')) (HF : Hid (∀ w, Cols w → Tabs w → Calls Tryd.prog 6 #[.agg #[.int .i64 d, .int .i64 u, .int .i64 g, .int .i64 m, .string n, .int .i64 s]] w fun e w' => e = .returned (.tuple #[.string T, .int .i64 0]) ∧ Below w.heap.size w w'))
    (s1 : ∀ w, (Instr.slice 9 (.string T) none (some (.int .i64 (k : Int))) none).run Tryd.prog w = .ok (.string P) w) (s2 : ∀ w, (Instr.slice 9 (.string T) (some (.int .i64 ((k : Int) + 1))) none none).run Tryd.prog w = .ok (.string Q) w)
    (pz : P.size = k) (qz : Q.size = 59 - k) (X : ByteArray) (xz : X.size = 1) (HX : Hid (∀ w : World, (convert 30 9 (.slice (some ⟨w.heap.size, 0, none⟩) 1 1)).run Tryd.prog ((w.alloc (.cells #[.int .u8 (c % 256)] 5)).drew) = .ok (.string X) ((w.alloc (.cells #[.int .u8 (c % 256)] 5)).drew))) (h16 : 16 ≤ k) (h57 : k ≤ 57)
    (HP : Hid (∀ w, Cols w → Calls Tryd.prog 7 #[.string (P ++ X ++ Q), .int .i64 0] w fun e w' => e = .returned (.tuple #[.agg #[.int .i64 0, .int .i64 0, .int .i64 0, .int .i64 0, .string ⟨#[]⟩, .int .i64 0], .int .i64 72]) ∧ Below w.heap.size w w')) (HG : Hid (∀ w, Calls Tryd.prog 8 #[.int .u8 (c % 256), .int .i64 k] w fun e w' => e = .returned (.bool false) ∧ w' = w)) : Calls Tryd.prog 4 #[.agg #[.int .i64 d, .int .i64 u, .int .i64 g, .int .i64 m, .string n, .int .i64 s], .int .i64 k, .int .i64 c] w fun e w' => e = .returned (.bool true) ∧ Below w.heap.size w w' := by
  have hE := eqHd 0 0 0 0 ⟨#[]⟩ 0
  have c1 : (P ++ X).size = k + 1 := by rw [ByteArray.size_append, pz, xz]
  have c2 : (P ++ X ++ Q).size = 60 := by rw [ByteArray.size_append, c1, qz]; omega
  have hwr : IntKind.i64.wrap ((k : Int) + 1) = (k : Int) + 1 := by rw [IntKind.wrap_i64]; omega
  have b1 : decide ((k : Int) < 16) = false := by simp; omega
  have b2 : decide ((59 : Int) < (k : Int)) = false := by simp; omega
  have b3 : decide ((58 : Int) ≤ (k : Int)) = false := by simp; omega
  have hB0 : Below w.heap.size w (w.alloc (.cells #[.int .i64 d, .int .i64 u, .int .i64 g, .int .i64 m, .string n, .int .i64 s] 25)) := bup (Below.refl _ _) _
  have hr0 := heap_alloc_new w (.cells #[.int .i64 d, .int .i64 u, .int .i64 g, .int .i64 m, .string n, .int .i64 s] 25)
  go_enter Tryd.func4, Tryd.ntmps4
  go_wp2_with (first | (go_at_call 5; refine (HI.out _).mono ?_; rintro e w1 ⟨rfl, hb1⟩; have hr1 := hkeep hb1 hr0; have hB1 := bel3 hB0 hb1) | (go_at_call 6; refine (HF.out _ (HC.out.on hB1) (HT.out.on hB1)).mono ?_; rintro e w2 ⟨rfl, hb2⟩; have hr2 := hkeep hb2 hr1; have hB2 := bel3 hB1 hb2) | (refine wpList_load_row rfl _ _ rfl w.heap.size rfl _ _ _ _ hr1 Tryd.underlying25 rfl (by kernel_rfl) ?_))
  have hcv := HX.out w2
  go_region
  all_goals
    go_wp2_with (first
      | (go_at_call 7; refine (HP.out _ (HC.out.on (Below.drew (bup hB2 _)))).mono ?_; rintro e w3 ⟨rfl, hb3⟩; have hB3 := bup (bel3 (Below.drew (bup hB2 _)) hb3) (.cells #[.int .i64 0, .int .i64 0, .int .i64 0, .int .i64 0, .string ⟨#[]⟩, .int .i64 0] 25); have hr3 := hup (hkeep hb3 (show ((w2.alloc (.cells #[.int .u8 (c % 256)] 5)).drew).heap[w.heap.size]? = _ from hup hr2 _)) (.cells #[.int .i64 0, .int .i64 0, .int .i64 0, .int .i64 0, .string ⟨#[]⟩, .int .i64 0] 25); obtain ⟨y0, y1, y2, y3, y4, y5⟩ := RowB.cells ⟨hr3⟩)
      | (go_at_call 8; refine (HG.out _).mono ?_; rintro e w4 ⟨rfl, hw4⟩; subst w4))
    go_ret
    exact ⟨by simp, hB3⟩
set_option maxHeartbeats 4000000 in
theorem same (d u g m s c : Int) (k : Nat) (n T P Q : ByteArray) (w : World) (hz : T.size = 60) (HC : Hid (Cols w)) (HT : Hid (Tabs w)) (HI : Hid (∀ w, Calls Tryd.prog 5 #[.agg #[.int .i64 d, .int .i64 u, .int .i64 g, .int .i64 m, .string n, .int .i64 s]] w fun e w' => e = .returned (.bool true) ∧ Below w.heap.size w w')) (HF : Hid (∀ w, Cols w → Tabs w → Calls Tryd.prog 6 #[.agg #[.int .i64 d, .int .i64 u, .int .i64 g, .int .i64 m, .string n, .int .i64 s]] w fun e w' => e = .returned (.tuple #[.string T, .int .i64 0]) ∧ Below w.heap.size w w'))
    (s1 : ∀ w, (Instr.slice 9 (.string T) none (some (.int .i64 (k : Int))) none).run Tryd.prog w = .ok (.string P) w) (s2 : ∀ w, (Instr.slice 9 (.string T) (some (.int .i64 ((k : Int) + 1))) none none).run Tryd.prog w = .ok (.string Q) w)
    (pz : P.size = k) (qz : Q.size = 59 - k) (X : ByteArray) (xz : X.size = 1) (HX : Hid (∀ w : World, (convert 30 9 (.slice (some ⟨w.heap.size, 0, none⟩) 1 1)).run Tryd.prog ((w.alloc (.cells #[.int .u8 (c % 256)] 5)).drew) = .ok (.string X) ((w.alloc (.cells #[.int .u8 (c % 256)] 5)).drew))) (h58 : 58 ≤ k) (h59 : k ≤ 59) (t : Int) (ti : ∀ w, (Instr.index 9 (.string T) (.int .i64 (k : Int))).run Tryd.prog w = .ok (.int .u8 t) w) (ht : (c % 256 == t) = true)
    (HP : Hid (∀ w, Cols w → Calls Tryd.prog 7 #[.string (P ++ X ++ Q), .int .i64 0] w fun e w' => e = .returned (.tuple #[.agg #[.int .i64 d, .int .i64 u, .int .i64 g, .int .i64 m, .string n, .int .i64 s], .int .i64 0]) ∧ Below w.heap.size w w')) : Calls Tryd.prog 4 #[.agg #[.int .i64 d, .int .i64 u, .int .i64 g, .int .i64 m, .string n, .int .i64 s], .int .i64 k, .int .i64 c] w fun e w' => e = .returned (.bool true) ∧ Below w.heap.size w w' := by
  have hE := eqHd d u g m n s
  have c1 : (P ++ X).size = k + 1 := by rw [ByteArray.size_append, pz, xz]
  have c2 : (P ++ X ++ Q).size = 60 := by rw [ByteArray.size_append, c1, qz]; omega
  have hwr : IntKind.i64.wrap ((k : Int) + 1) = (k : Int) + 1 := by rw [IntKind.wrap_i64]; omega
  have b1 : decide ((k : Int) < 16) = false := by simp; omega
  have b2 : decide ((59 : Int) < (k : Int)) = false := by simp; omega
  have b3 : decide ((58 : Int) ≤ (k : Int)) = true := by simp; omega
  have hB0 : Below w.heap.size w (w.alloc (.cells #[.int .i64 d, .int .i64 u, .int .i64 g, .int .i64 m, .string n, .int .i64 s] 25)) := bup (Below.refl _ _) _
  have hr0 := heap_alloc_new w (.cells #[.int .i64 d, .int .i64 u, .int .i64 g, .int .i64 m, .string n, .int .i64 s] 25)
  go_enter Tryd.func4, Tryd.ntmps4
  go_wp2_with (first | (go_at_call 5; refine (HI.out _).mono ?_; rintro e w1 ⟨rfl, hb1⟩; have hr1 := hkeep hb1 hr0; have hB1 := bel3 hB0 hb1) | (go_at_call 6; refine (HF.out _ (HC.out.on hB1) (HT.out.on hB1)).mono ?_; rintro e w2 ⟨rfl, hb2⟩; have hr2 := hkeep hb2 hr1; have hB2 := bel3 hB1 hb2) | (refine wpList_load_row rfl _ _ rfl w.heap.size rfl _ _ _ _ hr1 Tryd.underlying25 rfl (by kernel_rfl) ?_))
  have hcv := HX.out w2
  go_region
  all_goals
    go_wp2_with (first
      | (go_at_call 7; refine (HP.out _ (HC.out.on (Below.drew (bup hB2 _)))).mono ?_; rintro e w3 ⟨rfl, hb3⟩; have hB3 := bup (bel3 (Below.drew (bup hB2 _)) hb3) (.cells #[.int .i64 d, .int .i64 u, .int .i64 g, .int .i64 m, .string n, .int .i64 s] 25); have hr3 := hup (hkeep hb3 (show ((w2.alloc (.cells #[.int .u8 (c % 256)] 5)).drew).heap[w.heap.size]? = _ from hup hr2 _)) (.cells #[.int .i64 d, .int .i64 u, .int .i64 g, .int .i64 m, .string n, .int .i64 s] 25); obtain ⟨y0, y1, y2, y3, y4, y5⟩ := RowB.cells ⟨hr3⟩))
    go_ret
    exact ⟨by simp, hB3⟩
set_option maxHeartbeats 4000000 in
theorem other (d u g m s c : Int) (k : Nat) (n T P Q : ByteArray) (w : World) (hz : T.size = 60) (HC : Hid (Cols w)) (HT : Hid (Tabs w)) (HI : Hid (∀ w, Calls Tryd.prog 5 #[.agg #[.int .i64 d, .int .i64 u, .int .i64 g, .int .i64 m, .string n, .int .i64 s]] w fun e w' => e = .returned (.bool true) ∧ Below w.heap.size w w')) (HF : Hid (∀ w, Cols w → Tabs w → Calls Tryd.prog 6 #[.agg #[.int .i64 d, .int .i64 u, .int .i64 g, .int .i64 m, .string n, .int .i64 s]] w fun e w' => e = .returned (.tuple #[.string T, .int .i64 0]) ∧ Below w.heap.size w w'))
    (s1 : ∀ w, (Instr.slice 9 (.string T) none (some (.int .i64 (k : Int))) none).run Tryd.prog w = .ok (.string P) w) (s2 : ∀ w, (Instr.slice 9 (.string T) (some (.int .i64 ((k : Int) + 1))) none none).run Tryd.prog w = .ok (.string Q) w)
    (pz : P.size = k) (qz : Q.size = 59 - k) (X : ByteArray) (xz : X.size = 1) (HX : Hid (∀ w : World, (convert 30 9 (.slice (some ⟨w.heap.size, 0, none⟩) 1 1)).run Tryd.prog ((w.alloc (.cells #[.int .u8 (c % 256)] 5)).drew) = .ok (.string X) ((w.alloc (.cells #[.int .u8 (c % 256)] 5)).drew))) (h58 : 58 ≤ k) (h59 : k ≤ 59) (t : Int) (ti : ∀ w, (Instr.index 9 (.string T) (.int .i64 (k : Int))).run Tryd.prog w = .ok (.int .u8 t) w) (ht : (c % 256 == t) = false)
    (HP : Hid (∀ w, Cols w → Calls Tryd.prog 7 #[.string (P ++ X ++ Q), .int .i64 0] w fun e w' => e = .returned (.tuple #[.agg #[.int .i64 0, .int .i64 0, .int .i64 0, .int .i64 0, .string ⟨#[]⟩, .int .i64 0], .int .i64 71]) ∧ Below w.heap.size w w')) (P2 Q2 : ByteArray) (p2z : P2.size = 16) (q2z : Q2.size = 43)
    (t1 : ∀ w, (Instr.slice 9 (.string (P ++ X ++ Q)) none (some (.int .i64 16)) none).run Tryd.prog w = .ok (.string P2) w) (t2 : ∀ w, (Instr.slice 9 (.string (P ++ X ++ Q)) (some (.int .i64 17)) none none).run Tryd.prog w = .ok (.string Q2) w)
    (HP2 : Hid (∀ w, Cols w → Calls Tryd.prog 7 #[.string (P2 ++ ⟨#[120]⟩ ++ Q2), .int .i64 0] w fun e w' => e = .returned (.tuple #[.agg #[.int .i64 0, .int .i64 0, .int .i64 0, .int .i64 0, .string ⟨#[]⟩, .int .i64 0], .int .i64 71]) ∧ Below w.heap.size w w')) : Calls Tryd.prog 4 #[.agg #[.int .i64 d, .int .i64 u, .int .i64 g, .int .i64 m, .string n, .int .i64 s], .int .i64 k, .int .i64 c] w fun e w' => e = .returned (.bool true) ∧ Below w.heap.size w w' := by
  have hE := eqHd 0 0 0 0 ⟨#[]⟩ 0
  have c1 : (P ++ X).size = k + 1 := by rw [ByteArray.size_append, pz, xz]
  have c2 : (P ++ X ++ Q).size = 60 := by rw [ByteArray.size_append, c1, qz]; omega
  have hwr : IntKind.i64.wrap ((k : Int) + 1) = (k : Int) + 1 := by rw [IntKind.wrap_i64]; omega
  have b1 : decide ((k : Int) < 16) = false := by simp; omega
  have b2 : decide ((59 : Int) < (k : Int)) = false := by simp; omega
  have b3 : decide ((58 : Int) ≤ (k : Int)) = true := by simp; omega
  have d1 : (P2 ++ ⟨#[120]⟩).size = 17 := by rw [ByteArray.size_append, p2z]; rfl
  have d2 : (P2 ++ ⟨#[120]⟩ ++ Q2).size = 60 := by rw [ByteArray.size_append, d1, q2z]
  have hB0 : Below w.heap.size w (w.alloc (.cells #[.int .i64 d, .int .i64 u, .int .i64 g, .int .i64 m, .string n, .int .i64 s] 25)) := bup (Below.refl _ _) _
  have hr0 := heap_alloc_new w (.cells #[.int .i64 d, .int .i64 u, .int .i64 g, .int .i64 m, .string n, .int .i64 s] 25)
  go_enter Tryd.func4, Tryd.ntmps4
  go_wp2_with (first | (go_at_call 5; refine (HI.out _).mono ?_; rintro e w1 ⟨rfl, hb1⟩; have hr1 := hkeep hb1 hr0; have hB1 := bel3 hB0 hb1) | (go_at_call 6; refine (HF.out _ (HC.out.on hB1) (HT.out.on hB1)).mono ?_; rintro e w2 ⟨rfl, hb2⟩; have hr2 := hkeep hb2 hr1; have hB2 := bel3 hB1 hb2) | (refine wpList_load_row rfl _ _ rfl w.heap.size rfl _ _ _ _ hr1 Tryd.underlying25 rfl (by kernel_rfl) ?_))
  have hcv := HX.out w2
  go_region
  all_goals
    go_wp2_with (first
      | (go_at_call 7; refine (HP.out _ (HC.out.on (Below.drew (bup hB2 _)))).mono ?_; rintro e w3 ⟨rfl, hb3⟩; have hB3 := bup (bel3 (Below.drew (bup hB2 _)) hb3) (.cells #[.int .i64 0, .int .i64 0, .int .i64 0, .int .i64 0, .string ⟨#[]⟩, .int .i64 0] 25); have hr3 := hup (hkeep hb3 (show ((w2.alloc (.cells #[.int .u8 (c % 256)] 5)).drew).heap[w.heap.size]? = _ from hup hr2 _)) (.cells #[.int .i64 0, .int .i64 0, .int .i64 0, .int .i64 0, .string ⟨#[]⟩, .int .i64 0] 25); obtain ⟨y0, y1, y2, y3, y4, y5⟩ := RowB.cells ⟨hr3⟩; have hs3 := heap_alloc_new w3 (.cells #[.int .i64 0, .int .i64 0, .int .i64 0, .int .i64 0, .string ⟨#[]⟩, .int .i64 0] 25)))
    generalize w3.alloc (.cells #[.int .i64 0, .int .i64 0, .int .i64 0, .int .i64 0, .string ⟨#[]⟩, .int .i64 0] 25) = W at hB3 hr3 hs3 ⊢
    have hq0 := heap_alloc_new W (.cells #[.int .i64 0, .int .i64 0, .int .i64 0, .int .i64 0, .string ⟨#[]⟩, .int .i64 0] 25)
    have hWs : w.heap.size ≤ W.heap.size := hB3.size
    have hne : w3.heap.size ≠ W.heap.size := by have := (Array.getElem?_eq_some_iff.1 hs3).1; omega
    have hne2 : W.heap.size ≠ w3.heap.size := fun h => hne h.symm
    go_region_with (first
      | (go_at_call 7; refine (HP2.out _ (HC.out.on (by first | exact hB3 | exact hB3.drew | exact bup hB3 _ | exact bup hB3.drew _ | exact (bup hB3 _).drew))).mono ?_; rintro e w4 ⟨rfl, hb4⟩; have hB4 : Below w.heap.size w w4 := (by first | exact bel3 hB3 hb4 | exact bel3 (bup hB3 _) hb4 | exact bel3 hB3.drew hb4 | exact bel3 (bup hB3.drew _) hb4 | exact bel3 (bup hB3 _).drew hb4); have hq4 : RowH W.heap.size w4 := hkeep hb4 hq0; obtain ⟨r0, r1, r2, r3, r4, r5, f0, f1, f2, f3, f4, f5⟩ := hq4.cells; have hs4 : RowH w3.heap.size w4 := hkeep hb4 (hup hs3 _); obtain ⟨s0, s1, s2, s3, s4, s5, _, _, _, _, _, _⟩ := RowH.cells hs4)
      | (go_at_call 7; refine (HP2.out _ (HC.out.on (by first | exact hB3 | exact hB3.drew | exact bup hB3 _ | exact bup hB3.drew _ | exact (bup hB3 _).drew))).mono ?_; rintro e w4 ⟨rfl, hb4⟩; have hB4 : Below w.heap.size w w4 := (by first | exact bel3 hB3 hb4 | exact bel3 (bup hB3 _) hb4 | exact bel3 hB3.drew hb4 | exact bel3 (bup hB3.drew _) hb4 | exact bel3 (bup hB3 _).drew hb4); have hs4 : RowH w3.heap.size w4 := hkeep hb4 hs3; obtain ⟨s0, s1, s2, s3, s4, s5, _, _, _, _, _, _⟩ := RowH.cells hs4))
    · obtain ⟨q0, q1, q2, q3, q4, q5, _, _, _, _, _, _⟩ := RowH.cells (hup hs4 (.cells #[.int .i64 0, .int .i64 0, .int .i64 0, .int .i64 0, .string ⟨#[]⟩, .int .i64 0] 25))
      go_wp2
      go_ret
      exact ⟨by simp, bup hB4 _⟩
    · have v1 : RowH W.heap.size ((((((w4.setCell ⟨W.heap.size, 0, none⟩ (.int .i64 0)).setCell ⟨W.heap.size, 1, none⟩ (.int .i64 0)).setCell ⟨W.heap.size, 2, none⟩ (.int .i64 0)).setCell ⟨W.heap.size, 3, none⟩ (.int .i64 0)).setCell ⟨W.heap.size, 4, none⟩ (.string ⟨#[]⟩)).setCell ⟨W.heap.size, 5, none⟩ (.int .i64 0)) := RowH.store6 hq4
      have v2 : RowH w3.heap.size ((((((w4.setCell ⟨W.heap.size, 0, none⟩ (.int .i64 0)).setCell ⟨W.heap.size, 1, none⟩ (.int .i64 0)).setCell ⟨W.heap.size, 2, none⟩ (.int .i64 0)).setCell ⟨W.heap.size, 3, none⟩ (.int .i64 0)).setCell ⟨W.heap.size, 4, none⟩ (.string ⟨#[]⟩)).setCell ⟨W.heap.size, 5, none⟩ (.int .i64 0)) := (heap_setCell_other _ _ _ _ hne).trans ((heap_setCell_other _ _ _ _ hne).trans ((heap_setCell_other _ _ _ _ hne).trans ((heap_setCell_other _ _ _ _ hne).trans ((heap_setCell_other _ _ _ _ hne).trans ((heap_setCell_other _ _ _ _ hne).trans (hs4))))))
      have v3 : Below w.heap.size w ((((((w4.setCell ⟨W.heap.size, 0, none⟩ (.int .i64 0)).setCell ⟨W.heap.size, 1, none⟩ (.int .i64 0)).setCell ⟨W.heap.size, 2, none⟩ (.int .i64 0)).setCell ⟨W.heap.size, 3, none⟩ (.int .i64 0)).setCell ⟨W.heap.size, 4, none⟩ (.string ⟨#[]⟩)).setCell ⟨W.heap.size, 5, none⟩ (.int .i64 0)) := below_s6 hB4 hWs
      clear r0 r1 r2 r3 r4 r5 f0 f1 f2 f3 f4 f5 s0 s1 s2 s3 s4 s5 hq4 hs4
      generalize ((((((w4.setCell ⟨W.heap.size, 0, none⟩ (.int .i64 0)).setCell ⟨W.heap.size, 1, none⟩ (.int .i64 0)).setCell ⟨W.heap.size, 2, none⟩ (.int .i64 0)).setCell ⟨W.heap.size, 3, none⟩ (.int .i64 0)).setCell ⟨W.heap.size, 4, none⟩ (.string ⟨#[]⟩)).setCell ⟨W.heap.size, 5, none⟩ (.int .i64 0)) = V at v1 v2 v3 ⊢
      obtain ⟨q0, q1, q2, q3, q4, q5, _, _, _, _, _, _⟩ := v1.cells
      obtain ⟨p0, p1, p2, p3, p4, p5, _, _, _, _, _, _⟩ := v2.cells
      go_wp2
      go_ret
      exact ⟨by simp, v3⟩
theorem walk (a0 : Hd) (w0 : HdOk a0) (a1 : Int) (w1 : (Lit.int .i64 a1).wf = true) (a2 : Int) (w2 : (Lit.int .i64 a2).wf = true) (w : World) (hC : Cols w) (hT : Tabs w) :
    Calls Tryd.prog 4 #[.agg (hdC a0), .int .i64 a1, .int .i64 a2] w fun e w' => e = .returned (.bool true) ∧ Below w.heap.size w w' := by
  have hI := fun w => fits_c a0 w w0
  by_cases ht : named a0.name.data.toList ∧ fitsH a0
  rotate_left
  · have e2 : takes a0 = false := decide_eq_false ht
    rw [e2] at hI
    exact no a0.date a0.uid a0.gid a0.mode a0.size a2 a1 a0.name w hI
  obtain ⟨hn, hf⟩ := ht
  have e2 : takes a0 = true := decide_eq_true ⟨hn, hf⟩
  rw [e2] at hI
  by_cases h16 : a1 < 16
  · exact out1 a0.date a0.uid a0.gid a0.mode a0.size a2 a1 a0.name w hI h16
  by_cases h59 : 59 < a1
  · exact out2 a0.date a0.uid a0.gid a0.mode a0.size a2 a1 a0.name w hI h59
  obtain ⟨k, rfl⟩ := Int.eq_ofNat_of_zero_le (show 0 ≤ a1 by omega)
  have hF := fun w hC hT => format_c a0 w hC hT w0
  have e1 : formatH a0 = (strL (formL a0), 0) := by unfold formatH; rw [if_pos hn, if_pos hf]
  rw [e1] at hF
  have hl := formL_len a0 hn hf
  have hz : (strL (formL a0)).size = 60 := by rw [strL_size]; exact hl
  have s1 := slice_to (strL (formL a0)) k (by omega)
  have s2 := slice_from (strL (formL a0)) k (by omega)
  rw [strL_data] at s1 s2
  have hset := set_str (formL a0) k (byteOf a2) (by omega)
  have hl2 : ((formL a0).set k (byteOf a2)).length = 60 := by rw [List.length_set]; exact hl
  have hz2 : (strL ((formL a0).set k (byteOf a2))).size = 60 := by rw [strL_size]; exact hl2
  have HPx : ∀ w, Cols w → Calls Tryd.prog 7 #[.string (strL ((formL a0).take k) ++ strL [byteOf a2] ++ strL ((formL a0).drop (k + 1))), .int .i64 0] w fun e w' => e = .returned (.tuple #[hdV (parseH ((formL a0).set k (byteOf a2))).1, .int .i64 (parseH ((formL a0).set k (byteOf a2))).2]) ∧ Below w.heap.size w w' := fun w hC => by
    rw [hset]
    have h := parse_c (strL ((formL a0).set k (byteOf a2))) 0 w hC (by rw [hz2]; unfold maxLen; omega)
    rw [parse_zero _ hz2, strL_data] at h; exact h
  by_cases h58 : 58 ≤ k
  · have hlt : k < (strL (formL a0)).size := by omega
    have ti := Rd.idx (strL (formL a0)) k hlt
    have hb := byteOf_nat a2
    have hat : (formL a0)[k]? = some ((strL (formL a0))[k]'hlt) := by
      have h := Rd.at_some (strL (formL a0)) k hlt
      rw [strL_data] at h; exact h
    generalize (strL (formL a0))[k]'hlt = t at ti hat
    by_cases hx : byteOf a2 = t
    · have hsame : (formL a0).set k (byteOf a2) = formL a0 := by
        rw [hx]
        obtain ⟨hk, e⟩ := List.getElem?_eq_some_iff.1 hat
        rw [← e, List.set_getElem_self]
      rw [hsame, parse_format a0 w0.inn hn hf] at HPx
      exact same a0.date a0.uid a0.gid a0.mode a0.size a2 k a0.name (strL (formL a0)) _ _ w hz hC hT hI hF s1 s2 (by rw [strL_size, List.length_take]; omega) (by rw [strL_size, List.length_drop]; omega) (strL [byteOf a2]) (by rw [strL_size]; rfl) (fun w => convD w a2) h58 (by omega) _ ti (by rw [← hb, hx]; simp) HPx
    · have hne : ¬ (formL a0)[k]? = some (byteOf a2) := fun h => hx (by rw [hat] at h; injection h with h; exact h.symm)
      obtain ⟨g1, g2⟩ := set_tail a0 w0.inn hn hf k (byteOf a2) h58 (by omega) hne 16 120 (by omega)
      rw [g1] at HPx
      have t1 := slice_to (strL ((formL a0).set k (byteOf a2))) 16 (by omega)
      have t2 := slice_from (strL ((formL a0).set k (byteOf a2))) 16 (by omega)
      have hset2 := set_str ((formL a0).set k (byteOf a2)) 16 120 (by omega)
      have hz3 : (strL (((formL a0).set k (byteOf a2)).set 16 120)).size = 60 := by rw [strL_size, List.length_set]; exact hl2
      rw [strL_data] at t1 t2
      rw [← hset] at t1 t2
      refine other a0.date a0.uid a0.gid a0.mode a0.size a2 k a0.name (strL (formL a0)) _ _ w hz hC hT hI hF s1 s2 (by rw [strL_size, List.length_take]; omega) (by rw [strL_size, List.length_drop]; omega) (strL [byteOf a2]) (by rw [strL_size]; rfl) (fun w => convD w a2) h58 (by omega) _ ti ?_ HPx _ _ (by rw [strL_size, List.length_take]; omega) (by rw [strL_size, List.length_drop]; omega) t1 t2 (fun w hC => ?_)
      · rw [← hb]
        have : ¬ (byteOf a2).toNat = t.toNat := fun h => hx (UInt8.toNat_inj.1 h)
        simp; omega
      · have h := parse_c (strL (((formL a0).set k (byteOf a2)).set 16 120)) 0 w hC (by rw [hz3]; unfold maxLen; omega)
        rw [parse_zero _ hz3, strL_data, g2, ← hset2] at h
        exact h
  · have HG := fun w => digit_c a2 k w
    cases hd : okAt (byteOf a2) k
    · rw [hd] at HG
      rw [set_spoilt a0 w0.inn hn hf k (byteOf a2) (by omega) (by omega) hd] at HPx
      exact spoilt a0.date a0.uid a0.gid a0.mode a0.size a2 k a0.name (strL (formL a0)) _ _ w hz hC hT hI hF s1 s2 (by rw [strL_size, List.length_take]; omega) (by rw [strL_size, List.length_drop]; omega) (strL [byteOf a2]) (by rw [strL_size]; rfl) (fun w => convD w a2) (by omega) (by omega) HPx HG
    · rw [hd] at HG
      exact fine a0.date a0.uid a0.gid a0.mode a0.size a2 k a0.name (strL (formL a0)) _ _ w hz hC hT hI hF s1 s2 (by rw [strL_size, List.length_take]; omega) (by rw [strL_size, List.length_drop]; omega) (strL [byteOf a2]) (by rw [strL_size]; rfl) (fun w => convD w a2) (by omega) (by omega) _ _ _ _ _ _ _ _ rfl HPx HG
theorem contract (H : Type) (enc : TypeId × Value → H) (W : World) (base : Nat) (args : Array Value) (ds gs : List (DataW H)) (before : List MemPlace)
    (hval : ∀ (j : Nat) t v, Tryd.f4.params[j]? = some t → args[j]? = some v → Value.okWide Tryd.prog W .any base t v)
    (hW : DataW.Whole enc Tryd.prog Tryd.f4.params.toList Rows.headSpoiltSpec.vars false W args.toList ds gs before) (hL : laidMetH Tryd.prog Rows.headSpoiltRow.laid W) :
    Calls Tryd.prog 4 args W fun e W' => ∃ v, e = .returned v ∧ Rows.headSpoiltSpec.post enc Tryd.prog Tryd.f4 false true false false W args v W' := by
  have hW' := hW
  obtain ⟨p, q, hA0, hV, rfl, hfz, hnd⟩ := hW
  have hA : DataW.TrodAll enc Tryd.prog W 0 (fun _ => true) true Tryd.f4.params.toList args.toList ds p := hA0
  rw [Tryd.params4] at hA hval
  obtain ⟨v0, vs0, d0, ds0, p0, q0, hargs, rfl, rfl, h0, r0⟩ := trodAll_cons hA
  obtain ⟨v1, vs1, d1, ds1, p1, q1, rfl, rfl, rfl, h1, r1⟩ := trodAll_cons r0
  obtain ⟨v2, vs2, d2, ds2, p2, q2, rfl, rfl, rfl, h2, r2⟩ := trodAll_cons r1
  obtain ⟨rfl, rfl, rfl⟩ := trodAll_nil r2
  obtain rfl : args = #[v0, v1, v2] := by have h := congrArg List.toArray hargs; rw [Array.toArray_toList] at h; exact h
  obtain ⟨rfl, rfl⟩ := trodVars_none hV
  have k0 := h0
  have lt0 : ∀ x ∈ p0, x.block < W.heap.size := by obtain ⟨m, hm⟩ := k0; exact DataW.trod_lt m _ _ _ hm
  obtain ⟨cs0, rfl, hcs0⟩ := okWide_struct Tryd.underlying25 (hval 0 25 v0 rfl rfl)
  obtain ⟨a0, rfl, w0⟩ := open_head h0
  obtain ⟨a1, rfl, rfl, rfl, w1⟩ := open_int Tryd.underlying3 (hval 1 3 v1 rfl rfl) h1
  obtain ⟨a2, rfl, rfl, rfl, w2⟩ := open_int Tryd.underlying3 (hval 2 3 v2 rfl rfl) h2
  clear hA0
  simp only [List.append_nil] at hW'
  refine (walk a0 w0 a1 w1 a2 w2 W (cols_of hL) (tabs_of hL)).mono fun e W' ⟨he, hg⟩ => ?_
  subst he
  exact ⟨_, rfl, _, _, _, [], _, [], hW', trodAll_cons_mk (shut_bool Tryd.underlying4 _) trodAll_mk0, (trodAll_cons_mk (Below.trod laidOut (by kernel_rfl) (of_decide_eq_true (by kernel_rfl)) k0 hg lt0) (trodAll_cons_mk (shut_int Tryd.underlying3 w1) (trodAll_cons_mk (shut_int Tryd.underlying3 w2) trodAll_mk0))), rfl, hg.frame _, fun h => by cases h⟩
theorem laid_met (os : Os) : laidMet Tryd.prog Rows.headSpoiltRow.laid (({ (World.holding Tryd.prog os ⟨#[], #[], []⟩) with heap := (((((((World.holding Tryd.prog os ⟨#[], #[], []⟩).heap.modify 5 fun
      | .cells _ t frozen => .cells #[.int .u8 0, .int .u8 1, .int .u8 28, .int .u8 2, .int .u8 29, .int .u8 14, .int .u8 24, .int .u8 3, .int .u8 30, .int .u8 22, .int .u8 20, .int .u8 15, .int .u8 25, .int .u8 17, .int .u8 4, .int .u8 8, .int .u8 31, .int .u8 27, .int .u8 13, .int .u8 23, .int .u8 21, .int .u8 19, .int .u8 16, .int .u8 7, .int .u8 26, .int .u8 12, .int .u8 18, .int .u8 6, .int .u8 11, .int .u8 5, .int .u8 10, .int .u8 9] t frozen
      | o => o).modify 6 fun
      | .cells _ t frozen => .cells #[.int .u8 0, .int .u8 1, .int .u8 56, .int .u8 2, .int .u8 57, .int .u8 49, .int .u8 28, .int .u8 3, .int .u8 61, .int .u8 58, .int .u8 42, .int .u8 50, .int .u8 38, .int .u8 29, .int .u8 17, .int .u8 4, .int .u8 62, .int .u8 47, .int .u8 59, .int .u8 36, .int .u8 45, .int .u8 43, .int .u8 51, .int .u8 22, .int .u8 53, .int .u8 39, .int .u8 33, .int .u8 30, .int .u8 24, .int .u8 18, .int .u8 12, .int .u8 5, .int .u8 63, .int .u8 55, .int .u8 48, .int .u8 27, .int .u8 60, .int .u8 41, .int .u8 37, .int .u8 16, .int .u8 46, .int .u8 35, .int .u8 44, .int .u8 21, .int .u8 52, .int .u8 32, .int .u8 23, .int .u8 11, .int .u8 54, .int .u8 26, .int .u8 40, .int .u8 15, .int .u8 34, .int .u8 20, .int .u8 31, .int .u8 10, .int .u8 25, .int .u8 14, .int .u8 19, .int .u8 9, .int .u8 13, .int .u8 8, .int .u8 7, .int .u8 6] t frozen
      | o => o).modify 4 fun
      | .cells _ t frozen => .cells #[.int .u64 1, .int .u64 10, .int .u64 100, .int .u64 1000, .int .u64 10000, .int .u64 100000, .int .u64 1000000, .int .u64 10000000, .int .u64 100000000, .int .u64 1000000000, .int .u64 10000000000, .int .u64 100000000000, .int .u64 1000000000000, .int .u64 10000000000000, .int .u64 100000000000000, .int .u64 1000000000000000, .int .u64 10000000000000000, .int .u64 100000000000000000, .int .u64 1000000000000000000, .int .u64 10000000000000000000] t frozen
      | o => o).modify 2 fun
      | .cells _ t frozen => .cells #[.int .u8 128, .int .u8 191, .int .u8 160, .int .u8 191, .int .u8 128, .int .u8 159, .int .u8 144, .int .u8 191, .int .u8 128, .int .u8 143, .int .u8 0, .int .u8 0, .int .u8 0, .int .u8 0, .int .u8 0, .int .u8 0, .int .u8 0, .int .u8 0, .int .u8 0, .int .u8 0, .int .u8 0, .int .u8 0, .int .u8 0, .int .u8 0, .int .u8 0, .int .u8 0, .int .u8 0, .int .u8 0, .int .u8 0, .int .u8 0, .int .u8 0, .int .u8 0] t frozen
      | o => o).modify 0 fun
      | .cells _ t frozen => .cells #[.int .i64 0, .int .i64 16, .int .i64 0, .int .i64 16, .int .i64 12, .int .i64 10, .int .i64 28, .int .i64 6, .int .i64 10, .int .i64 34, .int .i64 6, .int .i64 10, .int .i64 40, .int .i64 8, .int .i64 8, .int .i64 48, .int .i64 10, .int .i64 10, .int .i64 58, .int .i64 2, .int .i64 0] t frozen
      | o => o).modify 1 fun
      | .cells _ t frozen => .cells (Go.Pinned.utf8FirstZ.map fun (n : Nat) => Value.int .u8 n).toArray t frozen
      | o => o) } : World).forCall (fun _ _ => 0) ⟨#[], #[.agg #[.int .i64 0, .int .i64 0, .int .i64 0, .int .i64 0, .string ByteArray.empty, .int .i64 0], .int .i64 0, .int .i64 0], []⟩).memory :=
  laidMet_of_run' 8 (by kernel_rfl) (by kernel_rfl)
theorem reads (os : Os) {H : Type} (enc : TypeId × Value → H) : ∃ places, DataW.whole enc Tryd.prog (({ (World.holding Tryd.prog os ⟨#[], #[], []⟩) with heap := (((((((World.holding Tryd.prog os ⟨#[], #[], []⟩).heap.modify 5 fun
      | .cells _ t frozen => .cells #[.int .u8 0, .int .u8 1, .int .u8 28, .int .u8 2, .int .u8 29, .int .u8 14, .int .u8 24, .int .u8 3, .int .u8 30, .int .u8 22, .int .u8 20, .int .u8 15, .int .u8 25, .int .u8 17, .int .u8 4, .int .u8 8, .int .u8 31, .int .u8 27, .int .u8 13, .int .u8 23, .int .u8 21, .int .u8 19, .int .u8 16, .int .u8 7, .int .u8 26, .int .u8 12, .int .u8 18, .int .u8 6, .int .u8 11, .int .u8 5, .int .u8 10, .int .u8 9] t frozen
      | o => o).modify 6 fun
      | .cells _ t frozen => .cells #[.int .u8 0, .int .u8 1, .int .u8 56, .int .u8 2, .int .u8 57, .int .u8 49, .int .u8 28, .int .u8 3, .int .u8 61, .int .u8 58, .int .u8 42, .int .u8 50, .int .u8 38, .int .u8 29, .int .u8 17, .int .u8 4, .int .u8 62, .int .u8 47, .int .u8 59, .int .u8 36, .int .u8 45, .int .u8 43, .int .u8 51, .int .u8 22, .int .u8 53, .int .u8 39, .int .u8 33, .int .u8 30, .int .u8 24, .int .u8 18, .int .u8 12, .int .u8 5, .int .u8 63, .int .u8 55, .int .u8 48, .int .u8 27, .int .u8 60, .int .u8 41, .int .u8 37, .int .u8 16, .int .u8 46, .int .u8 35, .int .u8 44, .int .u8 21, .int .u8 52, .int .u8 32, .int .u8 23, .int .u8 11, .int .u8 54, .int .u8 26, .int .u8 40, .int .u8 15, .int .u8 34, .int .u8 20, .int .u8 31, .int .u8 10, .int .u8 25, .int .u8 14, .int .u8 19, .int .u8 9, .int .u8 13, .int .u8 8, .int .u8 7, .int .u8 6] t frozen
      | o => o).modify 4 fun
      | .cells _ t frozen => .cells #[.int .u64 1, .int .u64 10, .int .u64 100, .int .u64 1000, .int .u64 10000, .int .u64 100000, .int .u64 1000000, .int .u64 10000000, .int .u64 100000000, .int .u64 1000000000, .int .u64 10000000000, .int .u64 100000000000, .int .u64 1000000000000, .int .u64 10000000000000, .int .u64 100000000000000, .int .u64 1000000000000000, .int .u64 10000000000000000, .int .u64 100000000000000000, .int .u64 1000000000000000000, .int .u64 10000000000000000000] t frozen
      | o => o).modify 2 fun
      | .cells _ t frozen => .cells #[.int .u8 128, .int .u8 191, .int .u8 160, .int .u8 191, .int .u8 128, .int .u8 159, .int .u8 144, .int .u8 191, .int .u8 128, .int .u8 143, .int .u8 0, .int .u8 0, .int .u8 0, .int .u8 0, .int .u8 0, .int .u8 0, .int .u8 0, .int .u8 0, .int .u8 0, .int .u8 0, .int .u8 0, .int .u8 0, .int .u8 0, .int .u8 0, .int .u8 0, .int .u8 0, .int .u8 0, .int .u8 0, .int .u8 0, .int .u8 0, .int .u8 0, .int .u8 0] t frozen
      | o => o).modify 0 fun
      | .cells _ t frozen => .cells #[.int .i64 0, .int .i64 16, .int .i64 0, .int .i64 16, .int .i64 12, .int .i64 10, .int .i64 28, .int .i64 6, .int .i64 10, .int .i64 34, .int .i64 6, .int .i64 10, .int .i64 40, .int .i64 8, .int .i64 8, .int .i64 48, .int .i64 10, .int .i64 10, .int .i64 58, .int .i64 2, .int .i64 0] t frozen
      | o => o).modify 1 fun
      | .cells _ t frozen => .cells (Go.Pinned.utf8FirstZ.map fun (n : Nat) => Value.int .u8 n).toArray t frozen
      | o => o) } : World).forCall (fun _ _ => 0) ⟨#[], #[.agg #[.int .i64 0, .int .i64 0, .int .i64 0, .int .i64 0, .string ByteArray.empty, .int .i64 0], .int .i64 0, .int .i64 0], []⟩).memory Tryd.f4.params.toList Rows.headSpoiltSpec.vars false (#[.agg #[.int .i64 0, .int .i64 0, .int .i64 0, .int .i64 0, .string ByteArray.empty, .int .i64 0], .int .i64 0, .int .i64 0] : Array Value).toList 8 = some ([.agg [.agg [.lit (.int .i64 0), .lit (.int .i64 0), .lit (.int .i64 0), .lit (.int .i64 0)], .lit (.string []), .lit (.int .i64 0)], .lit (.int .i64 0), .lit (.int .i64 0)], [], places) :=
  ⟨[], by kernel_rfl⟩
set_option maxRecDepth 100000 in
theorem lifted (os : Os) (started : os.Started) (H : Type) (enc : TypeId × Value → H) (F : Stop.Interp) :
    ReturnsInHanded {} Tryd.checked os 4 .any ((OpenSpec.ofChange Rows.headSpoiltSpec).preRow enc Tryd.prog Tryd.f4 Rows.headSpoiltRow.domain false Rows.headSpoiltRow.laid) (((OpenSpec.ofChange Rows.headSpoiltSpec).at F).post enc Tryd.prog Tryd.f4 false true false false) := by
  obtain ⟨places, hx⟩ := reads os enc
  refine returnsInHanded_of_row (C := Tryd.checked) (s := (OpenSpec.ofChange Rows.headSpoiltSpec)) own started (by kernel_rfl) Tryd.func4
    (witness_row_at (enc := enc) (C := Tryd.checked) false ({ (World.holding Tryd.prog os ⟨#[], #[], []⟩) with heap := (((((((World.holding Tryd.prog os ⟨#[], #[], []⟩).heap.modify 5 fun
      | .cells _ t frozen => .cells #[.int .u8 0, .int .u8 1, .int .u8 28, .int .u8 2, .int .u8 29, .int .u8 14, .int .u8 24, .int .u8 3, .int .u8 30, .int .u8 22, .int .u8 20, .int .u8 15, .int .u8 25, .int .u8 17, .int .u8 4, .int .u8 8, .int .u8 31, .int .u8 27, .int .u8 13, .int .u8 23, .int .u8 21, .int .u8 19, .int .u8 16, .int .u8 7, .int .u8 26, .int .u8 12, .int .u8 18, .int .u8 6, .int .u8 11, .int .u8 5, .int .u8 10, .int .u8 9] t frozen
      | o => o).modify 6 fun
      | .cells _ t frozen => .cells #[.int .u8 0, .int .u8 1, .int .u8 56, .int .u8 2, .int .u8 57, .int .u8 49, .int .u8 28, .int .u8 3, .int .u8 61, .int .u8 58, .int .u8 42, .int .u8 50, .int .u8 38, .int .u8 29, .int .u8 17, .int .u8 4, .int .u8 62, .int .u8 47, .int .u8 59, .int .u8 36, .int .u8 45, .int .u8 43, .int .u8 51, .int .u8 22, .int .u8 53, .int .u8 39, .int .u8 33, .int .u8 30, .int .u8 24, .int .u8 18, .int .u8 12, .int .u8 5, .int .u8 63, .int .u8 55, .int .u8 48, .int .u8 27, .int .u8 60, .int .u8 41, .int .u8 37, .int .u8 16, .int .u8 46, .int .u8 35, .int .u8 44, .int .u8 21, .int .u8 52, .int .u8 32, .int .u8 23, .int .u8 11, .int .u8 54, .int .u8 26, .int .u8 40, .int .u8 15, .int .u8 34, .int .u8 20, .int .u8 31, .int .u8 10, .int .u8 25, .int .u8 14, .int .u8 19, .int .u8 9, .int .u8 13, .int .u8 8, .int .u8 7, .int .u8 6] t frozen
      | o => o).modify 4 fun
      | .cells _ t frozen => .cells #[.int .u64 1, .int .u64 10, .int .u64 100, .int .u64 1000, .int .u64 10000, .int .u64 100000, .int .u64 1000000, .int .u64 10000000, .int .u64 100000000, .int .u64 1000000000, .int .u64 10000000000, .int .u64 100000000000, .int .u64 1000000000000, .int .u64 10000000000000, .int .u64 100000000000000, .int .u64 1000000000000000, .int .u64 10000000000000000, .int .u64 100000000000000000, .int .u64 1000000000000000000, .int .u64 10000000000000000000] t frozen
      | o => o).modify 2 fun
      | .cells _ t frozen => .cells #[.int .u8 128, .int .u8 191, .int .u8 160, .int .u8 191, .int .u8 128, .int .u8 159, .int .u8 144, .int .u8 191, .int .u8 128, .int .u8 143, .int .u8 0, .int .u8 0, .int .u8 0, .int .u8 0, .int .u8 0, .int .u8 0, .int .u8 0, .int .u8 0, .int .u8 0, .int .u8 0, .int .u8 0, .int .u8 0, .int .u8 0, .int .u8 0, .int .u8 0, .int .u8 0, .int .u8 0, .int .u8 0, .int .u8 0, .int .u8 0, .int .u8 0, .int .u8 0] t frozen
      | o => o).modify 0 fun
      | .cells _ t frozen => .cells #[.int .i64 0, .int .i64 16, .int .i64 0, .int .i64 16, .int .i64 12, .int .i64 10, .int .i64 28, .int .i64 6, .int .i64 10, .int .i64 34, .int .i64 6, .int .i64 10, .int .i64 40, .int .i64 8, .int .i64 8, .int .i64 48, .int .i64 10, .int .i64 10, .int .i64 58, .int .i64 2, .int .i64 0] t frozen
      | o => o).modify 1 fun
      | .cells _ t frozen => .cells (Go.Pinned.utf8FirstZ.map fun (n : Nat) => Value.int .u8 n).toArray t frozen
      | o => o) } : World) #[.agg #[.int .i64 0, .int .i64 0, .int .i64 0, .int .i64 0, .string ByteArray.empty, .int .i64 0], .int .i64 0, .int .i64 0] rfl (by kernel_rfl) (by kernel_rfl) (by kernel_rfl)
      (OpenSpec.preRow_of_cond 8 hx (by kernel_rfl) (fun k hk => by cases hk) (by kernel_rfl) (laid_met os))) ?_
  intro W base args ds gs before hval hW _ _ _ hL _ _
  exact contract H enc W base args ds gs before hval hW hL
theorem said : Rows.HeadSpoiltSaid :=
  OpenClaim.holds_of_cond 4 Tryd.f4 rfl rfl rfl rfl rfl rfl rfl ⟨rfl, rfl, rfl, rfl, rfl⟩ rfl rfl rfl rfl rfl (by kernel_rfl) Tryd.func4 (by kernel_rfl)
    (of_decide_eq_true (by kernel_rfl)) (by unfold Func.isWrapper; first | (rw [if_pos (by decide +kernel)]; kernel_rfl) | (rw [if_neg (by decide +kernel)]; exact ⟨rfl, rfl⟩))
    (fun os started H enc _ F => by rw [OpenClaim.pre_eq_preRow]; exact lifted os started H enc F)
theorem plain (f : FuncId) (fn : Func) (hf : Tryd.pinned.checked.prog.funcNamed "shelf/shelflaw7.HeadSpoilt" = some f) (hfn : Tryd.pinned.checked.prog.funcs[f]? = some fn) :
    false = Tryd.pinned.checked.prog.looks [] ∧ ∀ (j : Nat) t, fn.params[j]? = some t → Tryd.pinned.checked.prog.wantsStandIn t = false := by
  obtain rfl : f = 4 := Option.some.inj ((show Tryd.prog.funcNamed "shelf/shelflaw7.HeadSpoilt" = some 4 by kernel_rfl).symm.trans hf) |>.symm
  obtain rfl : fn = Tryd.f4 := (Option.some.inj (Tryd.func4.symm.trans hfn)).symm
  refine ⟨by kernel_rfl, fun j t ht => ?_⟩
  rw [Tryd.params4] at ht
  have hmem := Array.mem_of_getElem? ht
  have s9 : Tryd.pinned.checked.prog.wantsStandIn 9 = false := by kernel_rfl
  have s3 : Tryd.pinned.checked.prog.wantsStandIn 3 = false := by kernel_rfl
  have sH : Tryd.pinned.checked.prog.wantsStandIn 25 = false := by kernel_rfl
  simp at hmem
  first
    | (rcases hmem with rfl | rfl | rfl <;> assumption)
    | (rcases hmem with rfl | rfl <;> assumption)
    | (subst hmem; assumption)
theorem card : Rows.HeadSpoiltCardSaid :=
  Claim7.holds_tied_plain_at .later [] _ _ _ _ said (fun _ h => by cases h) (by kernel_rfl) (fun _ h => by cases h) headSpoilt_row_tie rfl ⟨rfl, rfl⟩ (by kernel_rfl) rfl plain (by kernel_rfl)
end Go.Proofs.YtbkfkanknfdelabDoor.headSpoilt
namespace Go.Proofs.YtbkfkanknfdelabDoor
theorem headSpoilt_holds : Rows.HeadSpoiltCardSaid := headSpoilt.card
#print axioms headSpoilt_holds
end Go.Proofs.YtbkfkanknfdelabDoor
