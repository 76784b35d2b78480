
-- elf: the string at a place of a table: contracts.
import Derived.Test.YtkmehjikllilaaaDoorS0
import Derived.Test.YtkmehjikllilaaaDoorF2
import Derived.Test.YtkmehjikllilaaaDoorShelf
namespace Go.Proofs.YtkmehjikllilaaaDoor
open Go.ChangeShapes Go.WideShapes Go.ChangeAt Go.RowKit
set_option linter.unusedVariables false
set_option maxRecDepth 100000

theorem textAt_out (b : ByteArray) (off : Int) (w : World) (h : off < 0 ∨ (b.size : Int) ≤ off) (hm : b.size ≤ maxLen) :
    Calls Tryd.prog 65 #[.string b, .int .i64 off] w fun r w' => r = .panicked (gives 56) ∧ w' = w := by
  unfold maxLen at hm
  by_cases h1 : off < 0
  · have h2 : ¬ (0 ≤ off) := by omega
    go_enter Tryd.func65, Tryd.ntmps65
    go_wp2_with (first | (go_at_call 47; refine (require_no _ _ _ (by first | rfl | exact decide_eq_false (by omega))).mono ?_; rintro r w1 ⟨rfl, hw⟩; subst w1))
    exact ⟨rfl, rfl, rfl⟩
  · have h2 : 0 ≤ off := by omega
    have h3 : ¬ off < (b.size : Int) := by omega
    go_enter Tryd.func65, Tryd.ntmps65
    go_wp2_with (first | (go_at_call 47; refine (require_no _ _ _ (by first | rfl | exact decide_eq_false (by omega))).mono ?_; rintro r w1 ⟨rfl, hw⟩; subst w1))
    exact ⟨rfl, rfl, rfl⟩
theorem textAt_none (b : ByteArray) (off : Nat) (w : World) (h : off < b.size) (hn : NoStr b off) (hm : b.size ≤ maxLen) :
    Calls Tryd.prog 65 #[.string b, .int .i64 off] w fun r w' => r = .panicked (gives 56) ∧ w' = w := by
  unfold maxLen at hm
  have h2 : (0 : Int) ≤ (off : Int) := by omega
  have h3 : (off : Int) < (b.size : Int) := by omega
  have hI : Hid (∀ w, Calls Tryd.prog 71 #[.string (b.extract off b.size), .int .u8 0] w fun e w' => e = .returned (.int .i64 (-1)) ∧ w' = w) := fun w =>
    (Tryd.strings_IndexByte _ 0 w).mono fun e w' hh => by
      obtain ⟨rfl, h2⟩ := hh
      exact ⟨congrArg (fun x => Ending.returned (.int .i64 x)) (index_no b off hn), h2⟩
  go_enter Tryd.func65, Tryd.ntmps65
  go_wp2_with (first | (go_at_call 71; refine (hI.out _).mono ?_; rintro r w1 ⟨rfl, hw⟩; subst w1) | (go_at_call 47; refine (require_no _ _ _ (by first | (with_reducible rfl) | exact decide_eq_false (by omega))).mono ?_; rintro r w1 ⟨rfl, hw⟩; subst w1) | (go_at_call 47; refine (require_ok _ _ _ (by first | (with_reducible rfl) | exact decide_eq_true (by omega))).mono ?_; rintro r w1 ⟨rfl, hw⟩; subst w1))
  exact ⟨rfl, rfl, rfl⟩
theorem textAt_ok (b : ByteArray) (off j : Nat) (w : World) (h : StrAt b off j) (hm : b.size ≤ maxLen) :
    Calls Tryd.prog 65 #[.string b, .int .i64 off] w fun r w' => r = .returned (.string (b.extract off j)) ∧ w' = w := by
  unfold maxLen at hm
  have hI : Hid (∀ w, Calls Tryd.prog 71 #[.string (b.extract off b.size), .int .u8 0] w fun e w' => e = .returned (.int .i64 ((j : Int) - off)) ∧ w' = w) := fun w =>
    (Tryd.strings_IndexByte _ 0 w).mono fun e w' hh => by
      obtain ⟨rfl, h2⟩ := hh
      exact ⟨congrArg (fun x => Ending.returned (.int .i64 x)) (index_str b off j h), h2⟩
  obtain ⟨g1, g2, g3, g4⟩ := h
  clear g3 g4
  have h2 : (0 : Int) ≤ (off : Int) := by omega
  have h3 : (off : Int) < (b.size : Int) := by omega
  have hsl : ∀ (x : Int) (w : World), x = j → (Instr.slice 9 (.string b) (some (.int .i64 (off : Int))) (some (.int .i64 x)) none).run Tryd.prog w = .ok (.string (b.extract off j)) w := fun x w hx => by
    subst hx
    rw [run_slice_string w 9 b .i64 .i64 (off : Int) (j : Int) Tryd.underlying9 (by omega) (by omega) (by omega)]
    rfl
  have hs1 := fun w => hsl _ w (show (off : Int) + ((j : Int) - off) = j by omega)
  have hs2 := fun w => hsl j w rfl
  clear hsl
  go_enter Tryd.func65, Tryd.ntmps65
  go_wp2_with (first | (go_at_call 71; refine (hI.out _).mono ?_; rintro r w1 ⟨rfl, hw⟩; subst w1) | (go_at_call 47; refine (require_ok _ _ _ (by first | (with_reducible rfl) | exact decide_eq_true (by omega))).mono ?_; rintro r w1 ⟨rfl, hw⟩; subst w1))
  go_ret
  exact ⟨rfl, rfl⟩
end Go.Proofs.YtkmehjikllilaaaDoor
