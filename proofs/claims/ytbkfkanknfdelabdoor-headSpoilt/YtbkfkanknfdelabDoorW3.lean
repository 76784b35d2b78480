
-- head.Format: a contract.
import Derived.Test.YtbkfkanknfdelabDoorW1
import Derived.Test.YtbkfkanknfdelabDoorO2
import Derived.BigRegion
import Derived.RegionTactic
namespace Go.Proofs.YtbkfkanknfdelabDoor
open Go.ChangeShapes Go.WideShapes Go.ChangeAt Go.RowKit
set_option linter.unusedVariables false
set_option maxRecDepth 100000

theorem cols_drew {w : World} (h : Cols w) : Cols w.drew := h
theorem tabs_drew {w : World} (h : Tabs w) : Tabs w.drew := ⟨h.t10, h.t8, h.h3⟩
theorem format_long (d u g m s : Int) (n : ByteArray) (w : World) (hC : Cols w) (hm : n.size ≤ maxLen) (hl : 16 < n.size) :
    Calls Tryd.prog 6 #[.agg #[.int .i64 d, .int .i64 u, .int .i64 g, .int .i64 m, .string n, .int .i64 s]] w fun e w' => e = .returned (.tuple #[.string ⟨#[]⟩, .int .i64 80]) ∧ Below w.heap.size w w' := by
  unfold maxLen at hm
  have k1 : (w.alloc (.cells #[.int .i64 d, .int .i64 u, .int .i64 g, .int .i64 m, .string n, .int .i64 s] 25)).cell? ⟨0, 1, none⟩ = some (.int .i64 16) := (hC.alloc _) 1 _ rfl
  have b1 : decide ((16 : Int) < (n.size : Int)) = true := by simp; omega
  clear hC
  go_enter Tryd.func6, Tryd.ntmps6
  go_wp2
  go_ret2
  exact ⟨rfl, bup (Below.refl _ _) _⟩
theorem format_blank (d u g m s : Int) (n : ByteArray) (w : World) (hC : Cols w) (hm : n.size ≤ maxLen) (hl : n.size ≤ 16) (HS : Hid (∀ w, Calls Tryd.prog 11 #[.string n, .string ⟨#[32]⟩] w fun e w' => e = .returned (.bool true) ∧ w' = w)) :
    Calls Tryd.prog 6 #[.agg #[.int .i64 d, .int .i64 u, .int .i64 g, .int .i64 m, .string n, .int .i64 s]] w fun e w' => e = .returned (.tuple #[.string ⟨#[]⟩, .int .i64 80]) ∧ Below w.heap.size w w' := by
  unfold maxLen at hm
  have k1 : (w.alloc (.cells #[.int .i64 d, .int .i64 u, .int .i64 g, .int .i64 m, .string n, .int .i64 s] 25)).cell? ⟨0, 1, none⟩ = some (.int .i64 16) := (hC.alloc _) 1 _ rfl
  have b1 : decide ((16 : Int) < (n.size : Int)) = false := by simp; omega
  clear hC
  go_enter Tryd.func6, Tryd.ntmps6
  go_wp2_with (go_at_call 11; refine (HS.out _).mono ?_; rintro e w1 ⟨rfl, hw1⟩; subst w1)
  go_ret2
  exact ⟨rfl, bup (Below.refl _ _) _⟩
set_option maxHeartbeats 4000000 in
theorem format_bad (d u g m s : Int) (n : ByteArray) (w : World) (hC : Cols w) (hm : n.size ≤ maxLen) (hl : n.size ≤ 16) (HS : Hid (∀ w, Calls Tryd.prog 11 #[.string n, .string ⟨#[32]⟩] w fun e w' => e = .returned (.bool false) ∧ w' = w))
    (HW : Hid (∀ w, Cols w → Tabs w → Calls Tryd.prog 12 #[.agg #[.int .i64 0, .int .i64 d, .int .i64 u, .int .i64 g, .int .i64 m, .int .i64 s, .int .i64 0]] w fun e w' => e = .returned (.tuple #[.agg #[.string ⟨#[]⟩, .string ⟨#[]⟩, .string ⟨#[]⟩, .string ⟨#[]⟩, .string ⟨#[]⟩, .string ⟨#[]⟩, .string ⟨#[]⟩], .int .i64 11]) ∧ Below w.heap.size w w')) (HT : Hid (Tabs w)) :
    Calls Tryd.prog 6 #[.agg #[.int .i64 d, .int .i64 u, .int .i64 g, .int .i64 m, .string n, .int .i64 s]] w fun e w' => e = .returned (.tuple #[.string ⟨#[]⟩, .int .i64 11]) ∧ Below w.heap.size w w' := by
  unfold maxLen at hm
  have k1 : (w.alloc (.cells #[.int .i64 d, .int .i64 u, .int .i64 g, .int .i64 m, .string n, .int .i64 s] 25)).cell? ⟨0, 1, none⟩ = some (.int .i64 16) := (hC.alloc _) 1 _ rfl
  have b1 : decide ((16 : Int) < (n.size : Int)) = false := by simp; omega
  have HC : Hid (Cols w) := hC
  clear hC
  go_enter Tryd.func6, Tryd.ntmps6
  go_wp2_with (go_at_call 11; refine (HS.out _).mono ?_; rintro e w1 ⟨rfl, hw1⟩; subst w1)
  go_region
  all_goals
    go_wp2_with (go_at_call 12; refine (HW.out _ (cols_drew ((HC.out.alloc (.cells #[.int .i64 d, .int .i64 u, .int .i64 g, .int .i64 m, .string n, .int .i64 s] 25)).alloc (.cells #[.int .i64 0, .int .i64 d, .int .i64 u, .int .i64 g, .int .i64 m, .int .i64 s, .int .i64 0] 42))) (tabs_drew ((HT.out.on (bup (Below.refl _ _) (.cells #[.int .i64 d, .int .i64 u, .int .i64 g, .int .i64 m, .string n, .int .i64 s] 25))).on (bup (Below.refl _ _) (.cells #[.int .i64 0, .int .i64 d, .int .i64 u, .int .i64 g, .int .i64 m, .int .i64 s, .int .i64 0] 42))))).mono ?_; rintro e w1 ⟨rfl, hb1⟩)
    go_ret2
    exact ⟨rfl, bup (bel3 (Below.drew (bup (bup (Below.refl _ _) _) _)) hb1) _⟩
set_option maxHeartbeats 4000000 in
theorem format_ok (d u g m s : Int) (n : ByteArray) (w : World) (hC : Cols w) (hm : n.size ≤ maxLen) (s1 s2 s3 s4 s5 J : ByteArray) (hl : n.size ≤ 16) (HS : Hid (∀ w, Calls Tryd.prog 11 #[.string n, .string ⟨#[32]⟩] w fun e w' => e = .returned (.bool false) ∧ w' = w))
    (HW : Hid (∀ w, Cols w → Tabs w → Calls Tryd.prog 12 #[.agg #[.int .i64 0, .int .i64 d, .int .i64 u, .int .i64 g, .int .i64 m, .int .i64 s, .int .i64 0]] w fun e w' => e = .returned (.tuple #[.agg #[.string ⟨#[]⟩, .string s1, .string s2, .string s3, .string s4, .string s5, .string ⟨#[]⟩], .int .i64 0]) ∧ Below w.heap.size w w')) (HT : Hid (Tabs w))
    (HJ : Hid (∀ w, Cols w → Calls Tryd.prog 13 #[.agg #[.string n, .string s1, .string s2, .string s3, .string s4, .string s5, .string ⟨#[96, 10]⟩]] w fun e w' => e = .returned (.string J) ∧ Below w.heap.size w w')) :
    Calls Tryd.prog 6 #[.agg #[.int .i64 d, .int .i64 u, .int .i64 g, .int .i64 m, .string n, .int .i64 s]] w fun e w' => e = .returned (.tuple #[.string J, .int .i64 0]) ∧ Below w.heap.size w w' := by
  unfold maxLen at hm
  have k1 : (w.alloc (.cells #[.int .i64 d, .int .i64 u, .int .i64 g, .int .i64 m, .string n, .int .i64 s] 25)).cell? ⟨0, 1, none⟩ = some (.int .i64 16) := (hC.alloc _) 1 _ rfl
  have b1 : decide ((16 : Int) < (n.size : Int)) = false := by simp; omega
  have HC : Hid (Cols w) := hC
  clear hC
  go_enter Tryd.func6, Tryd.ntmps6
  go_wp2_with (go_at_call 11; refine (HS.out _).mono ?_; rintro e w1 ⟨rfl, hw1⟩; subst w1)
  go_region
  all_goals
    go_wp2_with (first
      | (go_at_call 12; refine (HW.out _ (cols_drew ((HC.out.alloc (.cells #[.int .i64 d, .int .i64 u, .int .i64 g, .int .i64 m, .string n, .int .i64 s] 25)).alloc (.cells #[.int .i64 0, .int .i64 d, .int .i64 u, .int .i64 g, .int .i64 m, .int .i64 s, .int .i64 0] 42))) (tabs_drew ((HT.out.on (bup (Below.refl _ _) (.cells #[.int .i64 d, .int .i64 u, .int .i64 g, .int .i64 m, .string n, .int .i64 s] 25))).on (bup (Below.refl _ _) (.cells #[.int .i64 0, .int .i64 d, .int .i64 u, .int .i64 g, .int .i64 m, .int .i64 s, .int .i64 0] 42))))).mono ?_; rintro e w1 ⟨rfl, hb1⟩; have hr1 := hup (hkeep hb1 (hup (heap_alloc_new w (.cells #[.int .i64 d, .int .i64 u, .int .i64 g, .int .i64 m, .string n, .int .i64 s] 25)) (.cells #[.int .i64 0, .int .i64 d, .int .i64 u, .int .i64 g, .int .i64 m, .int .i64 s, .int .i64 0] 42))) (.cells #[.string ⟨#[]⟩, .string s1, .string s2, .string s3, .string s4, .string s5, .string ⟨#[]⟩] 44); have x4 := cell_of_row _ w.heap.size 4 _ _ _ hr1)
      | (go_at_call 13; refine (HJ.out _ ((HC.out.on (bel3 (Below.drew (bup (bup (Below.refl _ _) (.cells #[.int .i64 d, .int .i64 u, .int .i64 g, .int .i64 m, .string n, .int .i64 s] 25)) (.cells #[.int .i64 0, .int .i64 d, .int .i64 u, .int .i64 g, .int .i64 m, .int .i64 s, .int .i64 0] 42))) hb1)).alloc (.cells #[.string n, .string s1, .string s2, .string s3, .string s4, .string s5, .string ⟨#[96, 10]⟩] 44))).mono ?_; rintro e w2 ⟨rfl, hb2⟩))
    go_ret2
    exact ⟨rfl, bel3 (bup (bel3 (Below.drew (bup (bup (Below.refl _ _) _) _)) hb1) _) hb2⟩
end Go.Proofs.YtbkfkanknfdelabDoor
