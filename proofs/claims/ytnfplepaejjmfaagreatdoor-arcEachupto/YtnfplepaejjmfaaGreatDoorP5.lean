
-- arc: an ordinary member's name.
import Derived.Test.YtnfplepaejjmfaaGreatDoorP4
import Derived.Test.YtnfplepaejjmfaaGreatDoorD5b
import Derived.Test.YtnfplepaejjmfaaGreatDoorD6
namespace Go.Proofs.YtnfplepaejjmfaaGreatDoor
open Go.ChangeShapes Go.WideShapes Go.ChangeAt Go.RowKit
set_option linter.unusedVariables false
set_option maxRecDepth 100000

set_option maxHeartbeats 4000000 in
theorem name_own (B : Nat) (t : ByteArray) (d u g m s a z k so nu : Int) (n fn nm da : ByteArray) (w : World) (hB : w.heap[B]? = some (.cells #[.int .i64 d, .int .i64 u, .int .i64 g, .int .i64 m, .string n, .int .i64 s, .int .i64 a, .int .i64 z, .int .i64 k, .int .i64 so, .int .i64 nu, .string fn, .string nm, .string da] 86 (0, 0))) (hs : so = 4 ∨ so = 6) :
    Calls Tryz.prog 77 #[.pointer (some ⟨B, 0, none⟩), .string t] w fun e w' => e = .returned (.int .i64 0) ∧ w'.heap[B]? = some (.cells #[.int .i64 d, .int .i64 u, .int .i64 g, .int .i64 m, .string n, .int .i64 s, .int .i64 a, .int .i64 z, .int .i64 k, .int .i64 so, .int .i64 nu, .string fn, .string fn, .string da] 86 (0, 0)) ∧ Kq B w w' := by
  have hlt : B < w.heap.size := (Array.getElem?_eq_some_iff.1 hB).1
  have q9 := cell_row hB 9 _ rfl
  have q10 := cell_row hB 10 _ rfl
  have q11 := cell_row hB 11 _ rfl
  have q12 := cell_row hB 12 _ rfl
  have q13 := cell_row hB 13 _ rfl
  have f12 := froz_row hB 12
  have f13 := froz_row hB 13
  have hB1 := set_row (i := 12) (.string fn) hB
  have hq1 : Kq B w (w.setCell ⟨B, 12, none⟩ (.string fn)) := (Kq.refl B w).set _ _
  clear hB
  rcases hs with hs | hs
  · subst hs
    go_enter Tryz.func77, Tryz.ntmps77
    go_wp2
    go_ret
    exact ⟨rfl, hB1, hq1⟩
  · subst hs
    go_enter Tryz.func77, Tryz.ntmps77
    go_wp2
    go_ret
    exact ⟨rfl, hB1, hq1⟩

set_option maxHeartbeats 4000000 in
theorem name_ref (B : Nat) (t : ByteArray) (d u g m s a z k so nu : Int) (n fn nm da : ByteArray) (w : World) (hB : w.heap[B]? = some (.cells #[.int .i64 d, .int .i64 u, .int .i64 g, .int .i64 m, .string n, .int .i64 s, .int .i64 a, .int .i64 z, .int .i64 k, .int .i64 so, .int .i64 nu, .string fn, .string nm, .string da] 86 (0, 0))) (R : ByteArray) (E : Int) (HL : Hid (Calls Tryz.prog 99 #[.string t, .int .i64 nu] w fun e w' => e = .returned (.tuple #[.string R, .int .i64 E]) ∧ Below w.heap.size w w')) (hs : so = 5) :
    Calls Tryz.prog 77 #[.pointer (some ⟨B, 0, none⟩), .string t] w fun e w' => e = .returned (.int .i64 E) ∧ w'.heap[B]? = some (.cells #[.int .i64 d, .int .i64 u, .int .i64 g, .int .i64 m, .string n, .int .i64 s, .int .i64 a, .int .i64 z, .int .i64 k, .int .i64 so, .int .i64 nu, .string fn, .string R, .string da] 86 (0, 0)) ∧ Kq B w w' := by
  have hlt : B < w.heap.size := (Array.getElem?_eq_some_iff.1 hB).1
  have q9 := cell_row hB 9 _ rfl
  have q10 := cell_row hB 10 _ rfl
  have q11 := cell_row hB 11 _ rfl
  have q12 := cell_row hB 12 _ rfl
  have q13 := cell_row hB 13 _ rfl
  have f12 := froz_row hB 12
  have f13 := froz_row hB 13
  have HR : Hid (w.heap[B]? = some (.cells #[.int .i64 d, .int .i64 u, .int .i64 g, .int .i64 m, .string n, .int .i64 s, .int .i64 a, .int .i64 z, .int .i64 k, .int .i64 so, .int .i64 nu, .string fn, .string nm, .string da] 86 (0, 0))) := hB
  clear hB
  subst hs
  go_enter Tryz.func77, Tryz.ntmps77
  go_wp2_with (go_at_call 99; refine HL.out.mono ?_; rintro e w1 ⟨rfl, hb1⟩; have hB1 := hkeep hb1 HR.out; have r12 := cell_row hB1 12 _ rfl; have g12 := froz_row hB1 12)
  go_ret
  exact ⟨rfl, set_row (i := 12) (.string R) hB1, (Kq.of hb1).set _ _⟩

set_option maxHeartbeats 4000000 in
theorem name_none (B : Nat) (t : ByteArray) (d u g m s a z k so nu : Int) (n fn nm da : ByteArray) (w : World) (hB : w.heap[B]? = some (.cells #[.int .i64 d, .int .i64 u, .int .i64 g, .int .i64 m, .string n, .int .i64 s, .int .i64 a, .int .i64 z, .int .i64 k, .int .i64 so, .int .i64 nu, .string fn, .string nm, .string da] 86 (0, 0))) (h4 : ¬ so = 4) (h6 : ¬ so = 6) (h5 : ¬ so = 5) (h7 : ¬ so = 7) :
    Calls Tryz.prog 77 #[.pointer (some ⟨B, 0, none⟩), .string t] w fun e w' => e = .returned (.int .i64 0) ∧ w'.heap[B]? = some (.cells #[.int .i64 d, .int .i64 u, .int .i64 g, .int .i64 m, .string n, .int .i64 s, .int .i64 a, .int .i64 z, .int .i64 k, .int .i64 so, .int .i64 nu, .string fn, .string nm, .string da] 86 (0, 0)) ∧ Kq B w w' := by
  have hlt : B < w.heap.size := (Array.getElem?_eq_some_iff.1 hB).1
  have q9 := cell_row hB 9 _ rfl
  have q10 := cell_row hB 10 _ rfl
  have q11 := cell_row hB 11 _ rfl
  have q12 := cell_row hB 12 _ rfl
  have q13 := cell_row hB 13 _ rfl
  have f12 := froz_row hB 12
  have f13 := froz_row hB 13
  have b4 : (so == 4) = false := by simp [h4]
  have b6 : (so == 6) = false := by simp [h6]
  have b5 : (so == 5) = false := by simp [h5]
  have b7 : (so == 7) = false := by simp [h7]
  have HR : Hid (w.heap[B]? = some (.cells #[.int .i64 d, .int .i64 u, .int .i64 g, .int .i64 m, .string n, .int .i64 s, .int .i64 a, .int .i64 z, .int .i64 k, .int .i64 so, .int .i64 nu, .string fn, .string nm, .string da] 86 (0, 0))) := hB
  clear hB h4 h6 h5 h7
  go_enter Tryz.func77, Tryz.ntmps77
  go_wp2
  go_ret
  exact ⟨rfl, HR.out, Kq.refl B w⟩

set_option maxHeartbeats 4000000 in
theorem name_long (B : Nat) (t : ByteArray) (d u g m s a z k so nu : Int) (n fn nm da : ByteArray) (w : World) (hB : w.heap[B]? = some (.cells #[.int .i64 d, .int .i64 u, .int .i64 g, .int .i64 m, .string n, .int .i64 s, .int .i64 a, .int .i64 z, .int .i64 k, .int .i64 so, .int .i64 nu, .string fn, .string nm, .string da] 86 (0, 0))) (R D : ByteArray) (E : Int) (HI : Hid (∀ w, Calls Tryz.prog 100 #[.string da, .int .i64 nu] w fun e w' => e = .returned (.tuple #[.string R, .string D, .int .i64 E]) ∧ Below w.heap.size w w')) (hs : so = 7) :
    Calls Tryz.prog 77 #[.pointer (some ⟨B, 0, none⟩), .string t] w fun e w' => e = .returned (.int .i64 E) ∧ w'.heap[B]? = some (.cells #[.int .i64 d, .int .i64 u, .int .i64 g, .int .i64 m, .string n, .int .i64 (D.size : Int), .int .i64 a, .int .i64 z, .int .i64 k, .int .i64 so, .int .i64 nu, .string fn, .string R, .string D] 86 (0, 0)) ∧ Kq B w w' := by
  have hlt : B < w.heap.size := (Array.getElem?_eq_some_iff.1 hB).1
  have q9 := cell_row hB 9 _ rfl
  have q10 := cell_row hB 10 _ rfl
  have q11 := cell_row hB 11 _ rfl
  have q12 := cell_row hB 12 _ rfl
  have q13 := cell_row hB 13 _ rfl
  have f12 := froz_row hB 12
  have f13 := froz_row hB 13
  have HR : Hid (w.heap[B]? = some (.cells #[.int .i64 d, .int .i64 u, .int .i64 g, .int .i64 m, .string n, .int .i64 s, .int .i64 a, .int .i64 z, .int .i64 k, .int .i64 so, .int .i64 nu, .string fn, .string nm, .string da] 86 (0, 0))) := hB
  clear hB
  subst hs
  go_enter Tryz.func77, Tryz.ntmps77
  go_wp2
  go_region_with (go_at_call 100; refine (HI.out _).mono ?_; rintro e w1 ⟨rfl, hb1⟩; have hB1 := hkeep hb1 HR.out; have r12 := cell_row hB1 12 _ rfl; have g12 := froz_row hB1 12; have r13 := cell_row hB1 13 _ rfl; have g13 := froz_row hB1 13; have r5 := cell_row hB1 5 _ rfl; have g5 := froz_row hB1 5)
  all_goals go_wp2
  all_goals go_ret
  all_goals exact ⟨rfl, set_row (i := 5) (.int .i64 (D.size : Int)) (set_row (i := 13) (.string D) (set_row (i := 12) (.string R) hB1)), ((((Kq.refl B w).drew.on hb1).set _ _).set _ _).set _ _⟩

/-- what names.Look and Inline answer here -/
theorem findName_c (B : Nat) (t : ByteArray) (x : Pt) (he : x.e = 0) (w : World) (hB : w.heap[B]? = some (.cells (rowP x) 86 (0, 0))) (ht : t.size < 4294967281) (hM : MaxLenAt w) (hd : x.data.size ≤ maxLen) :
    Calls Tryz.prog 77 #[.pointer (some ⟨B, 0, none⟩), .string t] w fun e w' => e = .returned (.int .i64 (nameW t x).e) ∧ w'.heap[B]? = some (.cells (rowP (nameW t x)) 86 (0, 0)) ∧ Kq B w w' := by
  obtain ⟨⟨d, u, g, m, n, s⟩, a, z, k, ⟨so, nu, fn⟩, nm, da, e⟩ := x
  dsimp only at he hd
  subst he
  unfold nameW
  dsimp only
  by_cases h1 : so = 4 ∨ so = 6
  · rw [if_pos h1]; exact name_own B t d u g m s a z k so nu n fn nm da w hB h1
  rw [if_neg h1]
  by_cases h5 : so = 5
  · rw [if_pos h5]
    exact name_ref B t d u g m s a z k so nu n fn nm da w hB _ _ (plook_c t nu w ht hM) h5
  rw [if_neg h5]
  by_cases h7 : so = 7
  · rw [if_pos h7]
    exact name_long B t d u g m s a z k so nu n fn nm da w hB _ _ _ (fun w => pinline_c da nu w hd) h7
  rw [if_neg h7]
  exact name_none B t d u g m s a z k so nu n fn nm da w hB (fun q => h1 (.inl q)) (fun q => h1 (.inr q)) h5 h7

end Go.Proofs.YtnfplepaejjmfaaGreatDoor
