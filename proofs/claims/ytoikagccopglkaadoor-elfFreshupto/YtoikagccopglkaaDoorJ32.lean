
-- Both Sections answer the same: class 32.
import Derived.Test.YtoikagccopglkaaDoorJ1
import Derived.Test.YtoikagccopglkaaDoorG3
import Derived.Test.YtoikagccopglkaaDoorA3
import Derived.Test.YtoikagccopglkaaDoorA4
import Derived.Test.YtoikagccopglkaaDoorA6
import Derived.Test.YtoikagccopglkaaDoorA7
import Derived.Test.YtoikagccopglkaaDoorA8
import Derived.Test.YtoikagccopglkaaDoorRT
import Derived.Test.YtoikagccopglkaaDoorRS
namespace Go.Proofs.YtoikagccopglkaaDoor
open Go.ChangeShapes Go.WideShapes Go.ChangeAt Go.RowKit
set_option linter.unusedVariables false
set_option maxRecDepth 100000
theorem psecs_ok_32 (b : ByteArray) (so n : Nat) (nm : Int) (hb : b.size ≤ 1048576) (hin : so ≤ b.size ∧ n * 40 ≤ b.size - so) (ho : ord b = 0 ∨ ord b = 1)
    (hT : ∀ w : World, Magic w → Calls Tryd.prog 12 #[.string b] w fun r w' => ∃ k, r = .returned (.agg #[.pointer (some ⟨k, 0, none⟩), .string (b.extract so (so + n * 40)), .int .i64 n, .int .i64 nm]) ∧ w'.heap[k]? = some (.cells (fileCells 32 (ord b) b) 62 (0, 0)) ∧ Below w.heap.size w w') :
    PSecs b n (fun i => secOf b 32 (ord b) (so + i * 40)) 0 := by
  intro w hM
  have hm : b.size ≤ maxLen := by unfold maxLen; omega
  refine (Sections_ok b _ n nm _ (fun i => (secOf b 32 (ord b) (so + i * 40)).v) w hM hT (fun w k hF => sections_ok _ n k nm _ _ w hF (by omega) (fun i => rfl) (fun i => Sec.one _) (fun i w' hi hF' => at_32 b so n i k nm (ord b) w' hm hin ho hi hF'))).mono ?_
  rintro r w' ⟨g, h1, h2, h3, h4⟩
  exact ⟨_, h1, secsIn_row h2 h3 (by unfold maxLen; omega), h4⟩
theorem psecs_no_32 (b : ByteArray) (s : Nat → Sec) (e : Int) (hT : ∀ w : World, Magic w → Calls Tryd.prog 12 #[.string b] w fun r w' => r = .panicked (gives e) ∧ Below w.heap.size w w') : PSecs b 0 s e := by
  intro w hM
  refine (Sections_no b e w hM hT).mono ?_
  rintro r w' ⟨h1, h2⟩
  exact ⟨_, h1, secsIn_nil _ _ _, h2⟩
theorem dsecs_no_32 (b : ByteArray) (s : Nat → Sec) (e : Int) (hT : ∀ w : World, Calls Tryd.prog 5 #[.string b] w fun r w' => r = .returned (.tuple #[.slice none 0 0, .int .i64 e]) ∧ Below w.heap.size w w') : DSecs b 0 s e := by
  intro w
  refine (hT w).mono ?_
  rintro r w' ⟨h1, h2⟩
  exact ⟨_, h1, secsIn_nil _ _ _, h2⟩
theorem secs_32' (b : ByteArray) (h2 h3 h7 : Int) (so q h6 : Nat) (hb : b.size ≤ 1048576) (hE : identE b = 0) (hc : cls b = 32) (hso64 : so < 18446744073709551616) (hq6 : q < 65536) (hh6 : h6 < 65536)
    (hH : ∀ (w : World) (k : Nat), w.heap[k]? = some (.cells (fileCells 32 (ord b) b) 62 (0, 0)) → Calls Tryd.prog 19 #[.pointer (some ⟨k, 0, none⟩)] w fun r w' => r = .returned (.agg #[.int .i64 32, .int .i64 (ord b), .int .i64 h2, .int .i64 h3, .int .u64 (so : Int), .int .i64 (q : Int), .int .i64 (h6 : Int), .int .i64 h7]) ∧ Below w.heap.size w w')
    (hR : ∀ w : World, Calls Tryd.prog 14 #[.string b] w fun r w' => r = .returned (.tuple #[.agg #[.int .i64 32, .int .i64 (ord b), .int .i64 h2, .int .i64 h3, .int .u64 (so : Int), .int .i64 (q : Int), .int .i64 (h6 : Int), .int .i64 h7], .int .i64 0]) ∧ Below w.heap.size w w') :
    ∃ n s e, n ≤ 26214 ∧ SecB s ∧ ((e : Int) ≠ 0 → n = 0) ∧ PSecs b n s e ∧ DSecs b n s e := by
  have hm : b.size ≤ maxLen := by unfold maxLen; omega
  have ho := ord_ok b hE
  have hI := id_32 b hm hE hc
  have hP : ∀ w : World, Calls Tryd.prog 15 #[.int .i64 32, .int .i64 40, .int .i64 64] w fun r w' => r = .returned (.int .i64 ((40 : Nat) : Int)) ∧ w' = w := fun w => pick_32 _ _ w
  have hW (n : Nat) (hn : n < 18446744073709551616) (h : so ≤ b.size ∧ n ≤ b.size - so) : ∀ w : World, Calls Tryd.prog 16 #[.int .i64 b.size, .int .u64 (so : Int), .int .u64 (n : Int)] w fun r w' => r = .returned (.bool true) ∧ w' = w := fun w => wi_ok b.size so n w h.1 h.2 hm
  have hW' (n : Nat) (hn : n < 18446744073709551616) (h : ¬ (so ≤ b.size ∧ n ≤ b.size - so)) : ∀ w : World, Calls Tryd.prog 16 #[.int .i64 b.size, .int .u64 (so : Int), .int .u64 (n : Int)] w fun r w' => r = .returned (.bool false) ∧ w' = w := fun w => wi_no b.size so n w hso64 hn h hm
  have hX (i : Nat) : ∃ x0 x1 x2 x3 x4 x5 x6 x7 : Int, (secOf b 32 (ord b) (so + i * 40)).v = #[.int .i64 x0, .int .i64 x1, .int .u64 x2, .int .i64 x3, .int .i64 x4, .int .u64 x5, .int .u64 x6, .int .u64 x7] := ⟨_, _, _, _, _, _, _, _, rfl⟩
  by_cases hso : so = 0
  · subst hso
    refine ⟨0, fun i => secOf b 32 (ord b) (0 + i * 40), 0, by omega, fun _ => sec_b _ _ _ _, fun h => absurd rfl h, ?_, dsecs_no_32 b _ 0 fun w => rSecs_zero b _ _ _ _ _ _ _ w hR⟩
    intro w hM
    refine (Sections_ok b _ 0 h7 _ (fun i => (secOf b 32 (ord b) (0 + i * 40)).v) w hM (fun w hM => find_zero b w hM _ _ _ _ _ _ _ _ hI hH) (fun w k hF => sections_ok _ 0 k h7 _ _ w hF (by omega) (fun i => rfl) (fun i => Sec.one _) (fun i w' hi _ => absurd hi (Nat.not_lt_zero _)))).mono ?_
    rintro r w' ⟨g, h1, h2, h3, h4⟩
    exact ⟨_, h1, secsIn_row h2 h3 (by unfold maxLen; omega), h4⟩
  by_cases hq : q = 40
  case neg =>
    exact ⟨0, fun _ => secOf b 32 0 0, 55, by omega, fun _ => sec_b _ _ _ _, fun _ => rfl, psecs_no_32 b _ 55 fun w hM => find_55 b w hM hm _ _ _ _ _ _ so 40 q _ rfl hso (by omega) hq6 hq hI hH, dsecs_no_32 b _ 55 fun w => rSecs_55 b 32 _ _ _ _ so 40 q h6 w hso hq hR hP⟩
  subst hq
  by_cases h60 : h6 = 0
  · subst h60
    by_cases hin : so ≤ b.size ∧ 40 ≤ b.size - so
    case neg =>
      exact ⟨0, fun _ => secOf b 32 0 0, 54, by omega, fun _ => sec_b _ _ _ _, fun _ => rfl, psecs_no_32 b _ 54 fun w hM => find_count b w hM hm _ _ _ _ _ _ so 40 0 _ rfl hso (by omega) hI hH (fun w k hF => count_cut b k 40 20 4 (ord b) _ _ _ _ _ _ so _ w hF rfl rfl rfl rfl rfl (by omega) hm hso64 hin),
        dsecs_no_32 b _ 54 fun w => rSecs_54a b 32 _ _ _ _ so 40 w hso (by omega) hR hP (hW' 40 (by omega) hin)⟩
    have hC : ∀ (w : World) (k : Nat), w.heap[k]? = some (.cells (fileCells 32 (ord b) b) 62 (0, 0)) → Calls Tryd.prog 21 #[.pointer (some ⟨k, 0, none⟩), .agg #[.int .i64 32, .int .i64 (ord b), .int .i64 h2, .int .i64 h3, .int .u64 (so : Int), .int .i64 ((40 : Nat) : Int), .int .i64 ((0 : Nat) : Int), .int .i64 h7]] w fun r w' => r = .returned (.int .u64 ((num b (so + 20) 4 (ord b) : Nat) : Int)) ∧ Below w.heap.size w w' := fun w k hF => count_zero b k 40 20 4 (ord b) _ _ _ _ _ _ so _ w hF rfl rfl rfl rfl rfl (by omega) hm hso64 ho hin (by omega) (by omega)
    have hF0 : ∀ w : World, Calls Tryd.prog 17 #[.string b, .int .i64 (so : Int), .agg #[.int .i64 32, .int .i64 (ord b), .int .i64 h2, .int .i64 h3, .int .u64 (so : Int), .int .i64 ((40 : Nat) : Int), .int .i64 0, .int .i64 h7]] w fun r w' => r = .returned (.agg (secOf b 32 (ord b) so).v) ∧ Below w.heap.size w w' := fun w => rent_32 b so (ord b) _ _ _ _ _ _ w (by omega) hm ho
    rw [sec32] at hF0
    have hn64 : num b (so + 20) 4 (ord b) < 18446744073709551616 := Nat.lt_trans (num_lt4 b _ _) (by decide)
    generalize num b (so + 20) 4 (ord b) = n at hC hF0 hn64
    by_cases hn : n = 0
    · subst hn
      refine ⟨0, fun i => secOf b 32 (ord b) (so + i * 40), 0, by omega, fun _ => sec_b _ _ _ _, fun h => absurd rfl h, psecs_ok_32 b so 0 h7 hb (by omega) ho (fun w hM => find_ok b w hM hm _ _ _ _ _ _ so 40 0 _ rfl hso (by omega) (Nat.zero_le _) (by omega) hI hH hC), dsecs_no_32 b _ 0 fun w => rSecs_e0 b 32 _ _ _ _ _ _ _ _ _ _ _ so 40 w hm (by omega) hso (by omega) hR hP (hW 40 (by omega) hin) hF0⟩
    by_cases hin2 : so ≤ b.size ∧ n * 40 ≤ b.size - so
    case neg =>
      have hdn : (b.size - so) / 40 < n := (Nat.div_lt_iff_lt_mul (by omega)).2 (by omega)
      refine ⟨0, fun _ => secOf b 32 0 0, 54, by omega, fun _ => sec_b _ _ _ _, fun _ => rfl, psecs_no_32 b _ 54 fun w hM => ?_, dsecs_no_32 b _ 54 fun w => rSecs_54c b 32 _ _ _ _ _ _ _ _ _ _ _ so 40 n _ w hm (by omega) hso (by omega) hn rfl hdn hR hP (hW 40 (by omega) hin) (hW 0 (by omega) ⟨hin.1, Nat.zero_le _⟩) hF0⟩
      by_cases hnd : n ≤ b.size / 40
      · exact find_piece b w hM hm _ _ _ _ _ _ so 40 n _ rfl hso (by omega) hnd hso64 hin2 hI hH hC
      · exact find_many b w hM hm _ _ _ _ _ _ so 40 n _ rfl hso (by omega) (by omega) hn64 hI hH hC
    refine ⟨n, fun i => secOf b 32 (ord b) (so + i * 40), 0, by omega, fun _ => sec_b _ _ _ _, fun h => absurd rfl h, psecs_ok_32 b so n h7 hb hin2 ho (fun w hM => find_ok b w hM hm _ _ _ _ _ _ so 40 n _ rfl hso (by omega) ((Nat.le_div_iff_mul_le (by omega)).2 (by omega)) hin2 hI hH hC), fun w => ?_⟩
    refine (rSecs_ok0 b 32 (ord b) _ _ _ so 40 n w (fun i => (secOf b 32 (ord b) (so + i * 40)).v) _ rfl hm hb hso hn _ _ _ _ _ _ _ (by omega) hin2 hX hR hP (fun i w hi => ?_) (hW 40 (by omega) hin) hF0 (hW 0 (by omega) ⟨hin.1, Nat.zero_le _⟩)).mono ?_
    · have h := rent_32 b (so + i * 40) (ord b) h2 h3 (so : Int) ((40 : Nat) : Int) 0 h7 w (by omega) hm ho
      have e : (so : Int) + (i : Int) * ((40 : Nat) : Int) = ((so + i * 40 : Nat) : Int) := by omega
      rw [e]
      exact h
    · rintro r w' ⟨v, h1, h2, h3⟩
      exact ⟨v, h1, secsIn_own h2, h3⟩
  have hC : ∀ (w : World) (k : Nat), w.heap[k]? = some (.cells (fileCells 32 (ord b) b) 62 (0, 0)) → Calls Tryd.prog 21 #[.pointer (some ⟨k, 0, none⟩), .agg #[.int .i64 32, .int .i64 (ord b), .int .i64 h2, .int .i64 h3, .int .u64 (so : Int), .int .i64 ((40 : Nat) : Int), .int .i64 (h6 : Int), .int .i64 h7]] w fun r w' => r = .returned (.int .u64 (h6 : Int)) ∧ Below w.heap.size w w' := fun w k hF => count_num _ _ _ _ _ _ _ so h6 w h60 hh6
  by_cases hin2 : so ≤ b.size ∧ h6 * 40 ≤ b.size - so
  case neg =>
    refine ⟨0, fun _ => secOf b 32 0 0, 54, by omega, fun _ => sec_b _ _ _ _, fun _ => rfl, psecs_no_32 b _ 54 fun w hM => ?_, ?_⟩
    · by_cases hnd : h6 ≤ b.size / 40
      · exact find_piece b w hM hm _ _ _ _ _ _ so 40 h6 _ rfl hso (by omega) hnd hso64 hin2 hI hH hC
      · exact find_many b w hM hm _ _ _ _ _ _ so 40 h6 _ rfl hso (by omega) (by omega) (by omega) hI hH hC
    · by_cases hs : so ≤ b.size
      · have hdn : (b.size - so) / 40 < h6 := (Nat.div_lt_iff_lt_mul (by omega)).2 (by omega)
        exact dsecs_no_32 b _ 54 fun w => rSecs_54d b 32 _ _ _ _ so 40 h6 _ w hm hso h60 hh6 (by omega) hs rfl hdn hR hP (hW 0 (by omega) ⟨hs, Nat.zero_le _⟩)
      · exact dsecs_no_32 b _ 54 fun w => rSecs_54b b 32 _ _ _ _ so 40 h6 w hm hso h60 hh6 (by omega) hR hP (hW' 0 (by omega) (fun h => hs h.1))
  refine ⟨h6, fun i => secOf b 32 (ord b) (so + i * 40), 0, by omega, fun _ => sec_b _ _ _ _, fun h => absurd rfl h, psecs_ok_32 b so h6 h7 hb hin2 ho (fun w hM => find_ok b w hM hm _ _ _ _ _ _ so 40 h6 _ rfl hso (by omega) ((Nat.le_div_iff_mul_le (by omega)).2 (by omega)) hin2 hI hH hC), fun w => ?_⟩
  refine (rSecs_ok b 32 (ord b) _ _ _ so 40 h6 w (fun i => (secOf b 32 (ord b) (so + i * 40)).v) _ rfl hm hb hso h60 hh6 (by omega) hin2 hX hR hP (fun i w hi => ?_) (hW 0 (by omega) ⟨hin2.1, Nat.zero_le _⟩)).mono ?_
  · have h := rent_32 b (so + i * 40) (ord b) h2 h3 (so : Int) ((40 : Nat) : Int) (h6 : Int) h7 w (by omega) hm ho
    have e : (so : Int) + (i : Int) * ((40 : Nat) : Int) = ((so + i * 40 : Nat) : Int) := by omega
    rw [e]
    exact h
  · rintro r w' ⟨v, h1, h2, h3⟩
    exact ⟨v, h1, secsIn_own h2, h3⟩
end Go.Proofs.YtoikagccopglkaaDoor
