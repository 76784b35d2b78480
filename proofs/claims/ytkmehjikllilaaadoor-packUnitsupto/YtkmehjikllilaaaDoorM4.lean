import Derived.Test.YtkmehjikllilaaaDoorM1
import Derived.Test.YtkmehjikllilaaaDoorM2
import Derived.Test.YtkmehjikllilaaaDoorA3
import Derived.Test.YtkmehjikllilaaaDoorA7z
import Derived.Test.YtkmehjikllilaaaDoorM3
import Derived.Test.YtkmehjikllilaaaDoorH0
import Derived.Deep.RegionWith
import Derived.Test.YtkmehjikllilaaaDoorH32
import Derived.Test.YtkmehjikllilaaaDoorH64
import Derived.Test.YtkmehjikllilaaaDoorR3
import Derived.Test.YtkmehjikllilaaaDoorT2
import Derived.Test.YtkmehjikllilaaaDoorKQ
import Derived.Deep.QuietTactic

-- Both Sections answer the same: class 32.
namespace Go.Proofs.YtkmehjikllilaaaDoor
open Go.ChangeShapes Go.WideShapes Go.ChangeAt Go.RowKit
set_option linter.unusedVariables false
set_option maxRecDepth 100000
theorem psecs_ok_32 (b : ByteArray) (so n : Nat) (nm : Int) (hb : b.size ≤ 1048576) (hin : so ≤ b.size ∧ n * 40 ≤ b.size - so) (ho : ord b = 0 ∨ ord b = 1)
    (hT : ∀ w : World, Magic w → Calls Tryd.prog 41 #[.string b] w fun r w' => ∃ k, r = .returned (.agg #[.pointer (some ⟨k, 0, none⟩), .string (b.extract so (so + n * 40)), .int .i64 n, .int .i64 nm]) ∧ w'.heap[k]? = some (.cells (fileCells 32 (ord b) b) 102 (0, 0)) ∧ Below w.heap.size w w') :
    PSecs b n (fun i => secOf b 32 (ord b) (so + i * 40)) 0 := by
  intro w hM
  have hm : b.size ≤ maxLen := by unfold maxLen; omega
  refine (Sections_ok b _ n nm _ (fun i => (secOf b 32 (ord b) (so + i * 40)).v) w hM hT (fun w k hF => sections_ok _ n k nm _ _ w hF (by omega) (fun i => rfl) (fun i => Sec.one _) (fun i w' hi hF' => at_32 b so n i k nm (ord b) w' hm hin ho hi hF'))).mono ?_
  rintro r w' ⟨g, h1, h2, h3, h4⟩
  exact ⟨_, h1, secsIn_row h2 h3, h4⟩
theorem psecs_no_32 (b : ByteArray) (s : Nat → Sec) (e : Int) (hT : ∀ w : World, Magic w → Calls Tryd.prog 41 #[.string b] w fun r w' => r = .panicked (gives e) ∧ Below w.heap.size w w') : PSecs b 0 s e := by
  intro w hM
  refine (Sections_no b e w hM hT).mono ?_
  rintro r w' ⟨h1, h2⟩
  exact ⟨_, h1, secsIn_nil _ _ _ _ _, h2⟩
theorem dsecs_no_32 (b : ByteArray) (s : Nat → Sec) (e : Int) (hT : ∀ w : World, Calls Tryd.prog 17 #[.string b] w fun r w' => r = .returned (.tuple #[.slice none 0 0, .int .i64 e]) ∧ Below w.heap.size w w') : DSecs b 0 s e := by
  intro w
  refine (hT w).mono ?_
  rintro r w' ⟨h1, h2⟩
  exact ⟨_, h1, secsIn_nil _ _ _ _ _, h2⟩
theorem secs_32' (b : ByteArray) (h2 h3 h7 : Int) (so q h6 : Nat) (hb : b.size ≤ 1048576) (hE : identE b = 0) (hc : cls b = 32) (hso64 : so < 18446744073709551616) (hq6 : q < 65536) (hh6 : h6 < 65536)
    (hH : ∀ (w : World) (k : Nat), w.heap[k]? = some (.cells (fileCells 32 (ord b) b) 102 (0, 0)) → Calls Tryd.prog 50 #[.pointer (some ⟨k, 0, none⟩)] w fun r w' => r = .returned (.agg #[.int .i64 32, .int .i64 (ord b), .int .i64 h2, .int .i64 h3, .int .u64 (so : Int), .int .i64 (q : Int), .int .i64 (h6 : Int), .int .i64 h7]) ∧ Below w.heap.size w w')
    (hR : ∀ w : World, Calls Tryd.prog 18 #[.string b] w fun r w' => r = .returned (.tuple #[.agg #[.int .i64 32, .int .i64 (ord b), .int .i64 h2, .int .i64 h3, .int .u64 (so : Int), .int .i64 (q : Int), .int .i64 (h6 : Int), .int .i64 h7], .int .i64 0]) ∧ Below w.heap.size w w') :
    ∃ n s e, n ≤ 26214 ∧ SecB s ∧ ((e : Int) ≠ 0 → n = 0) ∧ PSecs b n s e ∧ DSecs b n s e := by
  have hm : b.size ≤ maxLen := by unfold maxLen; omega
  have ho := ord_ok b hE
  have hI := id_32 b hm hE hc
  have hP : ∀ w : World, Calls Tryd.prog 25 #[.int .i64 32, .int .i64 40, .int .i64 64] w fun r w' => r = .returned (.int .i64 ((40 : Nat) : Int)) ∧ w' = w := fun w => pick_32 _ _ w
  have hW (n : Nat) (hn : n < 18446744073709551616) (h : so ≤ b.size ∧ n ≤ b.size - so) : ∀ w : World, Calls Tryd.prog 26 #[.int .i64 b.size, .int .u64 (so : Int), .int .u64 (n : Int)] w fun r w' => r = .returned (.bool true) ∧ w' = w := fun w => wi_ok b.size so n w h.1 h.2 hm
  have hW' (n : Nat) (hn : n < 18446744073709551616) (h : ¬ (so ≤ b.size ∧ n ≤ b.size - so)) : ∀ w : World, Calls Tryd.prog 26 #[.int .i64 b.size, .int .u64 (so : Int), .int .u64 (n : Int)] w fun r w' => r = .returned (.bool false) ∧ w' = w := fun w => wi_no b.size so n w hso64 hn h hm
  have hX (i : Nat) : ∃ x0 x1 x2 x3 x4 x5 x6 x7 : Int, (secOf b 32 (ord b) (so + i * 40)).v = #[.int .i64 x0, .int .i64 x1, .int .u64 x2, .int .i64 x3, .int .i64 x4, .int .u64 x5, .int .u64 x6, .int .u64 x7] := ⟨_, _, _, _, _, _, _, _, rfl⟩
  by_cases hso : so = 0
  · subst hso
    refine ⟨0, fun i => secOf b 32 (ord b) (0 + i * 40), 0, by omega, fun _ => sec_b _ _ _ _, fun h => absurd rfl h, ?_, dsecs_no_32 b _ 0 fun w => rSecs_zero b _ _ _ _ _ _ _ w hR⟩
    intro w hM
    refine (Sections_ok b _ 0 h7 _ (fun i => (secOf b 32 (ord b) (0 + i * 40)).v) w hM (fun w hM => find_zero b w hM _ _ _ _ _ _ _ _ hI hH) (fun w k hF => sections_ok _ 0 k h7 _ _ w hF (by omega) (fun i => rfl) (fun i => Sec.one _) (fun i w' hi _ => absurd hi (Nat.not_lt_zero _)))).mono ?_
    rintro r w' ⟨g, h1, h2, h3, h4⟩
    exact ⟨_, h1, secsIn_nil _ _ _ _ _, h4⟩
  by_cases hq : q = 40
  case neg =>
    exact ⟨0, fun _ => secOf b 32 0 0, 55, by omega, fun _ => sec_b _ _ _ _, fun _ => rfl, psecs_no_32 b _ 55 fun w hM => find_55 b w hM hm _ _ _ _ _ _ so 40 q _ rfl hso (by omega) hq6 hq hI hH, dsecs_no_32 b _ 55 fun w => rSecs_55 b 32 _ _ _ _ so 40 q h6 w hso hq hR hP⟩
  subst hq
  by_cases h60 : h6 = 0
  · subst h60
    by_cases hin : so ≤ b.size ∧ 40 ≤ b.size - so
    case neg =>
      exact ⟨0, fun _ => secOf b 32 0 0, 54, by omega, fun _ => sec_b _ _ _ _, fun _ => rfl, psecs_no_32 b _ 54 fun w hM => find_count b w hM hm _ _ _ _ _ _ so 40 0 _ rfl hso (by omega) hI hH (fun w k hF => count_cut b k 40 20 4 (ord b) _ _ _ _ _ _ so _ w hF rfl rfl rfl rfl rfl (by omega) hm hso64 hin),
        dsecs_no_32 b _ 54 fun w => rSecs_54a b 32 _ _ _ _ so 40 w hso (by omega) hR hP (hW' 40 (by omega) hin)⟩
    have hC : ∀ (w : World) (k : Nat), w.heap[k]? = some (.cells (fileCells 32 (ord b) b) 102 (0, 0)) → Calls Tryd.prog 51 #[.pointer (some ⟨k, 0, none⟩), .agg #[.int .i64 32, .int .i64 (ord b), .int .i64 h2, .int .i64 h3, .int .u64 (so : Int), .int .i64 ((40 : Nat) : Int), .int .i64 ((0 : Nat) : Int), .int .i64 h7]] w fun r w' => r = .returned (.int .u64 ((num b (so + 20) 4 (ord b) : Nat) : Int)) ∧ Below w.heap.size w w' := fun w k hF => count_zero b k 40 20 4 (ord b) _ _ _ _ _ _ so _ w hF rfl rfl rfl rfl rfl (by omega) hm hso64 ho hin (by omega) (by omega)
    have hF0 : ∀ w : World, Calls Tryd.prog 27 #[.string b, .int .i64 (so : Int), .agg #[.int .i64 32, .int .i64 (ord b), .int .i64 h2, .int .i64 h3, .int .u64 (so : Int), .int .i64 ((40 : Nat) : Int), .int .i64 0, .int .i64 h7]] w fun r w' => r = .returned (.agg (secOf b 32 (ord b) so).v) ∧ Below w.heap.size w w' := fun w => rent_32 b so (ord b) _ _ _ _ _ _ w (by omega) hm ho
    rw [sec32] at hF0
    have hn64 : num b (so + 20) 4 (ord b) < 18446744073709551616 := Nat.lt_trans (num_lt4 b _ _) (by decide)
    generalize num b (so + 20) 4 (ord b) = n at hC hF0 hn64
    by_cases hn : n = 0
    · subst hn
      refine ⟨0, fun i => secOf b 32 (ord b) (so + i * 40), 0, by omega, fun _ => sec_b _ _ _ _, fun h => absurd rfl h, psecs_ok_32 b so 0 h7 hb (by omega) ho (fun w hM => find_ok b w hM hm _ _ _ _ _ _ so 40 0 _ rfl hso (by omega) (Nat.zero_le _) (by omega) hI hH hC), dsecs_no_32 b _ 0 fun w => rSecs_e0 b 32 _ _ _ _ _ _ _ _ _ _ _ so 40 w hm (by omega) hso (by omega) hR hP (hW 40 (by omega) hin) hF0⟩
    by_cases hin2 : so ≤ b.size ∧ n * 40 ≤ b.size - so
    case neg =>
      have hdn : (b.size - so) / 40 < n := (Nat.div_lt_iff_lt_mul (by omega)).2 (by omega)
      refine ⟨0, fun _ => secOf b 32 0 0, 54, by omega, fun _ => sec_b _ _ _ _, fun _ => rfl, psecs_no_32 b _ 54 fun w hM => ?_, dsecs_no_32 b _ 54 fun w => rSecs_54c b 32 _ _ _ _ _ _ _ _ _ _ _ so 40 n _ w hm (by omega) hso (by omega) hn rfl hdn hR hP (hW 40 (by omega) hin) (hW 0 (by omega) ⟨hin.1, Nat.zero_le _⟩) hF0⟩
      by_cases hnd : n ≤ b.size / 40
      · exact find_piece b w hM hm _ _ _ _ _ _ so 40 n _ rfl hso (by omega) hnd hso64 hin2 hI hH hC
      · exact find_many b w hM hm _ _ _ _ _ _ so 40 n _ rfl hso (by omega) (by omega) hn64 hI hH hC
    refine ⟨n, fun i => secOf b 32 (ord b) (so + i * 40), 0, by omega, fun _ => sec_b _ _ _ _, fun h => absurd rfl h, psecs_ok_32 b so n h7 hb hin2 ho (fun w hM => find_ok b w hM hm _ _ _ _ _ _ so 40 n _ rfl hso (by omega) ((Nat.le_div_iff_mul_le (by omega)).2 (by omega)) hin2 hI hH hC), fun w => ?_⟩
    refine (rSecs_ok0 b 32 (ord b) _ _ _ so 40 n w (fun i => (secOf b 32 (ord b) (so + i * 40)).v) _ rfl hm hb hso hn _ _ _ _ _ _ _ (by omega) hin2 hX hR hP (fun i w hi => ?_) (hW 40 (by omega) hin) hF0 (hW 0 (by omega) ⟨hin.1, Nat.zero_le _⟩)).mono ?_
    · have h := rent_32 b (so + i * 40) (ord b) h2 h3 (so : Int) ((40 : Nat) : Int) 0 h7 w (by omega) hm ho
      have e : (so : Int) + (i : Int) * ((40 : Nat) : Int) = ((so + i * 40 : Nat) : Int) := by omega
      rw [e]
      exact h
    · rintro r w' ⟨v, h1, h2, h3⟩
      exact ⟨v, h1, secsIn_own h2, h3⟩
  have hC : ∀ (w : World) (k : Nat), w.heap[k]? = some (.cells (fileCells 32 (ord b) b) 102 (0, 0)) → Calls Tryd.prog 51 #[.pointer (some ⟨k, 0, none⟩), .agg #[.int .i64 32, .int .i64 (ord b), .int .i64 h2, .int .i64 h3, .int .u64 (so : Int), .int .i64 ((40 : Nat) : Int), .int .i64 (h6 : Int), .int .i64 h7]] w fun r w' => r = .returned (.int .u64 (h6 : Int)) ∧ Below w.heap.size w w' := fun w k hF => count_num _ _ _ _ _ _ _ so h6 w h60 hh6
  by_cases hin2 : so ≤ b.size ∧ h6 * 40 ≤ b.size - so
  case neg =>
    refine ⟨0, fun _ => secOf b 32 0 0, 54, by omega, fun _ => sec_b _ _ _ _, fun _ => rfl, psecs_no_32 b _ 54 fun w hM => ?_, ?_⟩
    · by_cases hnd : h6 ≤ b.size / 40
      · exact find_piece b w hM hm _ _ _ _ _ _ so 40 h6 _ rfl hso (by omega) hnd hso64 hin2 hI hH hC
      · exact find_many b w hM hm _ _ _ _ _ _ so 40 h6 _ rfl hso (by omega) (by omega) (by omega) hI hH hC
    · by_cases hs : so ≤ b.size
      · have hdn : (b.size - so) / 40 < h6 := (Nat.div_lt_iff_lt_mul (by omega)).2 (by omega)
        exact dsecs_no_32 b _ 54 fun w => rSecs_54d b 32 _ _ _ _ so 40 h6 _ w hm hso h60 hh6 (by omega) hs rfl hdn hR hP (hW 0 (by omega) ⟨hs, Nat.zero_le _⟩)
      · exact dsecs_no_32 b _ 54 fun w => rSecs_54b b 32 _ _ _ _ so 40 h6 w hm hso h60 hh6 (by omega) hR hP (hW' 0 (by omega) (fun h => hs h.1))
  refine ⟨h6, fun i => secOf b 32 (ord b) (so + i * 40), 0, by omega, fun _ => sec_b _ _ _ _, fun h => absurd rfl h, psecs_ok_32 b so h6 h7 hb hin2 ho (fun w hM => find_ok b w hM hm _ _ _ _ _ _ so 40 h6 _ rfl hso (by omega) ((Nat.le_div_iff_mul_le (by omega)).2 (by omega)) hin2 hI hH hC), fun w => ?_⟩
  refine (rSecs_ok b 32 (ord b) _ _ _ so 40 h6 w (fun i => (secOf b 32 (ord b) (so + i * 40)).v) _ rfl hm hb hso h60 hh6 (by omega) hin2 hX hR hP (fun i w hi => ?_) (hW 0 (by omega) ⟨hin2.1, Nat.zero_le _⟩)).mono ?_
  · have h := rent_32 b (so + i * 40) (ord b) h2 h3 (so : Int) ((40 : Nat) : Int) (h6 : Int) h7 w (by omega) hm ho
    have e : (so : Int) + (i : Int) * ((40 : Nat) : Int) = ((so + i * 40 : Nat) : Int) := by omega
    rw [e]
    exact h
  · rintro r w' ⟨v, h1, h2, h3⟩
    exact ⟨v, h1, secsIn_own h2, h3⟩
end Go.Proofs.YtkmehjikllilaaaDoor

-- Both Sections answer the same: class 64.
namespace Go.Proofs.YtkmehjikllilaaaDoor
open Go.ChangeShapes Go.WideShapes Go.ChangeAt Go.RowKit
set_option linter.unusedVariables false
set_option maxRecDepth 100000
theorem psecs_ok_64 (b : ByteArray) (so n : Nat) (nm : Int) (hb : b.size ≤ 1048576) (hin : so ≤ b.size ∧ n * 64 ≤ b.size - so) (ho : ord b = 0 ∨ ord b = 1)
    (hT : ∀ w : World, Magic w → Calls Tryd.prog 41 #[.string b] w fun r w' => ∃ k, r = .returned (.agg #[.pointer (some ⟨k, 0, none⟩), .string (b.extract so (so + n * 64)), .int .i64 n, .int .i64 nm]) ∧ w'.heap[k]? = some (.cells (fileCells 64 (ord b) b) 102 (0, 0)) ∧ Below w.heap.size w w') :
    PSecs b n (fun i => secOf b 64 (ord b) (so + i * 64)) 0 := by
  intro w hM
  have hm : b.size ≤ maxLen := by unfold maxLen; omega
  refine (Sections_ok b _ n nm _ (fun i => (secOf b 64 (ord b) (so + i * 64)).v) w hM hT (fun w k hF => sections_ok _ n k nm _ _ w hF (by omega) (fun i => rfl) (fun i => Sec.one _) (fun i w' hi hF' => at_64 b so n i k nm (ord b) w' hm hin ho hi hF'))).mono ?_
  rintro r w' ⟨g, h1, h2, h3, h4⟩
  exact ⟨_, h1, secsIn_row h2 h3, h4⟩
theorem psecs_no_64 (b : ByteArray) (s : Nat → Sec) (e : Int) (hT : ∀ w : World, Magic w → Calls Tryd.prog 41 #[.string b] w fun r w' => r = .panicked (gives e) ∧ Below w.heap.size w w') : PSecs b 0 s e := by
  intro w hM
  refine (Sections_no b e w hM hT).mono ?_
  rintro r w' ⟨h1, h2⟩
  exact ⟨_, h1, secsIn_nil _ _ _ _ _, h2⟩
theorem dsecs_no_64 (b : ByteArray) (s : Nat → Sec) (e : Int) (hT : ∀ w : World, Calls Tryd.prog 17 #[.string b] w fun r w' => r = .returned (.tuple #[.slice none 0 0, .int .i64 e]) ∧ Below w.heap.size w w') : DSecs b 0 s e := by
  intro w
  refine (hT w).mono ?_
  rintro r w' ⟨h1, h2⟩
  exact ⟨_, h1, secsIn_nil _ _ _ _ _, h2⟩
theorem secs_64' (b : ByteArray) (h2 h3 h7 : Int) (so q h6 : Nat) (hb : b.size ≤ 1048576) (hE : identE b = 0) (hc : cls b = 64) (hso64 : so < 18446744073709551616) (hq6 : q < 65536) (hh6 : h6 < 65536)
    (hH : ∀ (w : World) (k : Nat), w.heap[k]? = some (.cells (fileCells 64 (ord b) b) 102 (0, 0)) → Calls Tryd.prog 50 #[.pointer (some ⟨k, 0, none⟩)] w fun r w' => r = .returned (.agg #[.int .i64 64, .int .i64 (ord b), .int .i64 h2, .int .i64 h3, .int .u64 (so : Int), .int .i64 (q : Int), .int .i64 (h6 : Int), .int .i64 h7]) ∧ Below w.heap.size w w')
    (hR : ∀ w : World, Calls Tryd.prog 18 #[.string b] w fun r w' => r = .returned (.tuple #[.agg #[.int .i64 64, .int .i64 (ord b), .int .i64 h2, .int .i64 h3, .int .u64 (so : Int), .int .i64 (q : Int), .int .i64 (h6 : Int), .int .i64 h7], .int .i64 0]) ∧ Below w.heap.size w w') :
    ∃ n s e, n ≤ 26214 ∧ SecB s ∧ ((e : Int) ≠ 0 → n = 0) ∧ PSecs b n s e ∧ DSecs b n s e := by
  have hm : b.size ≤ maxLen := by unfold maxLen; omega
  have ho := ord_ok b hE
  have hI := id_64 b hm hE hc
  have hP : ∀ w : World, Calls Tryd.prog 25 #[.int .i64 64, .int .i64 40, .int .i64 64] w fun r w' => r = .returned (.int .i64 ((64 : Nat) : Int)) ∧ w' = w := fun w => pick_64 _ _ w
  have hW (n : Nat) (hn : n < 18446744073709551616) (h : so ≤ b.size ∧ n ≤ b.size - so) : ∀ w : World, Calls Tryd.prog 26 #[.int .i64 b.size, .int .u64 (so : Int), .int .u64 (n : Int)] w fun r w' => r = .returned (.bool true) ∧ w' = w := fun w => wi_ok b.size so n w h.1 h.2 hm
  have hW' (n : Nat) (hn : n < 18446744073709551616) (h : ¬ (so ≤ b.size ∧ n ≤ b.size - so)) : ∀ w : World, Calls Tryd.prog 26 #[.int .i64 b.size, .int .u64 (so : Int), .int .u64 (n : Int)] w fun r w' => r = .returned (.bool false) ∧ w' = w := fun w => wi_no b.size so n w hso64 hn h hm
  have hX (i : Nat) : ∃ x0 x1 x2 x3 x4 x5 x6 x7 : Int, (secOf b 64 (ord b) (so + i * 64)).v = #[.int .i64 x0, .int .i64 x1, .int .u64 x2, .int .i64 x3, .int .i64 x4, .int .u64 x5, .int .u64 x6, .int .u64 x7] := ⟨_, _, _, _, _, _, _, _, rfl⟩
  by_cases hso : so = 0
  · subst hso
    refine ⟨0, fun i => secOf b 64 (ord b) (0 + i * 64), 0, by omega, fun _ => sec_b _ _ _ _, fun h => absurd rfl h, ?_, dsecs_no_64 b _ 0 fun w => rSecs_zero b _ _ _ _ _ _ _ w hR⟩
    intro w hM
    refine (Sections_ok b _ 0 h7 _ (fun i => (secOf b 64 (ord b) (0 + i * 64)).v) w hM (fun w hM => find_zero b w hM _ _ _ _ _ _ _ _ hI hH) (fun w k hF => sections_ok _ 0 k h7 _ _ w hF (by omega) (fun i => rfl) (fun i => Sec.one _) (fun i w' hi _ => absurd hi (Nat.not_lt_zero _)))).mono ?_
    rintro r w' ⟨g, h1, h2, h3, h4⟩
    exact ⟨_, h1, secsIn_nil _ _ _ _ _, h4⟩
  by_cases hq : q = 64
  case neg =>
    exact ⟨0, fun _ => secOf b 64 0 0, 55, by omega, fun _ => sec_b _ _ _ _, fun _ => rfl, psecs_no_64 b _ 55 fun w hM => find_55 b w hM hm _ _ _ _ _ _ so 64 q _ rfl hso (by omega) hq6 hq hI hH, dsecs_no_64 b _ 55 fun w => rSecs_55 b 64 _ _ _ _ so 64 q h6 w hso hq hR hP⟩
  subst hq
  by_cases h60 : h6 = 0
  · subst h60
    by_cases hin : so ≤ b.size ∧ 64 ≤ b.size - so
    case neg =>
      exact ⟨0, fun _ => secOf b 64 0 0, 54, by omega, fun _ => sec_b _ _ _ _, fun _ => rfl, psecs_no_64 b _ 54 fun w hM => find_count b w hM hm _ _ _ _ _ _ so 64 0 _ rfl hso (by omega) hI hH (fun w k hF => count_cut b k 64 32 8 (ord b) _ _ _ _ _ _ so _ w hF rfl rfl rfl rfl rfl (by omega) hm hso64 hin),
        dsecs_no_64 b _ 54 fun w => rSecs_54a b 64 _ _ _ _ so 64 w hso (by omega) hR hP (hW' 64 (by omega) hin)⟩
    have hC : ∀ (w : World) (k : Nat), w.heap[k]? = some (.cells (fileCells 64 (ord b) b) 102 (0, 0)) → Calls Tryd.prog 51 #[.pointer (some ⟨k, 0, none⟩), .agg #[.int .i64 64, .int .i64 (ord b), .int .i64 h2, .int .i64 h3, .int .u64 (so : Int), .int .i64 ((64 : Nat) : Int), .int .i64 ((0 : Nat) : Int), .int .i64 h7]] w fun r w' => r = .returned (.int .u64 ((num b (so + 32) 8 (ord b) : Nat) : Int)) ∧ Below w.heap.size w w' := fun w k hF => count_zero b k 64 32 8 (ord b) _ _ _ _ _ _ so _ w hF rfl rfl rfl rfl rfl (by omega) hm hso64 ho hin (by omega) (by omega)
    have hF0 : ∀ w : World, Calls Tryd.prog 27 #[.string b, .int .i64 (so : Int), .agg #[.int .i64 64, .int .i64 (ord b), .int .i64 h2, .int .i64 h3, .int .u64 (so : Int), .int .i64 ((64 : Nat) : Int), .int .i64 0, .int .i64 h7]] w fun r w' => r = .returned (.agg (secOf b 64 (ord b) so).v) ∧ Below w.heap.size w w' := fun w => rent_64 b so (ord b) _ _ _ _ _ _ w (by omega) hm ho
    rw [sec64] at hF0
    have hn64 : num b (so + 32) 8 (ord b) < 18446744073709551616 := num_lt8 b _ _
    generalize num b (so + 32) 8 (ord b) = n at hC hF0 hn64
    by_cases hn : n = 0
    · subst hn
      refine ⟨0, fun i => secOf b 64 (ord b) (so + i * 64), 0, by omega, fun _ => sec_b _ _ _ _, fun h => absurd rfl h, psecs_ok_64 b so 0 h7 hb (by omega) ho (fun w hM => find_ok b w hM hm _ _ _ _ _ _ so 64 0 _ rfl hso (by omega) (Nat.zero_le _) (by omega) hI hH hC), dsecs_no_64 b _ 0 fun w => rSecs_e0 b 64 _ _ _ _ _ _ _ _ _ _ _ so 64 w hm (by omega) hso (by omega) hR hP (hW 64 (by omega) hin) hF0⟩
    by_cases hin2 : so ≤ b.size ∧ n * 64 ≤ b.size - so
    case neg =>
      have hdn : (b.size - so) / 64 < n := (Nat.div_lt_iff_lt_mul (by omega)).2 (by omega)
      refine ⟨0, fun _ => secOf b 64 0 0, 54, by omega, fun _ => sec_b _ _ _ _, fun _ => rfl, psecs_no_64 b _ 54 fun w hM => ?_, dsecs_no_64 b _ 54 fun w => rSecs_54c b 64 _ _ _ _ _ _ _ _ _ _ _ so 64 n _ w hm (by omega) hso (by omega) hn rfl hdn hR hP (hW 64 (by omega) hin) (hW 0 (by omega) ⟨hin.1, Nat.zero_le _⟩) hF0⟩
      by_cases hnd : n ≤ b.size / 64
      · exact find_piece b w hM hm _ _ _ _ _ _ so 64 n _ rfl hso (by omega) hnd hso64 hin2 hI hH hC
      · exact find_many b w hM hm _ _ _ _ _ _ so 64 n _ rfl hso (by omega) (by omega) hn64 hI hH hC
    refine ⟨n, fun i => secOf b 64 (ord b) (so + i * 64), 0, by omega, fun _ => sec_b _ _ _ _, fun h => absurd rfl h, psecs_ok_64 b so n h7 hb hin2 ho (fun w hM => find_ok b w hM hm _ _ _ _ _ _ so 64 n _ rfl hso (by omega) ((Nat.le_div_iff_mul_le (by omega)).2 (by omega)) hin2 hI hH hC), fun w => ?_⟩
    refine (rSecs_ok0 b 64 (ord b) _ _ _ so 64 n w (fun i => (secOf b 64 (ord b) (so + i * 64)).v) _ rfl hm hb hso hn _ _ _ _ _ _ _ (by omega) hin2 hX hR hP (fun i w hi => ?_) (hW 64 (by omega) hin) hF0 (hW 0 (by omega) ⟨hin.1, Nat.zero_le _⟩)).mono ?_
    · have h := rent_64 b (so + i * 64) (ord b) h2 h3 (so : Int) ((64 : Nat) : Int) 0 h7 w (by omega) hm ho
      have e : (so : Int) + (i : Int) * ((64 : Nat) : Int) = ((so + i * 64 : Nat) : Int) := by omega
      rw [e]
      exact h
    · rintro r w' ⟨v, h1, h2, h3⟩
      exact ⟨v, h1, secsIn_own h2, h3⟩
  have hC : ∀ (w : World) (k : Nat), w.heap[k]? = some (.cells (fileCells 64 (ord b) b) 102 (0, 0)) → Calls Tryd.prog 51 #[.pointer (some ⟨k, 0, none⟩), .agg #[.int .i64 64, .int .i64 (ord b), .int .i64 h2, .int .i64 h3, .int .u64 (so : Int), .int .i64 ((64 : Nat) : Int), .int .i64 (h6 : Int), .int .i64 h7]] w fun r w' => r = .returned (.int .u64 (h6 : Int)) ∧ Below w.heap.size w w' := fun w k hF => count_num _ _ _ _ _ _ _ so h6 w h60 hh6
  by_cases hin2 : so ≤ b.size ∧ h6 * 64 ≤ b.size - so
  case neg =>
    refine ⟨0, fun _ => secOf b 64 0 0, 54, by omega, fun _ => sec_b _ _ _ _, fun _ => rfl, psecs_no_64 b _ 54 fun w hM => ?_, ?_⟩
    · by_cases hnd : h6 ≤ b.size / 64
      · exact find_piece b w hM hm _ _ _ _ _ _ so 64 h6 _ rfl hso (by omega) hnd hso64 hin2 hI hH hC
      · exact find_many b w hM hm _ _ _ _ _ _ so 64 h6 _ rfl hso (by omega) (by omega) (by omega) hI hH hC
    · by_cases hs : so ≤ b.size
      · have hdn : (b.size - so) / 64 < h6 := (Nat.div_lt_iff_lt_mul (by omega)).2 (by omega)
        exact dsecs_no_64 b _ 54 fun w => rSecs_54d b 64 _ _ _ _ so 64 h6 _ w hm hso h60 hh6 (by omega) hs rfl hdn hR hP (hW 0 (by omega) ⟨hs, Nat.zero_le _⟩)
      · exact dsecs_no_64 b _ 54 fun w => rSecs_54b b 64 _ _ _ _ so 64 h6 w hm hso h60 hh6 (by omega) hR hP (hW' 0 (by omega) (fun h => hs h.1))
  refine ⟨h6, fun i => secOf b 64 (ord b) (so + i * 64), 0, by omega, fun _ => sec_b _ _ _ _, fun h => absurd rfl h, psecs_ok_64 b so h6 h7 hb hin2 ho (fun w hM => find_ok b w hM hm _ _ _ _ _ _ so 64 h6 _ rfl hso (by omega) ((Nat.le_div_iff_mul_le (by omega)).2 (by omega)) hin2 hI hH hC), fun w => ?_⟩
  refine (rSecs_ok b 64 (ord b) _ _ _ so 64 h6 w (fun i => (secOf b 64 (ord b) (so + i * 64)).v) _ rfl hm hb hso h60 hh6 (by omega) hin2 hX hR hP (fun i w hi => ?_) (hW 0 (by omega) ⟨hin2.1, Nat.zero_le _⟩)).mono ?_
  · have h := rent_64 b (so + i * 64) (ord b) h2 h3 (so : Int) ((64 : Nat) : Int) (h6 : Int) h7 w (by omega) hm ho
    have e : (so : Int) + (i : Int) * ((64 : Nat) : Int) = ((so + i * 64 : Nat) : Int) := by omega
    rw [e]
    exact h
  · rintro r w' ⟨v, h1, h2, h3⟩
    exact ⟨v, h1, secsIn_own h2, h3⟩
end Go.Proofs.YtkmehjikllilaaaDoor

-- elf: the header where it is cut.
namespace Go.Proofs.YtkmehjikllilaaaDoor
open Go.ChangeShapes Go.WideShapes Go.ChangeAt Go.RowKit
set_option linter.unusedVariables false
set_option maxRecDepth 100000
set_option maxHeartbeats 1000000 in
theorem header_cut (b : ByteArray) (k L : Nat) (fc : Array Value) (w : World) (hF : w.heap[k]? = some (.cells fc 102 (0, 0))) (f31 : fc[31]? = some (.string b)) (f1 : fc[1]? = some (.int .u64 L)) (hL : L ≤ 64) (hs : b.size < L) (hm : b.size ≤ maxLen) :
    Calls Tryd.prog 50 #[.pointer (some ⟨k, 0, none⟩)] w fun r w' => r = .panicked (gives 54) ∧ Below w.heap.size w w' := by
  have hk : k < w.heap.size := (Array.getElem?_eq_some_iff.1 hF).1
  have hb0 : Below w.heap.size w (w.alloc (.cells #[.int .i64 0, .int .i64 0, .int .i64 0, .int .i64 0, .int .u64 0, .int .i64 0, .int .i64 0, .int .i64 0] 56)) := Below.alloc (Below.refl _ _) (Nat.le_refl _) _
  have cell (i : Nat) (v : Value) (h : fc[i]? = some v) (w' : World) (hb : Below w.heap.size w w') : w'.cell? ⟨k, i, none⟩ = some v := by
    rw [cell_of_row _ _ _ _ _ _ ((hb.block k hk).trans hF)]; exact h
  have c31 := cell 31 _ f31 _ hb0
  have c1 := cell 1 _ f1 _ hb0
  have HP : Hid (∀ wx, Below w.heap.size w wx → Calls Tryd.prog 52 #[.string b, .int .u64 0, .int .u64 L] wx fun r w' => (r = .panicked (gives 54) ∧ Below w.heap.size w w') ∨ (Hid False ∧ r = .returned (.string b) ∧ Below w.heap.size w w')) := fun wx hb => (piece_no b 0 L wx (by omega) (by omega) (by omega) hm).mono fun r w' ⟨h1, h2⟩ => Or.inl ⟨h1, by rw [h2]; exact hb⟩
  clear cell f31 f1 hL hs hm hF
  go_enter Tryd.func50, Tryd.ntmps50
  go_wp2_with fail
  go_region_with (first | (go_at_call 52; refine (HP.out _ (by first | exact hb0 | exact hb0.drew | exact below_drewN hb0 _)).mono ?_; rintro e w' (⟨rfl, hS'⟩ | ⟨hF, rfl, hS'⟩); · exact ⟨rfl, rfl, hS'⟩))
  all_goals exact hF.out.elim
end Go.Proofs.YtkmehjikllilaaaDoor

-- Both Sections answer the same.
namespace Go.Proofs.YtkmehjikllilaaaDoor
open Go.ChangeShapes Go.WideShapes Go.ChangeAt Go.RowKit
set_option linter.unusedVariables false
set_option maxRecDepth 100000
theorem rIdent_e0 (b : ByteArray) (hE : identE b = 0) (w : World) : Calls Tryd.prog 28 #[.string b] w fun r w' => r = .returned (.tuple #[.int .i64 (cls b), .int .i64 (ord b), .int .i64 0]) ∧ w' = w :=
  (rIdent_c b w).mono fun r w' ⟨h1, h2⟩ => ⟨by rw [h1]; exact tup3 (by unfold idC; rw [if_pos hE]) (by unfold idO; rw [if_pos hE]) hE, h2⟩
/-- both Sections, and the document's Header where they do not refuse -/
def SecsBoth (b : ByteArray) (n : Nat) (s : Nat → Sec) (e : Int) : Prop :=
  n ≤ 26214 ∧ SecB s ∧ (e ≠ 0 → n = 0) ∧ PSecs b n s e ∧ DSecs b n s e ∧ (e = 0 → identE b = 0 ∧ ∃ x2 x3 x4 x5 x6 x7 : Int, ∀ w : World, Calls Tryd.prog 18 #[.string b] w fun r w' => r = .returned (.tuple #[.agg #[.int .i64 (cls b), .int .i64 (ord b), .int .i64 x2, .int .i64 x3, .int .u64 x4, .int .i64 x5, .int .i64 x6, .int .i64 x7], .int .i64 0]) ∧ Below w.heap.size w w') ∧ (identE b ≠ 0 → e = identE b)
theorem secs_both (b : ByteArray) (hb : b.size ≤ 1048576) : ∃ n s e, SecsBoth b n s e := by
  have hm : b.size ≤ maxLen := by unfold maxLen; omega
  by_cases hE : identE b = 0
  case neg =>
    have hI : ∀ w : World, Magic w → Calls Tryd.prog 39 #[.string b] w fun r w' => r = .panicked (gives (identE b)) ∧ Below w.heap.size w w' := fun w hM => (identify_c b w hM hm).mono fun r w' ⟨h1, h2⟩ => by
      rcases h2 with ⟨h3, _⟩ | ⟨_, h3⟩
      · exact absurd h3 hE
      · exact ⟨h3, h1⟩
    exact ⟨0, fun _ => secOf b 32 0 0, identE b, by omega, fun _ => sec_b _ _ _ _, fun _ => rfl, psecs_no_32 b _ _ fun w hM => find_refused b _ w hM hI, dsecs_no_32 b _ _ fun w => rSecs_no b _ _ _ _ _ _ _ _ _ w (bne_iff_ne.2 hE) (fun w => rHeader_no b (idC b) (idO b) (identE b) w (fun w => rIdent_c b w) (bne_iff_ne.2 hE)), fun h => absurd h hE, fun _ => rfl⟩
  have ho := ord_ok b hE
  rcases cls_ok b hE with hc | hc
  · have hI : ∀ w, Calls Tryd.prog 28 #[.string b] w fun r w' => r = .returned (.tuple #[.int .i64 32, .int .i64 (ord b), .int .i64 0]) ∧ w' = w := fun w => by have h := rIdent_e0 b hE w; rw [hc] at h; exact h
    by_cases hs : 52 ≤ b.size
    · have hR := fun w => rHeader_32 b (ord b) w hI hs hm ho
      obtain ⟨n, s, e, h1, h0, h2, h3, h4⟩ := secs_32' b _ _ _ (num b 32 4 (ord b)) (num b 46 2 (ord b)) (num b 48 2 (ord b)) hb hE hc (Nat.lt_trans (num_lt4 b _ _) (by decide)) (num_lt2 b _ _) (num_lt2 b _ _) (fun w k hF => header_32 b k (ord b) w hF hs hm ho) hR
      have hR' : ∃ x2 x3 x4 x5 x6 x7 : Int, ∀ w : World, Calls Tryd.prog 18 #[.string b] w fun r w' => r = .returned (.tuple #[.agg #[.int .i64 (cls b), .int .i64 (ord b), .int .i64 x2, .int .i64 x3, .int .u64 x4, .int .i64 x5, .int .i64 x6, .int .i64 x7], .int .i64 0]) ∧ Below w.heap.size w w' := by
        rw [hc]
        exact ⟨_, _, _, _, _, _, hR⟩
      exact ⟨n, s, e, h1, h0, h2, h3, h4, fun _ => ⟨hE, hR'⟩, fun h => absurd hE h⟩
    · have hH : ∀ (w : World) (k : Nat), w.heap[k]? = some (.cells (fileCells 32 (ord b) b) 102 (0, 0)) → Calls Tryd.prog 50 #[.pointer (some ⟨k, 0, none⟩)] w fun r w' => r = .panicked (gives 54) ∧ Below w.heap.size w w' := fun w k hF => header_cut b k 52 _ w hF rfl rfl (by omega) (by omega) hm
      exact ⟨0, fun _ => secOf b 32 0 0, 54, by omega, fun _ => sec_b _ _ _ _, fun _ => rfl, psecs_no_32 b _ _ fun w hM => find_headless b 54 w hM _ (id_32 b hm hE hc) hH, dsecs_no_32 b _ _ fun w => rSecs_no b _ _ _ _ _ _ _ _ _ w (by decide) (fun w => rHeader_cut b 32 (ord b) 52 w hI (fun w => pick_32 _ _ w) (by omega)), fun h => absurd h (by decide), fun h => absurd hE h⟩
  · have hI : ∀ w, Calls Tryd.prog 28 #[.string b] w fun r w' => r = .returned (.tuple #[.int .i64 64, .int .i64 (ord b), .int .i64 0]) ∧ w' = w := fun w => by have h := rIdent_e0 b hE w; rw [hc] at h; exact h
    by_cases hs : 64 ≤ b.size
    · have hR := fun w => rHeader_64 b (ord b) w hI hs hm ho
      obtain ⟨n, s, e, h1, h0, h2, h3, h4⟩ := secs_64' b _ _ _ (num b 40 8 (ord b)) (num b 58 2 (ord b)) (num b 60 2 (ord b)) hb hE hc (num_lt8 b _ _) (num_lt2 b _ _) (num_lt2 b _ _) (fun w k hF => header_64 b k (ord b) w hF hs hm ho) hR
      have hR' : ∃ x2 x3 x4 x5 x6 x7 : Int, ∀ w : World, Calls Tryd.prog 18 #[.string b] w fun r w' => r = .returned (.tuple #[.agg #[.int .i64 (cls b), .int .i64 (ord b), .int .i64 x2, .int .i64 x3, .int .u64 x4, .int .i64 x5, .int .i64 x6, .int .i64 x7], .int .i64 0]) ∧ Below w.heap.size w w' := by
        rw [hc]
        exact ⟨_, _, _, _, _, _, hR⟩
      exact ⟨n, s, e, h1, h0, h2, h3, h4, fun _ => ⟨hE, hR'⟩, fun h => absurd hE h⟩
    · have hH : ∀ (w : World) (k : Nat), w.heap[k]? = some (.cells (fileCells 64 (ord b) b) 102 (0, 0)) → Calls Tryd.prog 50 #[.pointer (some ⟨k, 0, none⟩)] w fun r w' => r = .panicked (gives 54) ∧ Below w.heap.size w w' := fun w k hF => header_cut b k 64 _ w hF rfl rfl (by omega) (by omega) hm
      exact ⟨0, fun _ => secOf b 32 0 0, 54, by omega, fun _ => sec_b _ _ _ _, fun _ => rfl, psecs_no_32 b _ _ fun w hM => find_headless b 54 w hM _ (id_64 b hm hE hc) hH, dsecs_no_32 b _ _ fun w => rSecs_no b _ _ _ _ _ _ _ _ _ w (by decide) (fun w => rHeader_cut b 64 (ord b) 64 w hI (fun w => pick_64 _ _ w) (by omega)), fun h => absurd h (by decide), fun h => absurd hE h⟩
end Go.Proofs.YtkmehjikllilaaaDoor

-- syms.Table behind its set-up, class 32: contract.
namespace Go.Proofs.YtkmehjikllilaaaDoor
open Go.ChangeShapes Go.WideShapes Go.ChangeAt Go.RowKit
set_option linter.unusedVariables false
set_option maxRecDepth 100000
theorem secs_low_32 {B C g n cp : Nat} {w w' : World} {s : Nat → Sec} (h : SecsIn B w (.slice (some ⟨g, 0, none⟩) n cp) n s) (hg : g < C) (hb : Below C w w') : SecsIn B w' (.slice (some ⟨g, 0, none⟩) n cp) n s := by
  obtain ⟨ao, c, hv, hr⟩ := h
  refine ⟨ao, c, hv, fun hn => ?_⟩
  obtain ⟨g', cur, h1, h2, h3, h4⟩ := hr hn
  subst h1
  obtain rfl : g = g' := by
    have h := Value.slice.inj hv
    exact congrArg Addr.block (Option.some.inj h.1)
  exact ⟨g, cur, rfl, h2, (hb.block g hg).trans h3, h4⟩
set_option maxHeartbeats 4000000 in
theorem table_32 (b : ByteArray) (n : Nat) (s : Nat → Sec) (w : World) (hM : Magic w) (hb : b.size ≤ 1048576) (hE : identE b = 0) (hc : cls b = 32) (hn : n ≤ 26214) (hsb : SecB s) (hP : PSecs b n s 0) :
    Calls Tryd.prog 16 #[.string b] w fun r w' => ∃ v, r = .returned (.tuple #[v, .int .i64 (tabE b 32 (ord b) n s 0)]) ∧ w'.ownsRow w.heap.size 42 7 v (tabL b 32 (ord b) n s 0).length (symsV (tabL b 32 (ord b) n s 0)) ∧ Below w.heap.size w w' := by
  have hm : b.size ≤ maxLen := by unfold maxLen; omega
  have ho := ord_ok b hE
  have HI : Hid (∀ w : World, Magic w → Calls Tryd.prog 20 #[.string b] w fun r w' => r = .returned (.tuple #[.int .i64 32, .int .i64 (ord b), .int .i64 0]) ∧ Below w.heap.size w w') := fun w hM => by have h := ident_ok b w hM hm hE; rw [hc] at h; exact h
  have HP := Hid.mk' hP
  have HC : Hid (∀ w : World, Calls Tryd.prog 22 #[.int .i64 32] w fun r w' => r = .returned (.agg #[.int .u64 16, .int .i64 0, .int .i64 4, .int .i64 4, .int .i64 4, .int .i64 8, .int .i64 4, .int .i64 12, .int .i64 1, .int .i64 13, .int .i64 1, .int .i64 14, .int .i64 2]) ∧ Below w.heap.size w w') := columns_32
  generalize ord b = o at ho HI ⊢
  clear hE hc hP
  have HALL := Hid.mk' (And.intro hb (And.intro hn (And.intro hsb (And.intro hm ho))))
  clear hb hsb hm ho
  go_enter Tryd.func16, Tryd.ntmps16
  go_wp2_with (first
    | (go_at_call 20; refine (HI.out _ hM).mono ?_; rintro r w1 ⟨rfl, hb1⟩; have hM1 := hM.kept hb1)
    | (go_at_call 21; refine (HP.out _ hM1).mono ?_; rintro r w2 ⟨v, rfl, hS, hb2⟩; obtain ⟨ao, cp, rfl, hS0⟩ := hS)
    | (go_at_call 22; refine (HC.out _).mono ?_; rintro r w3 ⟨rfl, hb3⟩)
    | (refine wpList_store_row rfl _ _ _ rfl w3.heap.size (tabCells col32 o .empty .empty) rfl rfl _ _ (heap_alloc_new w3 _) rfl (by kernel_rfl) (by kernel_rfl) ?_))
  have hs1 := hb1.size
  have hs2 := hb2.size
  have hs3 := hb3.size
  have hWK : ((w3.alloc (.cells #[.int .u64 0, .int .i64 0, .int .i64 0, .int .i64 0, .int .i64 0, .int .i64 0, .int .i64 0, .int .i64 0, .int .i64 0, .int .i64 0, .int .i64 0, .int .i64 0, .int .i64 0, .int .i64 0, .string ⟨#[]⟩, .string ⟨#[]⟩] 72)).setRow w3.heap.size (tabCells col32 o .empty .empty)).heap[w3.heap.size]? = some (.cells (tabCells col32 o .empty .empty) 72 (0, 0)) := setRow_heap _ _ _ _ _ _ (heap_alloc_new w3 _)
  have hb23 : Below w2.heap.size w2 ((w3.alloc (.cells #[.int .u64 0, .int .i64 0, .int .i64 0, .int .i64 0, .int .i64 0, .int .i64 0, .int .i64 0, .int .i64 0, .int .i64 0, .int .i64 0, .int .i64 0, .int .i64 0, .int .i64 0, .int .i64 0, .string ⟨#[]⟩, .string ⟨#[]⟩] 72)).setRow w3.heap.size (tabCells col32 o .empty .empty)) := below_setRow (Below.alloc hb3 hs3 _) hs3 _
  have hWB : Below w.heap.size w ((w3.alloc (.cells #[.int .u64 0, .int .i64 0, .int .i64 0, .int .i64 0, .int .i64 0, .int .i64 0, .int .i64 0, .int .i64 0, .int .i64 0, .int .i64 0, .int .i64 0, .int .i64 0, .int .i64 0, .int .i64 0, .string ⟨#[]⟩, .string ⟨#[]⟩] 72)).setRow w3.heap.size (tabCells col32 o .empty .empty)) := (hb1.trans (hb2.mono hs1)).trans (hb23.mono (by omega))
  have hWS : SecsIn 0 ((w3.alloc (.cells #[.int .u64 0, .int .i64 0, .int .i64 0, .int .i64 0, .int .i64 0, .int .i64 0, .int .i64 0, .int .i64 0, .int .i64 0, .int .i64 0, .int .i64 0, .int .i64 0, .int .i64 0, .int .i64 0, .string ⟨#[]⟩, .string ⟨#[]⟩] 72)).setRow w3.heap.size (tabCells col32 o .empty .empty)) (.slice ao n cp) n s := SecsIn.kept ⟨ao, cp, rfl, fun h => by obtain ⟨g, cur, h1, _, h3, h4⟩ := hS0 h; exact ⟨g, cur, h1, Nat.zero_le _, h3, h4⟩⟩ hb23
  have hWZ : ((w3.alloc (.cells #[.int .u64 0, .int .i64 0, .int .i64 0, .int .i64 0, .int .i64 0, .int .i64 0, .int .i64 0, .int .i64 0, .int .i64 0, .int .i64 0, .int .i64 0, .int .i64 0, .int .i64 0, .int .i64 0, .string ⟨#[]⟩, .string ⟨#[]⟩] 72)).setRow w3.heap.size (tabCells col32 o .empty .empty)).heap.size = w3.heap.size + 1 := by rw [size_setRow, size_alloc]
  have hwK : w.heap.size ≤ w3.heap.size := by omega
  clear hb23 hb1 hb2 hb3 hS0 HI HP HC hM hM1 hs1 hs2 hs3
  generalize ((w3.alloc (.cells #[.int .u64 0, .int .i64 0, .int .i64 0, .int .i64 0, .int .i64 0, .int .i64 0, .int .i64 0, .int .i64 0, .int .i64 0, .int .i64 0, .int .i64 0, .int .i64 0, .int .i64 0, .int .i64 0, .string ⟨#[]⟩, .string ⟨#[]⟩] 72)).setRow w3.heap.size (tabCells col32 o .empty .empty)) = W at hWK hWB hWS hWZ ⊢
  generalize w3.heap.size = K at hWK hWZ hwK ⊢
  clear w3
  have hgK : ∀ g : Nat, ao = some ⟨g, 0, none⟩ → g < K + 1 ∨ n = 0 := by
    intro g hg
    obtain ⟨ao', cp', hv, hr⟩ := hWS
    obtain ⟨rfl, _, rfl⟩ : ao = ao' ∧ n = n ∧ cp = cp' := by simpa using hv
    by_cases h0 : n = 0
    · exact Or.inr h0
    · obtain ⟨g', cur, h1, _, h3, _⟩ := hr (by omega)
      rw [hg] at h1
      obtain rfl : g = g' := congrArg Addr.block (Option.some.inj h1)
      exact Or.inl (by rw [← hWZ]; exact (Array.getElem?_eq_some_iff.1 h3).1)
  have HGK := Hid.mk' hgK
  clear hgK
  go_loopw [8, 35] (fun u a wx => ∃ (i : Nat) (l : List Sym) (t0 n0 : ByteArray), i ≤ n ∧ a = .int .i64 i ∧ tabOf b 32 o n s i = .ok l ∧ wx.ownsRow (K + 1) 42 7 u l.length (symsV l) ∧ wx.heap[K]? = some (.cells (tabCells col32 o t0 n0) 72 (0, 0)) ∧ SecsIn 0 wx (.slice ao n cp) n s ∧ Below w.heap.size w wx ∧ K + 1 ≤ wx.heap.size) (fun _ a _ => n - (intOf a).toNat)
  case atStart => exact ⟨0, [], .empty, .empty, Nat.zero_le _, rfl, rfl, World.ownsRow_nil _ _ _ _, hWK, hWS, hWB, by omega⟩
  case round =>
    clear hWK hWS hWB hWZ W
    obtain ⟨i, l, t0, n0, hi, rfl, hl, hown, hR, hS, hB, hlt⟩ := hrel
    by_cases hin : i < n
    · obtain ⟨hb, hn', hsb, hm, ho⟩ := HALL.out
      obtain ⟨ao', cp', hv, hr⟩ := hS
      obtain ⟨rfl, _, rfl⟩ : ao = ao' ∧ n = n ∧ cp = cp' := by simpa using hv
      obtain ⟨g, cur, rfl, _, hg, hcur⟩ := hr (Nat.lt_of_le_of_lt (Nat.zero_le _) hin)
      have hS : SecsIn 0 wr (.slice (some ⟨g, 0, none⟩) n cp) n s := ⟨_, cp, rfl, fun _ => ⟨g, cur, rfl, Nat.zero_le _, hg, hcur⟩⟩
      have hxb := hsb i
      have hy := hcur i
      have hiI : (i : Int) < (n : Int) := Int.ofNat_lt.2 hin
      have hi0 : (0 : Int) ≤ (i : Int) := Int.natCast_nonneg _
      have hll := tab_length hb i l hl
      have hlm : l.length ≤ 1718091776 := by omega
      clear hr hcur hv hll
      cases hsx : s i with
      | mk x0 x1 x2 x3 x4 x5 x6 x7 =>
        rw [hsx] at hy hxb
        by_cases h2 : x1 = 2
        case neg =>
          have hnext := tab_at_not hl (by rw [hsx]; exact h2)
          have h2n : ((x1 : Int) != 2) = true := bne_iff_ne.2 (by omega)
          have a0 : wr.cell? ⟨g, i * 8, none⟩ = some (.int .i64 (x0 : Int)) := (cell_of_row _ _ _ _ _ _ hg).trans (hy 0 hin (by omega))
          have a1 : wr.cell? ⟨g, i * 8 + 1, none⟩ = some (.int .i64 (x1 : Int)) := (cell_of_row _ _ _ _ _ _ hg).trans (hy 1 hin (by omega))
          have a2 : wr.cell? ⟨g, i * 8 + 2, none⟩ = some (.int .u64 (x2 : Int)) := (cell_of_row _ _ _ _ _ _ hg).trans (hy 2 hin (by omega))
          have a3 : wr.cell? ⟨g, i * 8 + 3, none⟩ = some (.int .i64 (x3 : Int)) := (cell_of_row _ _ _ _ _ _ hg).trans (hy 3 hin (by omega))
          have a4 : wr.cell? ⟨g, i * 8 + 4, none⟩ = some (.int .i64 (x4 : Int)) := (cell_of_row _ _ _ _ _ _ hg).trans (hy 4 hin (by omega))
          have a5 : wr.cell? ⟨g, i * 8 + 5, none⟩ = some (.int .u64 (x5 : Int)) := (cell_of_row _ _ _ _ _ _ hg).trans (hy 5 hin (by omega))
          have a6 : wr.cell? ⟨g, i * 8 + 6, none⟩ = some (.int .u64 (x6 : Int)) := (cell_of_row _ _ _ _ _ _ hg).trans (hy 6 hin (by omega))
          have a7 : wr.cell? ⟨g, i * 8 + 7, none⟩ = some (.int .u64 (x7 : Int)) := (cell_of_row _ _ _ _ _ _ hg).trans (hy 7 hin (by omega))
          have HK : Hid ((wr.alloc (.cells #[.int .i64 (x0 : Int), .int .i64 (x1 : Int), .int .u64 (x2 : Int), .int .i64 (x3 : Int), .int .i64 (x4 : Int), .int .u64 (x5 : Int), .int .u64 (x6 : Int), .int .u64 (x7 : Int)] 60)).ownsRow (K + 1) 42 7 u8 l.length (symsV l) ∧ (wr.alloc (.cells #[.int .i64 (x0 : Int), .int .i64 (x1 : Int), .int .u64 (x2 : Int), .int .i64 (x3 : Int), .int .i64 (x4 : Int), .int .u64 (x5 : Int), .int .u64 (x6 : Int), .int .u64 (x7 : Int)] 60)).heap[K]? = some (.cells (tabCells col32 o t0 n0) 72 (0, 0)) ∧ SecsIn 0 (wr.alloc (.cells #[.int .i64 (x0 : Int), .int .i64 (x1 : Int), .int .u64 (x2 : Int), .int .i64 (x3 : Int), .int .i64 (x4 : Int), .int .u64 (x5 : Int), .int .u64 (x6 : Int), .int .u64 (x7 : Int)] 60)) (.slice (some ⟨g, 0, none⟩) n cp) n s ∧ Below w.heap.size w (wr.alloc (.cells #[.int .i64 (x0 : Int), .int .i64 (x1 : Int), .int .u64 (x2 : Int), .int .i64 (x3 : Int), .int .i64 (x4 : Int), .int .u64 (x5 : Int), .int .u64 (x6 : Int), .int .u64 (x7 : Int)] 60)) ∧ K + 1 ≤ (wr.alloc (.cells #[.int .i64 (x0 : Int), .int .i64 (x1 : Int), .int .u64 (x2 : Int), .int .i64 (x3 : Int), .int .i64 (x4 : Int), .int .u64 (x5 : Int), .int .u64 (x6 : Int), .int .u64 (x7 : Int)] 60)).heap.size) := ⟨hown.alloc _, (Below.heap_alloc wr _ K (by omega)).trans hR, hS.kept (Below.alloc (Below.refl _ _) (Nat.le_refl _) _), Below.alloc hB (by omega) _, by rw [size_alloc]; omega⟩
          have HNX := Hid.mk' hnext
          clear hnext hown hR hS hB hg hy hxb hl hsx h2 hb hm ho hsb hlm hn'
          go_wp2
          go_roundw
          case rel => exact ⟨i + 1, l, t0, n0, hin, by go_num, HNX.out, HK.out⟩
          case measure => clear HK HNX HALL; simp [intOf]; omega
        subst h2
        have h2s : (s i).ty = 2 := by rw [hsx]
        have a0 : wr.cell? ⟨g, i * 8, none⟩ = some (.int .i64 (x0 : Int)) := (cell_of_row _ _ _ _ _ _ hg).trans (hy 0 hin (by omega))
        have a1 : wr.cell? ⟨g, i * 8 + 1, none⟩ = some (.int .i64 2) := (cell_of_row _ _ _ _ _ _ hg).trans (hy 1 hin (by omega))
        have a2 : wr.cell? ⟨g, i * 8 + 2, none⟩ = some (.int .u64 (x2 : Int)) := (cell_of_row _ _ _ _ _ _ hg).trans (hy 2 hin (by omega))
        have a3 : wr.cell? ⟨g, i * 8 + 3, none⟩ = some (.int .i64 (x3 : Int)) := (cell_of_row _ _ _ _ _ _ hg).trans (hy 3 hin (by omega))
        have a4 : wr.cell? ⟨g, i * 8 + 4, none⟩ = some (.int .i64 (x4 : Int)) := (cell_of_row _ _ _ _ _ _ hg).trans (hy 4 hin (by omega))
        have a5 : wr.cell? ⟨g, i * 8 + 5, none⟩ = some (.int .u64 (x5 : Int)) := (cell_of_row _ _ _ _ _ _ hg).trans (hy 5 hin (by omega))
        have a6 : wr.cell? ⟨g, i * 8 + 6, none⟩ = some (.int .u64 (x6 : Int)) := (cell_of_row _ _ _ _ _ _ hg).trans (hy 6 hin (by omega))
        have a7 : wr.cell? ⟨g, i * 8 + 7, none⟩ = some (.int .u64 (x7 : Int)) := (cell_of_row _ _ _ _ _ _ hg).trans (hy 7 hin (by omega))
        have hbx : (wr.alloc (.cells #[.int .i64 (x0 : Int), .int .i64 2, .int .u64 (x2 : Int), .int .i64 (x3 : Int), .int .i64 (x4 : Int), .int .u64 (x5 : Int), .int .u64 (x6 : Int), .int .u64 (x7 : Int)] 60)).heap[wr.heap.size]? = some (.cells #[.int .i64 (x0 : Int), .int .i64 2, .int .u64 (x2 : Int), .int .i64 (x3 : Int), .int .i64 (x4 : Int), .int .u64 (x5 : Int), .int .u64 (x6 : Int), .int .u64 (x7 : Int)] 60 (0, 0)) := heap_alloc_new wr _
        have hRb : (wr.alloc (.cells #[.int .i64 (x0 : Int), .int .i64 2, .int .u64 (x2 : Int), .int .i64 (x3 : Int), .int .i64 (x4 : Int), .int .u64 (x5 : Int), .int .u64 (x6 : Int), .int .u64 (x7 : Int)] 60)).heap[K]? = some (.cells (tabCells col32 o t0 n0) 72 (0, 0)) := (Below.heap_alloc wr _ K (by omega)).trans hR
        have hSb : SecsIn 0 (wr.alloc (.cells #[.int .i64 (x0 : Int), .int .i64 2, .int .u64 (x2 : Int), .int .i64 (x3 : Int), .int .i64 (x4 : Int), .int .u64 (x5 : Int), .int .u64 (x6 : Int), .int .u64 (x7 : Int)] 60)) (.slice (some ⟨g, 0, none⟩) n cp) n s := hS.kept (Below.alloc (Below.refl _ _) (Nat.le_refl _) _)
        have hOb : (wr.alloc (.cells #[.int .i64 (x0 : Int), .int .i64 2, .int .u64 (x2 : Int), .int .i64 (x3 : Int), .int .i64 (x4 : Int), .int .u64 (x5 : Int), .int .u64 (x6 : Int), .int .u64 (x7 : Int)] 60)).ownsRow (K + 1) 42 7 u8 l.length (symsV l) := hown.alloc _
        have hBb : Below w.heap.size w (wr.alloc (.cells #[.int .i64 (x0 : Int), .int .i64 2, .int .u64 (x2 : Int), .int .i64 (x3 : Int), .int .i64 (x4 : Int), .int .u64 (x5 : Int), .int .u64 (x6 : Int), .int .u64 (x7 : Int)] 60)) := Below.alloc hB (by omega) _
        have hZb : (wr.alloc (.cells #[.int .i64 (x0 : Int), .int .i64 2, .int .u64 (x2 : Int), .int .i64 (x3 : Int), .int .i64 (x4 : Int), .int .u64 (x5 : Int), .int .u64 (x6 : Int), .int .u64 (x7 : Int)] 60)).heap.size = wr.heap.size + 1 := size_alloc _ _
        have HO := Hid.mk' (opened_32 b t0 n0 K 0 n o _ s ⟨x0, 2, x2, x3, x4, x5, x6, x7⟩ (wr.alloc (.cells #[.int .i64 (x0 : Int), .int .i64 2, .int .u64 (x2 : Int), .int .i64 (x3 : Int), .int .i64 (x4 : Int), .int .u64 (x5 : Int), .int .u64 (x6 : Int), .int .u64 (x7 : Int)] 60)) hRb hSb hn' hsb hxb hb)
        have hbK : Below w.heap.size w (wr.alloc (.cells #[.int .i64 (x0 : Int), .int .i64 2, .int .u64 (x2 : Int), .int .i64 (x3 : Int), .int .i64 (x4 : Int), .int .u64 (x5 : Int), .int .u64 (x6 : Int), .int .u64 (x7 : Int)] 60)) ∧ w.heap.size ≤ K ∧ K < (wr.alloc (.cells #[.int .i64 (x0 : Int), .int .i64 2, .int .u64 (x2 : Int), .int .i64 (x3 : Int), .int .i64 (x4 : Int), .int .u64 (x5 : Int), .int .u64 (x6 : Int), .int .u64 (x7 : Int)] 60)).heap.size := ⟨hBb, hwK, by omega⟩
        have hSc : ∀ w4 : World, Kq K (wr.alloc (.cells #[.int .i64 (x0 : Int), .int .i64 2, .int .u64 (x2 : Int), .int .i64 (x3 : Int), .int .i64 (x4 : Int), .int .u64 (x5 : Int), .int .u64 (x6 : Int), .int .u64 (x7 : Int)] 60)) w4 → SecsIn 0 w4 (.slice (some ⟨g, 0, none⟩) n cp) n s := fun w4 hq => secs_kq hq hSb hRb (by decide)
        have hgg : g < K + 1 := (HGK.out g rfl).resolve_right (by omega)
        clear hown hR hS hB hg hy hxb hm hRb hSb hBb
        cases hop : openOf b 32 n s ⟨x0, 2, x2, x3, x4, x5, x6, x7⟩ with
        | error e =>
          have hone : oneOf b 32 o n s (s i) = .error e := by rw [hsx]; exact one_err hop
          have hT := tab_err (tab_at_err hl hin h2s hone)
          have he0 := open_ne hop
          have HO' : Hid (e ≠ 0 ∧ Calls Tryd.prog 23 #[.pointer (some ⟨K, 0, none⟩), .string b, .slice (some ⟨g, 0, none⟩) n cp, .agg #[.int .i64 (x0 : Int), .int .i64 2, .int .u64 (x2 : Int), .int .i64 (x3 : Int), .int .i64 (x4 : Int), .int .u64 (x5 : Int), .int .u64 (x6 : Int), .int .u64 (x7 : Int)]] (wr.alloc (.cells #[.int .i64 (x0 : Int), .int .i64 2, .int .u64 (x2 : Int), .int .i64 (x3 : Int), .int .i64 (x4 : Int), .int .u64 (x5 : Int), .int .u64 (x6 : Int), .int .u64 (x7 : Int)] 60)) fun r w' => r = .returned (.int .i64 e) ∧ Kq K (wr.alloc (.cells #[.int .i64 (x0 : Int), .int .i64 2, .int .u64 (x2 : Int), .int .i64 (x3 : Int), .int .i64 (x4 : Int), .int .u64 (x5 : Int), .int .u64 (x6 : Int), .int .u64 (x7 : Int)] 60)) w') := ⟨he0, HO.out.mono fun r w' ⟨h1, h2⟩ => by
            rcases h2 with ⟨e', _, h3, h4⟩ | ⟨t, nm, h3, _⟩
            · rw [hop] at h3
              obtain rfl := Except.error.inj h3
              exact ⟨h4, h1⟩
            · rw [hop] at h3; cases h3⟩
          have he : (e != 0) = true := bne_iff_ne.2 HO'.out.1
          have HT := Hid.mk' hT
          have HBK := Hid.mk' hbK
          clear hT hone hop hl hsx hOb HO hsb hb ho hlm hn' hbK h2s he0 hSc hgg
          go_wp2_with (first
            | (refine wpList_load_row rfl _ _ rfl wr.heap.size rfl _ _ _ _ hbx Tryd.underlying60 rfl (by kernel_rfl) ?_)
            | (go_at_call 23; refine (HO'.out.2).mono ?_; rintro r w4 ⟨rfl, hq⟩))
          go_ret2
          rw [HT.out.1, HT.out.2]
          exact ⟨_, rfl, World.ownsRow_nil _ _ _ _, HBK.out.1.trans ((hq.below (Nat.le_refl K) (Nat.le_of_lt HBK.out.2.2)).mono HBK.out.2.1)⟩
        | ok tn =>
          obtain ⟨t, names⟩ := tn
          obtain ⟨hz1, hz2, hz3⟩ := open_size hop rfl hb
          have hzL : t.size = t.size / 16 * 16 := by
            have h3 : t.size % 16 = 0 := hz3
            omega
          have HO' : Hid (Calls Tryd.prog 23 #[.pointer (some ⟨K, 0, none⟩), .string b, .slice (some ⟨g, 0, none⟩) n cp, .agg #[.int .i64 (x0 : Int), .int .i64 2, .int .u64 (x2 : Int), .int .i64 (x3 : Int), .int .i64 (x4 : Int), .int .u64 (x5 : Int), .int .u64 (x6 : Int), .int .u64 (x7 : Int)]] (wr.alloc (.cells #[.int .i64 (x0 : Int), .int .i64 2, .int .u64 (x2 : Int), .int .i64 (x3 : Int), .int .i64 (x4 : Int), .int .u64 (x5 : Int), .int .u64 (x6 : Int), .int .u64 (x7 : Int)] 60)) fun r w' => r = .returned (.int .i64 0) ∧ Kq K (wr.alloc (.cells #[.int .i64 (x0 : Int), .int .i64 2, .int .u64 (x2 : Int), .int .i64 (x3 : Int), .int .i64 (x4 : Int), .int .u64 (x5 : Int), .int .u64 (x6 : Int), .int .u64 (x7 : Int)] 60)) w' ∧ w'.heap[K]? = some (.cells (tabCells col32 o t names) 72 (0, 0))) := HO.out.mono fun r w' ⟨h1, h2⟩ => by
            rcases h2 with ⟨e', _, h3, h4⟩ | ⟨t', nm', h3, h4, h5⟩
            · rw [hop] at h3; cases h3
            · rw [hop] at h3
              have h6 := Except.ok.inj h3
              obtain ⟨rfl, rfl⟩ := Prod.mk.inj h6
              exact ⟨h4, h1, h5⟩
          have HA : Hid (∀ w4 : World, Kq K (wr.alloc (.cells #[.int .i64 (x0 : Int), .int .i64 2, .int .u64 (x2 : Int), .int .i64 (x3 : Int), .int .i64 (x4 : Int), .int .u64 (x5 : Int), .int .u64 (x6 : Int), .int .u64 (x7 : Int)] 60)) w4 → w4.heap[K]? = some (.cells (tabCells col32 o t names) 72 (0, 0)) → Calls Tryd.prog 24 #[.pointer (some ⟨K, 0, none⟩), u8] w4 (Appended32 o t names (K + 1) l.length (symsV l) w4)) := fun w4 hq hr => appendTo_32 t names K l.length (K + 1) (t.size / 16) o u8 _ w4 hr (Nat.lt_succ_self K) (Array.getElem?_eq_some_iff.1 hr).1 (hq.own hOb (Nat.lt_succ_self K)) hlm hz1 hz2 ho hzL
          cases hsy : symsOf 32 o t names (t.size / 16) with
          | none =>
            have hone : oneOf b 32 o n s (s i) = .error 56 := by rw [hsx]; exact one_none hop hsy
            have hT := tab_err (tab_at_err hl hin h2s hone)
            have HA' : Hid (∀ w4 : World, Kq K (wr.alloc (.cells #[.int .i64 (x0 : Int), .int .i64 2, .int .u64 (x2 : Int), .int .i64 (x3 : Int), .int .i64 (x4 : Int), .int .u64 (x5 : Int), .int .u64 (x6 : Int), .int .u64 (x7 : Int)] 60)) w4 → w4.heap[K]? = some (.cells (tabCells col32 o t names) 72 (0, 0)) → Calls Tryd.prog 24 #[.pointer (some ⟨K, 0, none⟩), u8] w4 fun r w' => r = .returned (.tuple #[.slice none 0 0, .int .i64 56]) ∧ Below (K + 1) w4 w') := fun w4 hq hr => (HA.out w4 hq hr).mono fun r w' ⟨h1, h2⟩ => by
              rcases h2 with ⟨l', v', h3, _⟩ | ⟨_, h4⟩
              · rw [hsy] at h3; cases h3
              · exact ⟨h4, h1⟩
            have HT := Hid.mk' hT
            have HBK := Hid.mk' hbK
            clear hT hone hop hl hsx hOb HO HA hsb hb ho hlm hn' hbK h2s hz1 hz2 hz3 hzL hsy hSc hgg
            go_wp2_with (first
              | (refine wpList_load_row rfl _ _ rfl wr.heap.size rfl _ _ _ _ hbx Tryd.underlying60 rfl (by kernel_rfl) ?_)
              | (go_at_call 23; refine (HO'.out).mono ?_; rintro r w4 ⟨rfl, hq, hr4⟩; clear hbx)
              | (go_at_call 24; refine (HA'.out _ hq hr4).mono ?_; rintro r w5 ⟨rfl, hb5⟩))
            go_ret2
            rw [HT.out.1, HT.out.2]
            exact ⟨_, rfl, World.ownsRow_nil _ _ _ _, (HBK.out.1.trans ((hq.below (Nat.le_refl K) (Nat.le_of_lt HBK.out.2.2)).mono HBK.out.2.1)).trans (hb5.mono (by have := HBK.out.2.1; omega))⟩
          | some m =>
            have hone : oneOf b 32 o n s (s i) = .ok m := by rw [hsx]; exact one_some hop hsy
            have hnext := tab_at_ok hl h2s hone
            have HA' : Hid (∀ w4 : World, Kq K (wr.alloc (.cells #[.int .i64 (x0 : Int), .int .i64 2, .int .u64 (x2 : Int), .int .i64 (x3 : Int), .int .i64 (x4 : Int), .int .u64 (x5 : Int), .int .u64 (x6 : Int), .int .u64 (x7 : Int)] 60)) w4 → w4.heap[K]? = some (.cells (tabCells col32 o t names) 72 (0, 0)) → Calls Tryd.prog 24 #[.pointer (some ⟨K, 0, none⟩), u8] w4 fun r w' => ∃ v, r = .returned (.tuple #[v, .int .i64 0]) ∧ w'.ownsRow (K + 1) 42 7 v (l ++ m).length (symsV (l ++ m)) ∧ Below (K + 1) w4 w') := fun w4 hq hr => (HA.out w4 hq hr).mono fun r w' ⟨h1, h2⟩ => by
              rcases h2 with ⟨l', v', h3, h4, h5⟩ | ⟨h3, _⟩
              · rw [hsy] at h3
                obtain rfl := Option.some.inj h3
                exact ⟨v', h4, by rw [List.length_append, symsV_append]; exact h5, h1⟩
              · rw [hsy] at h3; cases h3
            have HNX := Hid.mk' hnext
            have HBK := Hid.mk' (And.intro hbK (And.intro hSc hgg))
            clear hnext hone hop hl hsx hOb HO HA hsb hb ho hlm hn' hbK h2s hz1 hz2 hz3 hzL hsy hSc hgg
            go_wp2_with (first
              | (refine wpList_load_row rfl _ _ rfl wr.heap.size rfl _ _ _ _ hbx Tryd.underlying60 rfl (by kernel_rfl) ?_)
              | (go_at_call 23; refine (HO'.out).mono ?_; rintro r w4 ⟨rfl, hq, hr4⟩; clear hbx)
              | (go_at_call 24; refine (HA'.out _ hq hr4).mono ?_; rintro r w5 ⟨v5, rfl, ho5, hb5⟩))
            obtain ⟨⟨hB1, hK1, hK2⟩, hSc, hgg⟩ := HBK.out
            have HF : Hid (w5.ownsRow (K + 1) 42 7 v5 (l ++ m).length (symsV (l ++ m)) ∧ w5.heap[K]? = some (.cells (tabCells col32 o t names) 72 (0, 0)) ∧ SecsIn 0 w5 (.slice (some ⟨g, 0, none⟩) n cp) n s ∧ Below w.heap.size w w5 ∧ K + 1 ≤ w5.heap.size) := ⟨ho5, (hb5.block K (Nat.lt_succ_self K)).trans hr4, secs_low_32 (hSc w4 hq) hgg hb5, (hB1.trans ((hq.below (Nat.le_refl K) (Nat.le_of_lt hK2)).mono hK1)).trans (hb5.mono (by omega)), Nat.le_trans (Nat.le_trans hK2 hq.size) hb5.size⟩
            clear hB1 hK1 hK2 hSc hgg ho5 hr4 hb5 hq HBK
            go_roundw
            case rel => exact ⟨i + 1, l ++ m, t, names, hin, by go_num, HNX.out, HF.out⟩
            case measure => clear HF HNX HALL HA' HO'; simp [intOf]; omega
    · obtain rfl : i = n := Nat.le_antisymm hi (Nat.not_lt.1 hin)
      have HT := Hid.mk' (tab_ok hl)
      have hiI : ¬ (i : Int) < (i : Int) := Int.lt_irrefl _
      go_wp2
      go_ret2
      rw [HT.out.1, HT.out.2]
      exact ⟨_, rfl, own_base hown (by omega), hB⟩
end Go.Proofs.YtkmehjikllilaaaDoor

-- syms: opening a symbol table, class 64: contracts.
namespace Go.Proofs.YtkmehjikllilaaaDoor
open Go.ChangeShapes Go.WideShapes Go.ChangeAt Go.RowKit
set_option linter.unusedVariables false
set_option maxRecDepth 100000
theorem open_55a_64 (b t0 n0 : ByteArray) (k : Nat) (o : Int) (v : Value) (x0 x1 x2 x3 x4 x5 x6 x7 : Nat) (w : World) (hF : w.heap[k]? = some (.cells (tabCells col64 o t0 n0) 72 (0, 0))) (hx : x7 ≠ 24) :
    Calls Tryd.prog 23 #[.pointer (some ⟨k, 0, none⟩), .string b, v, .agg #[.int .i64 (x0 : Int), .int .i64 (x1 : Int), .int .u64 (x2 : Int), .int .i64 (x3 : Int), .int .i64 (x4 : Int), .int .u64 (x5 : Int), .int .u64 (x6 : Int), .int .u64 (x7 : Int)]] w fun r w' => r = .returned (.int .i64 55) ∧ Kq k w w' := by
  have hk : k < w.heap.size := (Array.getElem?_eq_some_iff.1 hF).1
  have c0 : (w.alloc (.cells #[.int .i64 (x0 : Int), .int .i64 (x1 : Int), .int .u64 (x2 : Int), .int .i64 (x3 : Int), .int .i64 (x4 : Int), .int .u64 (x5 : Int), .int .u64 (x6 : Int), .int .u64 (x7 : Int)] 60)).cell? ⟨k, 0, none⟩ = some (.int .u64 24) := by rw [World.cell?_alloc_past _ _ _ hk, cell_of_row _ _ _ _ _ _ hF]; rfl
  have hne : ((x7 : Int) != 24) = true := bne_iff_ne.2 (by omega)
  clear hF hk
  go_enter Tryd.func23, Tryd.ntmps23
  go_wp2_with fail
  go_quiet (fail)
  go_wp2
  go_ret
  exact ⟨rfl, Kq.of (below_drewN (Below.alloc (Below.refl _ _) (Nat.le_refl _) _) _)⟩
theorem open_55b_64 (b t0 n0 : ByteArray) (k : Nat) (o : Int) (v : Value) (x0 x1 x2 x3 x4 x5 x6 : Nat) (w : World) (hF : w.heap[k]? = some (.cells (tabCells col64 o t0 n0) 72 (0, 0))) (hx6 : x6 < 18446744073709551616) (hx : x6 % 24 ≠ 0) :
    Calls Tryd.prog 23 #[.pointer (some ⟨k, 0, none⟩), .string b, v, .agg #[.int .i64 (x0 : Int), .int .i64 (x1 : Int), .int .u64 (x2 : Int), .int .i64 (x3 : Int), .int .i64 (x4 : Int), .int .u64 (x5 : Int), .int .u64 (x6 : Int), .int .u64 24]] w fun r w' => r = .returned (.int .i64 55) ∧ Kq k w w' := by
  have hk : k < w.heap.size := (Array.getElem?_eq_some_iff.1 hF).1
  have c0 : (w.alloc (.cells #[.int .i64 (x0 : Int), .int .i64 (x1 : Int), .int .u64 (x2 : Int), .int .i64 (x3 : Int), .int .i64 (x4 : Int), .int .u64 (x5 : Int), .int .u64 (x6 : Int), .int .u64 24] 60)).cell? ⟨k, 0, none⟩ = some (.int .u64 24) := by rw [World.cell?_alloc_past _ _ _ hk, cell_of_row _ _ _ _ _ _ hF]; rfl
  have h60 : (0 : Int) ≤ (x6 : Int) := Int.natCast_nonneg _
  have h61 : (x6 : Int) ≤ 18446744073709551615 := Int.ofNat_le.2 (Nat.le_of_lt_succ hx6)
  have hne : ((x6 : Int) % 24 != 0) = true := bne_iff_ne.2 (by omega)
  clear hF hk hx hx6
  go_enter Tryd.func23, Tryd.ntmps23
  go_wp2_with fail
  go_quiet (fail)
  go_wp2
  go_ret
  exact ⟨rfl, Kq.of (below_drewN (Below.alloc (Below.refl _ _) (Nat.le_refl _) _) _)⟩
set_option maxHeartbeats 1000000 in
theorem open_54a_64 (b t0 n0 : ByteArray) (k : Nat) (o : Int) (v : Value) (x0 x1 x2 x3 x4 x5 x6 : Nat) (w : World) (hF : w.heap[k]? = some (.cells (tabCells col64 o t0 n0) 72 (0, 0))) (hx6 : x6 < 18446744073709551616) (hx : x6 % 24 = 0)
    (hC : ∀ w : World, Calls Tryd.prog 43 #[.string b, .agg #[.int .i64 (x0 : Int), .int .i64 (x1 : Int), .int .u64 (x2 : Int), .int .i64 (x3 : Int), .int .i64 (x4 : Int), .int .u64 (x5 : Int), .int .u64 (x6 : Int), .int .u64 24]] w fun r w' => r = .returned (.tuple #[.string .empty, .int .i64 54]) ∧ Below w.heap.size w w') :
    Calls Tryd.prog 23 #[.pointer (some ⟨k, 0, none⟩), .string b, v, .agg #[.int .i64 (x0 : Int), .int .i64 (x1 : Int), .int .u64 (x2 : Int), .int .i64 (x3 : Int), .int .i64 (x4 : Int), .int .u64 (x5 : Int), .int .u64 (x6 : Int), .int .u64 24]] w fun r w' => r = .returned (.int .i64 54) ∧ Kq k w w' := by
  have hk : k < w.heap.size := (Array.getElem?_eq_some_iff.1 hF).1
  have c0 : (w.alloc (.cells #[.int .i64 (x0 : Int), .int .i64 (x1 : Int), .int .u64 (x2 : Int), .int .i64 (x3 : Int), .int .i64 (x4 : Int), .int .u64 (x5 : Int), .int .u64 (x6 : Int), .int .u64 24] 60)).cell? ⟨k, 0, none⟩ = some (.int .u64 24) := by rw [World.cell?_alloc_past _ _ _ hk, cell_of_row _ _ _ _ _ _ hF]; rfl
  have HC := Hid.mk' hC
  clear hC
  have h60 : (0 : Int) ≤ (x6 : Int) := Int.natCast_nonneg _
  have h61 : (x6 : Int) ≤ 18446744073709551615 := Int.ofNat_le.2 (Nat.le_of_lt_succ hx6)
  have hne : ((x6 : Int) % 24 != 0) = false := bne_eq_false_iff_eq.2 (by omega)
  have hbx : (w.alloc (.cells #[.int .i64 (x0 : Int), .int .i64 (x1 : Int), .int .u64 (x2 : Int), .int .i64 (x3 : Int), .int .i64 (x4 : Int), .int .u64 (x5 : Int), .int .u64 (x6 : Int), .int .u64 24] 60)).heap[w.heap.size]? = some (.cells #[.int .i64 (x0 : Int), .int .i64 (x1 : Int), .int .u64 (x2 : Int), .int .i64 (x3 : Int), .int .i64 (x4 : Int), .int .u64 (x5 : Int), .int .u64 (x6 : Int), .int .u64 24] 60 (0, 0)) := heap_alloc_new w _
  have hB0 : Below w.heap.size w (w.alloc (.cells #[.int .i64 (x0 : Int), .int .i64 (x1 : Int), .int .u64 (x2 : Int), .int .i64 (x3 : Int), .int .i64 (x4 : Int), .int .u64 (x5 : Int), .int .u64 (x6 : Int), .int .u64 24] 60)) := Below.alloc (Below.refl _ _) (Nat.le_refl _) _
  have hFb : (w.alloc (.cells #[.int .i64 (x0 : Int), .int .i64 (x1 : Int), .int .u64 (x2 : Int), .int .i64 (x3 : Int), .int .i64 (x4 : Int), .int .u64 (x5 : Int), .int .u64 (x6 : Int), .int .u64 24] 60)).heap[k]? = some (.cells (tabCells col64 o t0 n0) 72 (0, 0)) := (Below.heap_alloc w _ k hk).trans hF
  have hzb : (w.alloc (.cells #[.int .i64 (x0 : Int), .int .i64 (x1 : Int), .int .u64 (x2 : Int), .int .i64 (x3 : Int), .int .i64 (x4 : Int), .int .u64 (x5 : Int), .int .u64 (x6 : Int), .int .u64 24] 60)).heap.size = w.heap.size + 1 := size_alloc _ _
  clear hF hx hx6
  have HK := Hid.mk' (And.intro hbx (And.intro hB0 (And.intro hFb (And.intro hzb hk))))
  clear hbx hB0 hFb hzb hk
  go_enter Tryd.func23, Tryd.ntmps23
  go_wp2_with fail
  go_quiet (fail)
  obtain ⟨hbx, hB0, hFb, hzb, hk⟩ := HK.out
  clear HK c0 hne h60 h61
  have hB1 : Below w.heap.size w ((w.alloc (.cells #[.int .i64 (x0 : Int), .int .i64 (x1 : Int), .int .u64 (x2 : Int), .int .i64 (x3 : Int), .int .i64 (x4 : Int), .int .u64 (x5 : Int), .int .u64 (x6 : Int), .int .u64 24] 60)).drewN nq) := below_drewN hB0 _
  have hF1 : ((w.alloc (.cells #[.int .i64 (x0 : Int), .int .i64 (x1 : Int), .int .u64 (x2 : Int), .int .i64 (x3 : Int), .int .i64 (x4 : Int), .int .u64 (x5 : Int), .int .u64 (x6 : Int), .int .u64 24] 60)).drewN nq).heap[k]? = some (.cells (tabCells col64 o t0 n0) 72 (0, 0)) := hFb
  have hb1 : ((w.alloc (.cells #[.int .i64 (x0 : Int), .int .i64 (x1 : Int), .int .u64 (x2 : Int), .int .i64 (x3 : Int), .int .i64 (x4 : Int), .int .u64 (x5 : Int), .int .u64 (x6 : Int), .int .u64 24] 60)).drewN nq).heap[w.heap.size]? = some (.cells #[.int .i64 (x0 : Int), .int .i64 (x1 : Int), .int .u64 (x2 : Int), .int .i64 (x3 : Int), .int .i64 (x4 : Int), .int .u64 (x5 : Int), .int .u64 (x6 : Int), .int .u64 24] 60 (0, 0)) := hbx
  have hz1 : ((w.alloc (.cells #[.int .i64 (x0 : Int), .int .i64 (x1 : Int), .int .u64 (x2 : Int), .int .i64 (x3 : Int), .int .i64 (x4 : Int), .int .u64 (x5 : Int), .int .u64 (x6 : Int), .int .u64 24] 60)).drewN nq).heap.size = w.heap.size + 1 := hzb
  clear hB0 hFb hbx hzb
  generalize ((w.alloc (.cells #[.int .i64 (x0 : Int), .int .i64 (x1 : Int), .int .u64 (x2 : Int), .int .i64 (x3 : Int), .int .i64 (x4 : Int), .int .u64 (x5 : Int), .int .u64 (x6 : Int), .int .u64 24] 60)).drewN nq) = W at hB1 hF1 hb1 hz1 ⊢
  have HFZ : Hid (∀ w1, Below W.heap.size W w1 → w1.cell? ⟨k, 14, none⟩ = some (.string t0) ∧ w1.frozen? ⟨k, 14, none⟩ = false) := fun w1 hb => by
    have h := (hb.block k (by omega)).trans hF1
    exact ⟨(cell_of_row _ _ 14 _ _ _ h).trans rfl, frozen_of_row _ _ 14 _ _ h⟩
  go_wp2_with (first
    | (refine wpList_load_row rfl _ _ rfl w.heap.size rfl _ _ _ _ hb1 Tryd.underlying60 rfl (by kernel_rfl) ?_)
    | (go_at_call 43; refine (HC.out _).mono ?_; rintro r w1 ⟨rfl, hbc⟩; obtain ⟨c14, z14⟩ := HFZ.out w1 hbc))
  go_ret
  exact ⟨rfl, ((Kq.of hB1).trans (Kq.of (hbc.mono (Nat.le_refl _)))).set _ _⟩
set_option maxHeartbeats 1000000 in
theorem open_60a_64 (b t0 n0 t : ByteArray) (k : Nat) (o : Int) (n cp : Nat) (ao : Option Addr) (x0 x1 x2 x3 x4 x5 x6 : Nat) (w : World) (hF : w.heap[k]? = some (.cells (tabCells col64 o t0 n0) 72 (0, 0))) (hx6 : x6 < 18446744073709551616) (hx : x6 % 24 = 0) (hli : n ≤ x3)
    (hC : ∀ w : World, Calls Tryd.prog 43 #[.string b, .agg #[.int .i64 (x0 : Int), .int .i64 (x1 : Int), .int .u64 (x2 : Int), .int .i64 (x3 : Int), .int .i64 (x4 : Int), .int .u64 (x5 : Int), .int .u64 (x6 : Int), .int .u64 24]] w fun r w' => r = .returned (.tuple #[.string t, .int .i64 0]) ∧ Below w.heap.size w w') :
    Calls Tryd.prog 23 #[.pointer (some ⟨k, 0, none⟩), .string b, .slice ao n cp, .agg #[.int .i64 (x0 : Int), .int .i64 (x1 : Int), .int .u64 (x2 : Int), .int .i64 (x3 : Int), .int .i64 (x4 : Int), .int .u64 (x5 : Int), .int .u64 (x6 : Int), .int .u64 24]] w fun r w' => r = .returned (.int .i64 60) ∧ Kq k w w' := by
  have hk : k < w.heap.size := (Array.getElem?_eq_some_iff.1 hF).1
  have c0 : (w.alloc (.cells #[.int .i64 (x0 : Int), .int .i64 (x1 : Int), .int .u64 (x2 : Int), .int .i64 (x3 : Int), .int .i64 (x4 : Int), .int .u64 (x5 : Int), .int .u64 (x6 : Int), .int .u64 24] 60)).cell? ⟨k, 0, none⟩ = some (.int .u64 24) := by rw [World.cell?_alloc_past _ _ _ hk, cell_of_row _ _ _ _ _ _ hF]; rfl
  have HC := Hid.mk' hC
  have hge : (n : Int) ≤ (x3 : Int) := Int.ofNat_le.2 hli
  clear hC
  have h60 : (0 : Int) ≤ (x6 : Int) := Int.natCast_nonneg _
  have h61 : (x6 : Int) ≤ 18446744073709551615 := Int.ofNat_le.2 (Nat.le_of_lt_succ hx6)
  have hne : ((x6 : Int) % 24 != 0) = false := bne_eq_false_iff_eq.2 (by omega)
  have hbx : (w.alloc (.cells #[.int .i64 (x0 : Int), .int .i64 (x1 : Int), .int .u64 (x2 : Int), .int .i64 (x3 : Int), .int .i64 (x4 : Int), .int .u64 (x5 : Int), .int .u64 (x6 : Int), .int .u64 24] 60)).heap[w.heap.size]? = some (.cells #[.int .i64 (x0 : Int), .int .i64 (x1 : Int), .int .u64 (x2 : Int), .int .i64 (x3 : Int), .int .i64 (x4 : Int), .int .u64 (x5 : Int), .int .u64 (x6 : Int), .int .u64 24] 60 (0, 0)) := heap_alloc_new w _
  have hB0 : Below w.heap.size w (w.alloc (.cells #[.int .i64 (x0 : Int), .int .i64 (x1 : Int), .int .u64 (x2 : Int), .int .i64 (x3 : Int), .int .i64 (x4 : Int), .int .u64 (x5 : Int), .int .u64 (x6 : Int), .int .u64 24] 60)) := Below.alloc (Below.refl _ _) (Nat.le_refl _) _
  have hFb : (w.alloc (.cells #[.int .i64 (x0 : Int), .int .i64 (x1 : Int), .int .u64 (x2 : Int), .int .i64 (x3 : Int), .int .i64 (x4 : Int), .int .u64 (x5 : Int), .int .u64 (x6 : Int), .int .u64 24] 60)).heap[k]? = some (.cells (tabCells col64 o t0 n0) 72 (0, 0)) := (Below.heap_alloc w _ k hk).trans hF
  have hzb : (w.alloc (.cells #[.int .i64 (x0 : Int), .int .i64 (x1 : Int), .int .u64 (x2 : Int), .int .i64 (x3 : Int), .int .i64 (x4 : Int), .int .u64 (x5 : Int), .int .u64 (x6 : Int), .int .u64 24] 60)).heap.size = w.heap.size + 1 := size_alloc _ _
  clear hF hx hx6
  have HK := Hid.mk' (And.intro hbx (And.intro hB0 (And.intro hFb (And.intro hzb hk))))
  clear hbx hB0 hFb hzb hk
  go_enter Tryd.func23, Tryd.ntmps23
  go_wp2_with fail
  go_quiet (fail)
  obtain ⟨hbx, hB0, hFb, hzb, hk⟩ := HK.out
  clear HK c0 hne h60 h61
  have hB1 : Below w.heap.size w ((w.alloc (.cells #[.int .i64 (x0 : Int), .int .i64 (x1 : Int), .int .u64 (x2 : Int), .int .i64 (x3 : Int), .int .i64 (x4 : Int), .int .u64 (x5 : Int), .int .u64 (x6 : Int), .int .u64 24] 60)).drewN nq) := below_drewN hB0 _
  have hF1 : ((w.alloc (.cells #[.int .i64 (x0 : Int), .int .i64 (x1 : Int), .int .u64 (x2 : Int), .int .i64 (x3 : Int), .int .i64 (x4 : Int), .int .u64 (x5 : Int), .int .u64 (x6 : Int), .int .u64 24] 60)).drewN nq).heap[k]? = some (.cells (tabCells col64 o t0 n0) 72 (0, 0)) := hFb
  have hb1 : ((w.alloc (.cells #[.int .i64 (x0 : Int), .int .i64 (x1 : Int), .int .u64 (x2 : Int), .int .i64 (x3 : Int), .int .i64 (x4 : Int), .int .u64 (x5 : Int), .int .u64 (x6 : Int), .int .u64 24] 60)).drewN nq).heap[w.heap.size]? = some (.cells #[.int .i64 (x0 : Int), .int .i64 (x1 : Int), .int .u64 (x2 : Int), .int .i64 (x3 : Int), .int .i64 (x4 : Int), .int .u64 (x5 : Int), .int .u64 (x6 : Int), .int .u64 24] 60 (0, 0)) := hbx
  have hz1 : ((w.alloc (.cells #[.int .i64 (x0 : Int), .int .i64 (x1 : Int), .int .u64 (x2 : Int), .int .i64 (x3 : Int), .int .i64 (x4 : Int), .int .u64 (x5 : Int), .int .u64 (x6 : Int), .int .u64 24] 60)).drewN nq).heap.size = w.heap.size + 1 := hzb
  clear hB0 hFb hbx hzb
  generalize ((w.alloc (.cells #[.int .i64 (x0 : Int), .int .i64 (x1 : Int), .int .u64 (x2 : Int), .int .i64 (x3 : Int), .int .i64 (x4 : Int), .int .u64 (x5 : Int), .int .u64 (x6 : Int), .int .u64 24] 60)).drewN nq) = W at hB1 hF1 hb1 hz1 ⊢
  have HFZ : Hid (∀ w1, Below W.heap.size W w1 → w1.cell? ⟨k, 14, none⟩ = some (.string t0) ∧ w1.frozen? ⟨k, 14, none⟩ = false) := fun w1 hb => by
    have h := (hb.block k (by omega)).trans hF1
    exact ⟨(cell_of_row _ _ 14 _ _ _ h).trans rfl, frozen_of_row _ _ 14 _ _ h⟩
  go_wp2_with (first
    | (refine wpList_load_row rfl _ _ rfl w.heap.size rfl _ _ _ _ hb1 Tryd.underlying60 rfl (by kernel_rfl) ?_)
    | (go_at_call 43; refine (HC.out _).mono ?_; rintro r w1 ⟨rfl, hbc⟩; obtain ⟨c14, z14⟩ := HFZ.out w1 hbc; have hF2 : (w1.setCell ⟨k, 14, none⟩ (.string t)).heap[k]? = some (.cells (tabCells col64 o t n0) 72 (0, 0)) := (set_row (.string t) ((hbc.block k (by omega)).trans hF1)).trans rfl; have hb2 : (w1.setCell ⟨k, 14, none⟩ (.string t)).heap[w.heap.size]? = some (.cells #[.int .i64 (x0 : Int), .int .i64 (x1 : Int), .int .u64 (x2 : Int), .int .i64 (x3 : Int), .int .i64 (x4 : Int), .int .u64 (x5 : Int), .int .u64 (x6 : Int), .int .u64 24] 60 (0, 0)) := (Below.heap_setCell w1 _ _ _ (by show w.heap.size ≠ k; omega)).trans ((hbc.block _ (by omega)).trans hb1); have hq2 : Kq k w (w1.setCell ⟨k, 14, none⟩ (.string t)) := ((Kq.of hB1).trans (Kq.of (hbc.mono (Nat.le_refl _)))).set _ _; have hx3 : (w1.setCell ⟨k, 14, none⟩ (.string t)).cell? ⟨w.heap.size, 3, none⟩ = some (.int .i64 (x3 : Int)) := cell_of_row _ _ 3 _ _ _ hb2))
  go_ret
  exact ⟨rfl, hq2⟩
set_option maxHeartbeats 1000000 in
theorem open_60b_64 (b t0 n0 t : ByteArray) (k : Nat) (o : Int) (n cp g : Nat) (cur : Array Value) (y0 y1 y2 y3 y4 y5 y6 y7 : Nat) (x0 x1 x2 x3 x4 x5 x6 : Nat) (w : World) (hF : w.heap[k]? = some (.cells (tabCells col64 o t0 n0) 72 (0, 0))) (hx6 : x6 < 18446744073709551616) (hx : x6 % 24 = 0) (hli : x3 < n) (hn : n ≤ 26214) (hg : w.heap[g]? = some (.cells cur 60 (0, 0))) (hgk : g ≠ k) (hy : ∀ m, m < 8 → cur[x3 * 8 + m]? = (#[.int .i64 (y0 : Int), .int .i64 (y1 : Int), .int .u64 (y2 : Int), .int .i64 (y3 : Int), .int .i64 (y4 : Int), .int .u64 (y5 : Int), .int .u64 (y6 : Int), .int .u64 (y7 : Int)] : Array Value)[m]?) (h3 : y1 ≠ 3)
    (hC : ∀ w : World, Calls Tryd.prog 43 #[.string b, .agg #[.int .i64 (x0 : Int), .int .i64 (x1 : Int), .int .u64 (x2 : Int), .int .i64 (x3 : Int), .int .i64 (x4 : Int), .int .u64 (x5 : Int), .int .u64 (x6 : Int), .int .u64 24]] w fun r w' => r = .returned (.tuple #[.string t, .int .i64 0]) ∧ Below w.heap.size w w') :
    Calls Tryd.prog 23 #[.pointer (some ⟨k, 0, none⟩), .string b, .slice (some ⟨g, 0, none⟩) n cp, .agg #[.int .i64 (x0 : Int), .int .i64 (x1 : Int), .int .u64 (x2 : Int), .int .i64 (x3 : Int), .int .i64 (x4 : Int), .int .u64 (x5 : Int), .int .u64 (x6 : Int), .int .u64 24]] w fun r w' => r = .returned (.int .i64 60) ∧ Kq k w w' := by
  have hk : k < w.heap.size := (Array.getElem?_eq_some_iff.1 hF).1
  have c0 : (w.alloc (.cells #[.int .i64 (x0 : Int), .int .i64 (x1 : Int), .int .u64 (x2 : Int), .int .i64 (x3 : Int), .int .i64 (x4 : Int), .int .u64 (x5 : Int), .int .u64 (x6 : Int), .int .u64 24] 60)).cell? ⟨k, 0, none⟩ = some (.int .u64 24) := by rw [World.cell?_alloc_past _ _ _ hk, cell_of_row _ _ _ _ _ _ hF]; rfl
  have HC := Hid.mk' hC
  have hge : ¬ (n : Int) ≤ (x3 : Int) := Int.not_le.2 (Int.ofNat_lt.2 hli)
  have hlt : (x3 : Int) < (n : Int) := Int.ofNat_lt.2 hli
  have hl0 : (0 : Int) ≤ (x3 : Int) := Int.natCast_nonneg _
  have h3n : ((y1 : Int) != 3) = true := bne_iff_ne.2 (by omega)
  clear hC h3
  have h60 : (0 : Int) ≤ (x6 : Int) := Int.natCast_nonneg _
  have h61 : (x6 : Int) ≤ 18446744073709551615 := Int.ofNat_le.2 (Nat.le_of_lt_succ hx6)
  have hne : ((x6 : Int) % 24 != 0) = false := bne_eq_false_iff_eq.2 (by omega)
  have hbx : (w.alloc (.cells #[.int .i64 (x0 : Int), .int .i64 (x1 : Int), .int .u64 (x2 : Int), .int .i64 (x3 : Int), .int .i64 (x4 : Int), .int .u64 (x5 : Int), .int .u64 (x6 : Int), .int .u64 24] 60)).heap[w.heap.size]? = some (.cells #[.int .i64 (x0 : Int), .int .i64 (x1 : Int), .int .u64 (x2 : Int), .int .i64 (x3 : Int), .int .i64 (x4 : Int), .int .u64 (x5 : Int), .int .u64 (x6 : Int), .int .u64 24] 60 (0, 0)) := heap_alloc_new w _
  have hB0 : Below w.heap.size w (w.alloc (.cells #[.int .i64 (x0 : Int), .int .i64 (x1 : Int), .int .u64 (x2 : Int), .int .i64 (x3 : Int), .int .i64 (x4 : Int), .int .u64 (x5 : Int), .int .u64 (x6 : Int), .int .u64 24] 60)) := Below.alloc (Below.refl _ _) (Nat.le_refl _) _
  have hFb : (w.alloc (.cells #[.int .i64 (x0 : Int), .int .i64 (x1 : Int), .int .u64 (x2 : Int), .int .i64 (x3 : Int), .int .i64 (x4 : Int), .int .u64 (x5 : Int), .int .u64 (x6 : Int), .int .u64 24] 60)).heap[k]? = some (.cells (tabCells col64 o t0 n0) 72 (0, 0)) := (Below.heap_alloc w _ k hk).trans hF
  have hzb : (w.alloc (.cells #[.int .i64 (x0 : Int), .int .i64 (x1 : Int), .int .u64 (x2 : Int), .int .i64 (x3 : Int), .int .i64 (x4 : Int), .int .u64 (x5 : Int), .int .u64 (x6 : Int), .int .u64 24] 60)).heap.size = w.heap.size + 1 := size_alloc _ _
  clear hF hx hx6
  have HK := Hid.mk' (And.intro hbx (And.intro hB0 (And.intro hFb (And.intro hzb hk))))
  clear hbx hB0 hFb hzb hk
  go_enter Tryd.func23, Tryd.ntmps23
  go_wp2_with fail
  go_quiet (fail)
  obtain ⟨hbx, hB0, hFb, hzb, hk⟩ := HK.out
  clear HK c0 hne h60 h61
  have hB1 : Below w.heap.size w ((w.alloc (.cells #[.int .i64 (x0 : Int), .int .i64 (x1 : Int), .int .u64 (x2 : Int), .int .i64 (x3 : Int), .int .i64 (x4 : Int), .int .u64 (x5 : Int), .int .u64 (x6 : Int), .int .u64 24] 60)).drewN nq) := below_drewN hB0 _
  have hF1 : ((w.alloc (.cells #[.int .i64 (x0 : Int), .int .i64 (x1 : Int), .int .u64 (x2 : Int), .int .i64 (x3 : Int), .int .i64 (x4 : Int), .int .u64 (x5 : Int), .int .u64 (x6 : Int), .int .u64 24] 60)).drewN nq).heap[k]? = some (.cells (tabCells col64 o t0 n0) 72 (0, 0)) := hFb
  have hb1 : ((w.alloc (.cells #[.int .i64 (x0 : Int), .int .i64 (x1 : Int), .int .u64 (x2 : Int), .int .i64 (x3 : Int), .int .i64 (x4 : Int), .int .u64 (x5 : Int), .int .u64 (x6 : Int), .int .u64 24] 60)).drewN nq).heap[w.heap.size]? = some (.cells #[.int .i64 (x0 : Int), .int .i64 (x1 : Int), .int .u64 (x2 : Int), .int .i64 (x3 : Int), .int .i64 (x4 : Int), .int .u64 (x5 : Int), .int .u64 (x6 : Int), .int .u64 24] 60 (0, 0)) := hbx
  have hz1 : ((w.alloc (.cells #[.int .i64 (x0 : Int), .int .i64 (x1 : Int), .int .u64 (x2 : Int), .int .i64 (x3 : Int), .int .i64 (x4 : Int), .int .u64 (x5 : Int), .int .u64 (x6 : Int), .int .u64 24] 60)).drewN nq).heap.size = w.heap.size + 1 := hzb
  clear hB0 hFb hbx hzb
  generalize ((w.alloc (.cells #[.int .i64 (x0 : Int), .int .i64 (x1 : Int), .int .u64 (x2 : Int), .int .i64 (x3 : Int), .int .i64 (x4 : Int), .int .u64 (x5 : Int), .int .u64 (x6 : Int), .int .u64 24] 60)).drewN nq) = W at hB1 hF1 hb1 hz1 ⊢
  have HFZ : Hid (∀ w1, Below W.heap.size W w1 → w1.cell? ⟨k, 14, none⟩ = some (.string t0) ∧ w1.frozen? ⟨k, 14, none⟩ = false) := fun w1 hb => by
    have h := (hb.block k (by omega)).trans hF1
    exact ⟨(cell_of_row _ _ 14 _ _ _ h).trans rfl, frozen_of_row _ _ 14 _ _ h⟩
  go_wp2_with (first
    | (refine wpList_load_row rfl _ _ rfl w.heap.size rfl _ _ _ _ hb1 Tryd.underlying60 rfl (by kernel_rfl) ?_)
    | (go_at_call 43; refine (HC.out _).mono ?_; rintro r w1 ⟨rfl, hbc⟩; obtain ⟨c14, z14⟩ := HFZ.out w1 hbc; have hF2 : (w1.setCell ⟨k, 14, none⟩ (.string t)).heap[k]? = some (.cells (tabCells col64 o t n0) 72 (0, 0)) := (set_row (.string t) ((hbc.block k (by omega)).trans hF1)).trans rfl; have hb2 : (w1.setCell ⟨k, 14, none⟩ (.string t)).heap[w.heap.size]? = some (.cells #[.int .i64 (x0 : Int), .int .i64 (x1 : Int), .int .u64 (x2 : Int), .int .i64 (x3 : Int), .int .i64 (x4 : Int), .int .u64 (x5 : Int), .int .u64 (x6 : Int), .int .u64 24] 60 (0, 0)) := (Below.heap_setCell w1 _ _ _ (by show w.heap.size ≠ k; omega)).trans ((hbc.block _ (by omega)).trans hb1); have hq2 : Kq k w (w1.setCell ⟨k, 14, none⟩ (.string t)) := ((Kq.of hB1).trans (Kq.of (hbc.mono (Nat.le_refl _)))).set _ _; have hx3 : (w1.setCell ⟨k, 14, none⟩ (.string t)).cell? ⟨w.heap.size, 3, none⟩ = some (.int .i64 (x3 : Int)) := cell_of_row _ _ 3 _ _ _ hb2; have hg2 : (w1.setCell ⟨k, 14, none⟩ (.string t)).heap[g]? = some (.cells cur 60 (0, 0)) := (hq2.block g hgk (Array.getElem?_eq_some_iff.1 hg).1).trans hg; have a0 : (w1.setCell ⟨k, 14, none⟩ (.string t)).cell? ⟨g, x3 * 8, none⟩ = some (.int .i64 (y0 : Int)) := (cell_of_row _ _ _ _ _ _ hg2).trans (hy 0 (by omega)); have a1 : (w1.setCell ⟨k, 14, none⟩ (.string t)).cell? ⟨g, x3 * 8 + 1, none⟩ = some (.int .i64 (y1 : Int)) := (cell_of_row _ _ _ _ _ _ hg2).trans (hy 1 (by omega)); have a2 : (w1.setCell ⟨k, 14, none⟩ (.string t)).cell? ⟨g, x3 * 8 + 2, none⟩ = some (.int .u64 (y2 : Int)) := (cell_of_row _ _ _ _ _ _ hg2).trans (hy 2 (by omega)); have a3 : (w1.setCell ⟨k, 14, none⟩ (.string t)).cell? ⟨g, x3 * 8 + 3, none⟩ = some (.int .i64 (y3 : Int)) := (cell_of_row _ _ _ _ _ _ hg2).trans (hy 3 (by omega)); have a4 : (w1.setCell ⟨k, 14, none⟩ (.string t)).cell? ⟨g, x3 * 8 + 4, none⟩ = some (.int .i64 (y4 : Int)) := (cell_of_row _ _ _ _ _ _ hg2).trans (hy 4 (by omega)); have a5 : (w1.setCell ⟨k, 14, none⟩ (.string t)).cell? ⟨g, x3 * 8 + 5, none⟩ = some (.int .u64 (y5 : Int)) := (cell_of_row _ _ _ _ _ _ hg2).trans (hy 5 (by omega)); have a6 : (w1.setCell ⟨k, 14, none⟩ (.string t)).cell? ⟨g, x3 * 8 + 6, none⟩ = some (.int .u64 (y6 : Int)) := (cell_of_row _ _ _ _ _ _ hg2).trans (hy 6 (by omega)); have a7 : (w1.setCell ⟨k, 14, none⟩ (.string t)).cell? ⟨g, x3 * 8 + 7, none⟩ = some (.int .u64 (y7 : Int)) := (cell_of_row _ _ _ _ _ _ hg2).trans (hy 7 (by omega))))
  go_ret
  exact ⟨rfl, hq2⟩
set_option maxHeartbeats 1000000 in
theorem open_54b_64 (b t0 n0 t : ByteArray) (k : Nat) (o : Int) (n cp g : Nat) (cur : Array Value) (y0 y2 y3 y4 y5 y6 y7 : Nat) (x0 x1 x2 x3 x4 x5 x6 : Nat) (w : World) (hF : w.heap[k]? = some (.cells (tabCells col64 o t0 n0) 72 (0, 0))) (hx6 : x6 < 18446744073709551616) (hx : x6 % 24 = 0) (hli : x3 < n) (hn : n ≤ 26214) (hg : w.heap[g]? = some (.cells cur 60 (0, 0))) (hgk : g ≠ k) (hy : ∀ m, m < 8 → cur[x3 * 8 + m]? = (#[.int .i64 (y0 : Int), .int .i64 3, .int .u64 (y2 : Int), .int .i64 (y3 : Int), .int .i64 (y4 : Int), .int .u64 (y5 : Int), .int .u64 (y6 : Int), .int .u64 (y7 : Int)] : Array Value)[m]?)
    (hC : ∀ w : World, Calls Tryd.prog 43 #[.string b, .agg #[.int .i64 (x0 : Int), .int .i64 (x1 : Int), .int .u64 (x2 : Int), .int .i64 (x3 : Int), .int .i64 (x4 : Int), .int .u64 (x5 : Int), .int .u64 (x6 : Int), .int .u64 24]] w fun r w' => r = .returned (.tuple #[.string t, .int .i64 0]) ∧ Below w.heap.size w w')
    (hD : ∀ w : World, Calls Tryd.prog 43 #[.string b, .agg #[.int .i64 (y0 : Int), .int .i64 3, .int .u64 (y2 : Int), .int .i64 (y3 : Int), .int .i64 (y4 : Int), .int .u64 (y5 : Int), .int .u64 (y6 : Int), .int .u64 (y7 : Int)]] w fun r w' => r = .returned (.tuple #[.string .empty, .int .i64 54]) ∧ Below w.heap.size w w') :
    Calls Tryd.prog 23 #[.pointer (some ⟨k, 0, none⟩), .string b, .slice (some ⟨g, 0, none⟩) n cp, .agg #[.int .i64 (x0 : Int), .int .i64 (x1 : Int), .int .u64 (x2 : Int), .int .i64 (x3 : Int), .int .i64 (x4 : Int), .int .u64 (x5 : Int), .int .u64 (x6 : Int), .int .u64 24]] w fun r w' => r = .returned (.int .i64 54) ∧ Kq k w w' := by
  have hk : k < w.heap.size := (Array.getElem?_eq_some_iff.1 hF).1
  have c0 : (w.alloc (.cells #[.int .i64 (x0 : Int), .int .i64 (x1 : Int), .int .u64 (x2 : Int), .int .i64 (x3 : Int), .int .i64 (x4 : Int), .int .u64 (x5 : Int), .int .u64 (x6 : Int), .int .u64 24] 60)).cell? ⟨k, 0, none⟩ = some (.int .u64 24) := by rw [World.cell?_alloc_past _ _ _ hk, cell_of_row _ _ _ _ _ _ hF]; rfl
  have HC := Hid.mk' hC
  have HD := Hid.mk' hD
  have hge : ¬ (n : Int) ≤ (x3 : Int) := Int.not_le.2 (Int.ofNat_lt.2 hli)
  have hlt : (x3 : Int) < (n : Int) := Int.ofNat_lt.2 hli
  have hl0 : (0 : Int) ≤ (x3 : Int) := Int.natCast_nonneg _
  clear hC hD
  have h60 : (0 : Int) ≤ (x6 : Int) := Int.natCast_nonneg _
  have h61 : (x6 : Int) ≤ 18446744073709551615 := Int.ofNat_le.2 (Nat.le_of_lt_succ hx6)
  have hne : ((x6 : Int) % 24 != 0) = false := bne_eq_false_iff_eq.2 (by omega)
  have hbx : (w.alloc (.cells #[.int .i64 (x0 : Int), .int .i64 (x1 : Int), .int .u64 (x2 : Int), .int .i64 (x3 : Int), .int .i64 (x4 : Int), .int .u64 (x5 : Int), .int .u64 (x6 : Int), .int .u64 24] 60)).heap[w.heap.size]? = some (.cells #[.int .i64 (x0 : Int), .int .i64 (x1 : Int), .int .u64 (x2 : Int), .int .i64 (x3 : Int), .int .i64 (x4 : Int), .int .u64 (x5 : Int), .int .u64 (x6 : Int), .int .u64 24] 60 (0, 0)) := heap_alloc_new w _
  have hB0 : Below w.heap.size w (w.alloc (.cells #[.int .i64 (x0 : Int), .int .i64 (x1 : Int), .int .u64 (x2 : Int), .int .i64 (x3 : Int), .int .i64 (x4 : Int), .int .u64 (x5 : Int), .int .u64 (x6 : Int), .int .u64 24] 60)) := Below.alloc (Below.refl _ _) (Nat.le_refl _) _
  have hFb : (w.alloc (.cells #[.int .i64 (x0 : Int), .int .i64 (x1 : Int), .int .u64 (x2 : Int), .int .i64 (x3 : Int), .int .i64 (x4 : Int), .int .u64 (x5 : Int), .int .u64 (x6 : Int), .int .u64 24] 60)).heap[k]? = some (.cells (tabCells col64 o t0 n0) 72 (0, 0)) := (Below.heap_alloc w _ k hk).trans hF
  have hzb : (w.alloc (.cells #[.int .i64 (x0 : Int), .int .i64 (x1 : Int), .int .u64 (x2 : Int), .int .i64 (x3 : Int), .int .i64 (x4 : Int), .int .u64 (x5 : Int), .int .u64 (x6 : Int), .int .u64 24] 60)).heap.size = w.heap.size + 1 := size_alloc _ _
  clear hF hx hx6
  have HK := Hid.mk' (And.intro hbx (And.intro hB0 (And.intro hFb (And.intro hzb hk))))
  clear hbx hB0 hFb hzb hk
  go_enter Tryd.func23, Tryd.ntmps23
  go_wp2_with fail
  go_quiet (fail)
  obtain ⟨hbx, hB0, hFb, hzb, hk⟩ := HK.out
  clear HK c0 hne h60 h61
  have hB1 : Below w.heap.size w ((w.alloc (.cells #[.int .i64 (x0 : Int), .int .i64 (x1 : Int), .int .u64 (x2 : Int), .int .i64 (x3 : Int), .int .i64 (x4 : Int), .int .u64 (x5 : Int), .int .u64 (x6 : Int), .int .u64 24] 60)).drewN nq) := below_drewN hB0 _
  have hF1 : ((w.alloc (.cells #[.int .i64 (x0 : Int), .int .i64 (x1 : Int), .int .u64 (x2 : Int), .int .i64 (x3 : Int), .int .i64 (x4 : Int), .int .u64 (x5 : Int), .int .u64 (x6 : Int), .int .u64 24] 60)).drewN nq).heap[k]? = some (.cells (tabCells col64 o t0 n0) 72 (0, 0)) := hFb
  have hb1 : ((w.alloc (.cells #[.int .i64 (x0 : Int), .int .i64 (x1 : Int), .int .u64 (x2 : Int), .int .i64 (x3 : Int), .int .i64 (x4 : Int), .int .u64 (x5 : Int), .int .u64 (x6 : Int), .int .u64 24] 60)).drewN nq).heap[w.heap.size]? = some (.cells #[.int .i64 (x0 : Int), .int .i64 (x1 : Int), .int .u64 (x2 : Int), .int .i64 (x3 : Int), .int .i64 (x4 : Int), .int .u64 (x5 : Int), .int .u64 (x6 : Int), .int .u64 24] 60 (0, 0)) := hbx
  have hz1 : ((w.alloc (.cells #[.int .i64 (x0 : Int), .int .i64 (x1 : Int), .int .u64 (x2 : Int), .int .i64 (x3 : Int), .int .i64 (x4 : Int), .int .u64 (x5 : Int), .int .u64 (x6 : Int), .int .u64 24] 60)).drewN nq).heap.size = w.heap.size + 1 := hzb
  clear hB0 hFb hbx hzb
  generalize ((w.alloc (.cells #[.int .i64 (x0 : Int), .int .i64 (x1 : Int), .int .u64 (x2 : Int), .int .i64 (x3 : Int), .int .i64 (x4 : Int), .int .u64 (x5 : Int), .int .u64 (x6 : Int), .int .u64 24] 60)).drewN nq) = W at hB1 hF1 hb1 hz1 ⊢
  have HFZ : Hid (∀ w1, Below W.heap.size W w1 → w1.cell? ⟨k, 14, none⟩ = some (.string t0) ∧ w1.frozen? ⟨k, 14, none⟩ = false) := fun w1 hb => by
    have h := (hb.block k (by omega)).trans hF1
    exact ⟨(cell_of_row _ _ 14 _ _ _ h).trans rfl, frozen_of_row _ _ 14 _ _ h⟩
  go_wp2_with (first
    | (refine wpList_load_row rfl _ _ rfl w.heap.size rfl _ _ _ _ hb1 Tryd.underlying60 rfl (by kernel_rfl) ?_))
  go_at_call 43
  refine (HC.out _).mono ?_
  rintro r w1 ⟨rfl, hbc⟩
  obtain ⟨c14, z14⟩ := HFZ.out w1 hbc
  have hF2 : (w1.setCell ⟨k, 14, none⟩ (.string t)).heap[k]? = some (.cells (tabCells col64 o t n0) 72 (0, 0)) := (set_row (.string t) ((hbc.block k (by omega)).trans hF1)).trans rfl
  have hb2 : (w1.setCell ⟨k, 14, none⟩ (.string t)).heap[w.heap.size]? = some (.cells #[.int .i64 (x0 : Int), .int .i64 (x1 : Int), .int .u64 (x2 : Int), .int .i64 (x3 : Int), .int .i64 (x4 : Int), .int .u64 (x5 : Int), .int .u64 (x6 : Int), .int .u64 24] 60 (0, 0)) := (Below.heap_setCell w1 _ _ _ (by show w.heap.size ≠ k; omega)).trans ((hbc.block _ (by omega)).trans hb1)
  have hq2 : Kq k w (w1.setCell ⟨k, 14, none⟩ (.string t)) := ((Kq.of hB1).trans (Kq.of (hbc.mono (Nat.le_refl _)))).set _ _
  have hx3 : (w1.setCell ⟨k, 14, none⟩ (.string t)).cell? ⟨w.heap.size, 3, none⟩ = some (.int .i64 (x3 : Int)) := cell_of_row _ _ 3 _ _ _ hb2
  have hg2 : (w1.setCell ⟨k, 14, none⟩ (.string t)).heap[g]? = some (.cells cur 60 (0, 0)) := (hq2.block g hgk (Array.getElem?_eq_some_iff.1 hg).1).trans hg
  have a0 : (w1.setCell ⟨k, 14, none⟩ (.string t)).cell? ⟨g, x3 * 8, none⟩ = some (.int .i64 (y0 : Int)) := (cell_of_row _ _ _ _ _ _ hg2).trans (hy 0 (by omega))
  have a1 : (w1.setCell ⟨k, 14, none⟩ (.string t)).cell? ⟨g, x3 * 8 + 1, none⟩ = some (.int .i64 3) := (cell_of_row _ _ _ _ _ _ hg2).trans (hy 1 (by omega))
  have a2 : (w1.setCell ⟨k, 14, none⟩ (.string t)).cell? ⟨g, x3 * 8 + 2, none⟩ = some (.int .u64 (y2 : Int)) := (cell_of_row _ _ _ _ _ _ hg2).trans (hy 2 (by omega))
  have a3 : (w1.setCell ⟨k, 14, none⟩ (.string t)).cell? ⟨g, x3 * 8 + 3, none⟩ = some (.int .i64 (y3 : Int)) := (cell_of_row _ _ _ _ _ _ hg2).trans (hy 3 (by omega))
  have a4 : (w1.setCell ⟨k, 14, none⟩ (.string t)).cell? ⟨g, x3 * 8 + 4, none⟩ = some (.int .i64 (y4 : Int)) := (cell_of_row _ _ _ _ _ _ hg2).trans (hy 4 (by omega))
  have a5 : (w1.setCell ⟨k, 14, none⟩ (.string t)).cell? ⟨g, x3 * 8 + 5, none⟩ = some (.int .u64 (y5 : Int)) := (cell_of_row _ _ _ _ _ _ hg2).trans (hy 5 (by omega))
  have a6 : (w1.setCell ⟨k, 14, none⟩ (.string t)).cell? ⟨g, x3 * 8 + 6, none⟩ = some (.int .u64 (y6 : Int)) := (cell_of_row _ _ _ _ _ _ hg2).trans (hy 6 (by omega))
  have a7 : (w1.setCell ⟨k, 14, none⟩ (.string t)).cell? ⟨g, x3 * 8 + 7, none⟩ = some (.int .u64 (y7 : Int)) := (cell_of_row _ _ _ _ _ _ hg2).trans (hy 7 (by omega))
  have hra : (w1.setCell ⟨k, 14, none⟩ (.string t)).rangeAt g (x3 * 8) [.int .i64 (y0 : Int), .int .i64 3, .int .u64 (y2 : Int), .int .i64 (y3 : Int), .int .i64 (y4 : Int), .int .u64 (y5 : Int), .int .u64 (y6 : Int), .int .u64 (y7 : Int)] := fun j u hj => (cell_of_row _ _ _ _ _ _ hg2).trans ((hy j (List.getElem?_eq_some_iff.1 hj).1).trans (List.getElem?_toArray.trans hj))
  clear hF1 hz1 hbc HC HFZ hB1 hb1 hra
  go_wp2_with (first
    | (go_at_call 43; refine (HD.out _).mono ?_; rintro r w4 ⟨rfl, hbd⟩; have hF4 := (hbd.block k (Array.getElem?_eq_some_iff.1 hF2).1).trans hF2; have c15 : w4.cell? ⟨k, 15, none⟩ = some (.string n0) := (cell_of_row _ _ 15 _ _ _ hF4).trans rfl; have z15 : w4.frozen? ⟨k, 15, none⟩ = false := frozen_of_row _ _ 15 _ _ hF4))
  go_ret
  exact ⟨rfl, (hq2.trans (Kq.of hbd)).set _ _⟩
set_option maxHeartbeats 1000000 in
theorem open_ok_64 (b t0 n0 t names : ByteArray) (k : Nat) (o : Int) (n cp g : Nat) (cur : Array Value) (y0 y2 y3 y4 y5 y6 y7 : Nat) (x0 x1 x2 x3 x4 x5 x6 : Nat) (w : World) (hF : w.heap[k]? = some (.cells (tabCells col64 o t0 n0) 72 (0, 0))) (hx6 : x6 < 18446744073709551616) (hx : x6 % 24 = 0) (hli : x3 < n) (hn : n ≤ 26214) (hg : w.heap[g]? = some (.cells cur 60 (0, 0))) (hgk : g ≠ k) (hy : ∀ m, m < 8 → cur[x3 * 8 + m]? = (#[.int .i64 (y0 : Int), .int .i64 3, .int .u64 (y2 : Int), .int .i64 (y3 : Int), .int .i64 (y4 : Int), .int .u64 (y5 : Int), .int .u64 (y6 : Int), .int .u64 (y7 : Int)] : Array Value)[m]?)
    (hC : ∀ w : World, Calls Tryd.prog 43 #[.string b, .agg #[.int .i64 (x0 : Int), .int .i64 (x1 : Int), .int .u64 (x2 : Int), .int .i64 (x3 : Int), .int .i64 (x4 : Int), .int .u64 (x5 : Int), .int .u64 (x6 : Int), .int .u64 24]] w fun r w' => r = .returned (.tuple #[.string t, .int .i64 0]) ∧ Below w.heap.size w w')
    (hD : ∀ w : World, Calls Tryd.prog 43 #[.string b, .agg #[.int .i64 (y0 : Int), .int .i64 3, .int .u64 (y2 : Int), .int .i64 (y3 : Int), .int .i64 (y4 : Int), .int .u64 (y5 : Int), .int .u64 (y6 : Int), .int .u64 (y7 : Int)]] w fun r w' => r = .returned (.tuple #[.string names, .int .i64 0]) ∧ Below w.heap.size w w') :
    Calls Tryd.prog 23 #[.pointer (some ⟨k, 0, none⟩), .string b, .slice (some ⟨g, 0, none⟩) n cp, .agg #[.int .i64 (x0 : Int), .int .i64 (x1 : Int), .int .u64 (x2 : Int), .int .i64 (x3 : Int), .int .i64 (x4 : Int), .int .u64 (x5 : Int), .int .u64 (x6 : Int), .int .u64 24]] w fun r w' => r = .returned (.int .i64 0) ∧ Kq k w w' ∧ w'.heap[k]? = some (.cells (tabCells col64 o t names) 72 (0, 0)) := by
  have hk : k < w.heap.size := (Array.getElem?_eq_some_iff.1 hF).1
  have c0 : (w.alloc (.cells #[.int .i64 (x0 : Int), .int .i64 (x1 : Int), .int .u64 (x2 : Int), .int .i64 (x3 : Int), .int .i64 (x4 : Int), .int .u64 (x5 : Int), .int .u64 (x6 : Int), .int .u64 24] 60)).cell? ⟨k, 0, none⟩ = some (.int .u64 24) := by rw [World.cell?_alloc_past _ _ _ hk, cell_of_row _ _ _ _ _ _ hF]; rfl
  have HC := Hid.mk' hC
  have HD := Hid.mk' hD
  have hge : ¬ (n : Int) ≤ (x3 : Int) := Int.not_le.2 (Int.ofNat_lt.2 hli)
  have hlt : (x3 : Int) < (n : Int) := Int.ofNat_lt.2 hli
  have hl0 : (0 : Int) ≤ (x3 : Int) := Int.natCast_nonneg _
  clear hC hD
  have h60 : (0 : Int) ≤ (x6 : Int) := Int.natCast_nonneg _
  have h61 : (x6 : Int) ≤ 18446744073709551615 := Int.ofNat_le.2 (Nat.le_of_lt_succ hx6)
  have hne : ((x6 : Int) % 24 != 0) = false := bne_eq_false_iff_eq.2 (by omega)
  have hbx : (w.alloc (.cells #[.int .i64 (x0 : Int), .int .i64 (x1 : Int), .int .u64 (x2 : Int), .int .i64 (x3 : Int), .int .i64 (x4 : Int), .int .u64 (x5 : Int), .int .u64 (x6 : Int), .int .u64 24] 60)).heap[w.heap.size]? = some (.cells #[.int .i64 (x0 : Int), .int .i64 (x1 : Int), .int .u64 (x2 : Int), .int .i64 (x3 : Int), .int .i64 (x4 : Int), .int .u64 (x5 : Int), .int .u64 (x6 : Int), .int .u64 24] 60 (0, 0)) := heap_alloc_new w _
  have hB0 : Below w.heap.size w (w.alloc (.cells #[.int .i64 (x0 : Int), .int .i64 (x1 : Int), .int .u64 (x2 : Int), .int .i64 (x3 : Int), .int .i64 (x4 : Int), .int .u64 (x5 : Int), .int .u64 (x6 : Int), .int .u64 24] 60)) := Below.alloc (Below.refl _ _) (Nat.le_refl _) _
  have hFb : (w.alloc (.cells #[.int .i64 (x0 : Int), .int .i64 (x1 : Int), .int .u64 (x2 : Int), .int .i64 (x3 : Int), .int .i64 (x4 : Int), .int .u64 (x5 : Int), .int .u64 (x6 : Int), .int .u64 24] 60)).heap[k]? = some (.cells (tabCells col64 o t0 n0) 72 (0, 0)) := (Below.heap_alloc w _ k hk).trans hF
  have hzb : (w.alloc (.cells #[.int .i64 (x0 : Int), .int .i64 (x1 : Int), .int .u64 (x2 : Int), .int .i64 (x3 : Int), .int .i64 (x4 : Int), .int .u64 (x5 : Int), .int .u64 (x6 : Int), .int .u64 24] 60)).heap.size = w.heap.size + 1 := size_alloc _ _
  clear hF hx hx6
  have HK := Hid.mk' (And.intro hbx (And.intro hB0 (And.intro hFb (And.intro hzb hk))))
  clear hbx hB0 hFb hzb hk
  go_enter Tryd.func23, Tryd.ntmps23
  go_wp2_with fail
  go_quiet (fail)
  obtain ⟨hbx, hB0, hFb, hzb, hk⟩ := HK.out
  clear HK c0 hne h60 h61
  have hB1 : Below w.heap.size w ((w.alloc (.cells #[.int .i64 (x0 : Int), .int .i64 (x1 : Int), .int .u64 (x2 : Int), .int .i64 (x3 : Int), .int .i64 (x4 : Int), .int .u64 (x5 : Int), .int .u64 (x6 : Int), .int .u64 24] 60)).drewN nq) := below_drewN hB0 _
  have hF1 : ((w.alloc (.cells #[.int .i64 (x0 : Int), .int .i64 (x1 : Int), .int .u64 (x2 : Int), .int .i64 (x3 : Int), .int .i64 (x4 : Int), .int .u64 (x5 : Int), .int .u64 (x6 : Int), .int .u64 24] 60)).drewN nq).heap[k]? = some (.cells (tabCells col64 o t0 n0) 72 (0, 0)) := hFb
  have hb1 : ((w.alloc (.cells #[.int .i64 (x0 : Int), .int .i64 (x1 : Int), .int .u64 (x2 : Int), .int .i64 (x3 : Int), .int .i64 (x4 : Int), .int .u64 (x5 : Int), .int .u64 (x6 : Int), .int .u64 24] 60)).drewN nq).heap[w.heap.size]? = some (.cells #[.int .i64 (x0 : Int), .int .i64 (x1 : Int), .int .u64 (x2 : Int), .int .i64 (x3 : Int), .int .i64 (x4 : Int), .int .u64 (x5 : Int), .int .u64 (x6 : Int), .int .u64 24] 60 (0, 0)) := hbx
  have hz1 : ((w.alloc (.cells #[.int .i64 (x0 : Int), .int .i64 (x1 : Int), .int .u64 (x2 : Int), .int .i64 (x3 : Int), .int .i64 (x4 : Int), .int .u64 (x5 : Int), .int .u64 (x6 : Int), .int .u64 24] 60)).drewN nq).heap.size = w.heap.size + 1 := hzb
  clear hB0 hFb hbx hzb
  generalize ((w.alloc (.cells #[.int .i64 (x0 : Int), .int .i64 (x1 : Int), .int .u64 (x2 : Int), .int .i64 (x3 : Int), .int .i64 (x4 : Int), .int .u64 (x5 : Int), .int .u64 (x6 : Int), .int .u64 24] 60)).drewN nq) = W at hB1 hF1 hb1 hz1 ⊢
  have HFZ : Hid (∀ w1, Below W.heap.size W w1 → w1.cell? ⟨k, 14, none⟩ = some (.string t0) ∧ w1.frozen? ⟨k, 14, none⟩ = false) := fun w1 hb => by
    have h := (hb.block k (by omega)).trans hF1
    exact ⟨(cell_of_row _ _ 14 _ _ _ h).trans rfl, frozen_of_row _ _ 14 _ _ h⟩
  go_wp2_with (first
    | (refine wpList_load_row rfl _ _ rfl w.heap.size rfl _ _ _ _ hb1 Tryd.underlying60 rfl (by kernel_rfl) ?_))
  go_at_call 43
  refine (HC.out _).mono ?_
  rintro r w1 ⟨rfl, hbc⟩
  obtain ⟨c14, z14⟩ := HFZ.out w1 hbc
  have hF2 : (w1.setCell ⟨k, 14, none⟩ (.string t)).heap[k]? = some (.cells (tabCells col64 o t n0) 72 (0, 0)) := (set_row (.string t) ((hbc.block k (by omega)).trans hF1)).trans rfl
  have hb2 : (w1.setCell ⟨k, 14, none⟩ (.string t)).heap[w.heap.size]? = some (.cells #[.int .i64 (x0 : Int), .int .i64 (x1 : Int), .int .u64 (x2 : Int), .int .i64 (x3 : Int), .int .i64 (x4 : Int), .int .u64 (x5 : Int), .int .u64 (x6 : Int), .int .u64 24] 60 (0, 0)) := (Below.heap_setCell w1 _ _ _ (by show w.heap.size ≠ k; omega)).trans ((hbc.block _ (by omega)).trans hb1)
  have hq2 : Kq k w (w1.setCell ⟨k, 14, none⟩ (.string t)) := ((Kq.of hB1).trans (Kq.of (hbc.mono (Nat.le_refl _)))).set _ _
  have hx3 : (w1.setCell ⟨k, 14, none⟩ (.string t)).cell? ⟨w.heap.size, 3, none⟩ = some (.int .i64 (x3 : Int)) := cell_of_row _ _ 3 _ _ _ hb2
  have hg2 : (w1.setCell ⟨k, 14, none⟩ (.string t)).heap[g]? = some (.cells cur 60 (0, 0)) := (hq2.block g hgk (Array.getElem?_eq_some_iff.1 hg).1).trans hg
  have a0 : (w1.setCell ⟨k, 14, none⟩ (.string t)).cell? ⟨g, x3 * 8, none⟩ = some (.int .i64 (y0 : Int)) := (cell_of_row _ _ _ _ _ _ hg2).trans (hy 0 (by omega))
  have a1 : (w1.setCell ⟨k, 14, none⟩ (.string t)).cell? ⟨g, x3 * 8 + 1, none⟩ = some (.int .i64 3) := (cell_of_row _ _ _ _ _ _ hg2).trans (hy 1 (by omega))
  have a2 : (w1.setCell ⟨k, 14, none⟩ (.string t)).cell? ⟨g, x3 * 8 + 2, none⟩ = some (.int .u64 (y2 : Int)) := (cell_of_row _ _ _ _ _ _ hg2).trans (hy 2 (by omega))
  have a3 : (w1.setCell ⟨k, 14, none⟩ (.string t)).cell? ⟨g, x3 * 8 + 3, none⟩ = some (.int .i64 (y3 : Int)) := (cell_of_row _ _ _ _ _ _ hg2).trans (hy 3 (by omega))
  have a4 : (w1.setCell ⟨k, 14, none⟩ (.string t)).cell? ⟨g, x3 * 8 + 4, none⟩ = some (.int .i64 (y4 : Int)) := (cell_of_row _ _ _ _ _ _ hg2).trans (hy 4 (by omega))
  have a5 : (w1.setCell ⟨k, 14, none⟩ (.string t)).cell? ⟨g, x3 * 8 + 5, none⟩ = some (.int .u64 (y5 : Int)) := (cell_of_row _ _ _ _ _ _ hg2).trans (hy 5 (by omega))
  have a6 : (w1.setCell ⟨k, 14, none⟩ (.string t)).cell? ⟨g, x3 * 8 + 6, none⟩ = some (.int .u64 (y6 : Int)) := (cell_of_row _ _ _ _ _ _ hg2).trans (hy 6 (by omega))
  have a7 : (w1.setCell ⟨k, 14, none⟩ (.string t)).cell? ⟨g, x3 * 8 + 7, none⟩ = some (.int .u64 (y7 : Int)) := (cell_of_row _ _ _ _ _ _ hg2).trans (hy 7 (by omega))
  have hra : (w1.setCell ⟨k, 14, none⟩ (.string t)).rangeAt g (x3 * 8) [.int .i64 (y0 : Int), .int .i64 3, .int .u64 (y2 : Int), .int .i64 (y3 : Int), .int .i64 (y4 : Int), .int .u64 (y5 : Int), .int .u64 (y6 : Int), .int .u64 (y7 : Int)] := fun j u hj => (cell_of_row _ _ _ _ _ _ hg2).trans ((hy j (List.getElem?_eq_some_iff.1 hj).1).trans (List.getElem?_toArray.trans hj))
  clear hF1 hz1 hbc HC HFZ hB1 hb1 hra
  go_wp2_with (first
    | (go_at_call 43; refine (HD.out _).mono ?_; rintro r w4 ⟨rfl, hbd⟩; have hF4 := (hbd.block k (Array.getElem?_eq_some_iff.1 hF2).1).trans hF2; have c15 : w4.cell? ⟨k, 15, none⟩ = some (.string n0) := (cell_of_row _ _ 15 _ _ _ hF4).trans rfl; have z15 : w4.frozen? ⟨k, 15, none⟩ = false := frozen_of_row _ _ 15 _ _ hF4))
  go_ret
  exact ⟨rfl, (hq2.trans (Kq.of hbd)).set _ _, (set_row _ hF4).trans rfl⟩
end Go.Proofs.YtkmehjikllilaaaDoor
