import Derived.Test.YtaeigacinefhnabDoorR2
import Derived.Test.YtaeigacinefhnabDoorM3
import Derived.Test.YtaeigacinefhnabDoorM7
import Derived.Test.YtaeigacinefhnabDoorM5
import Derived.Test.YtaeigacinefhnabDoorM1

-- The document's number, of symbol tables: contracts.
namespace Go.Proofs.YtaeigacinefhnabDoor
open Go.ChangeShapes Go.WideShapes Go.ChangeAt Go.RowKit
set_option linter.unusedVariables false
set_option maxRecDepth 100000
theorem dNumber_big (b : ByteArray) (p n : Nat) (w : World) (h : p + n ≤ b.size) (hn : n ≤ 8) (hm : b.size ≤ maxLen) :
    Calls Tryd.prog 84 #[.string b, .int .i64 p, .int .i64 n, .int .i64 1] w fun r w' => r = .returned (.int .u64 (num b p n 1)) ∧ w' = w := by
  unfold maxLen at hm
  go_enter Tryd.func84, Tryd.ntmps84
  go_wp2
  go_loopw [9, 10] (fun v i wx => ∃ k : Nat, k ≤ n ∧ i = .int .i64 k ∧ v = .int .u64 (pre b p n k 1) ∧ wx = w) (fun _ i _ => n - (intOf i).toNat)
  case atStart => exact ⟨0, Nat.zero_le _, rfl, by rw [pre_zero]; rfl, rfl⟩
  case round =>
    obtain ⟨k, hk, rfl, rfl, rfl⟩ := hrel
    by_cases hlt : k < n
    · have hV : pre b p n k 1 < 72057594037927936 := Nat.lt_of_lt_of_le (pre_lt b p n k 1) (pow7 k (by omega))
      have HN := Hid.mk' (pre_big b p n k (by omega))
      have HB := Hid.mk' (byt_lt b (p + k))
      have hidx : ∀ w : World, (Instr.index 9 (.string b) (.int .i64 ((p : Int) + (k : Int)))).run Tryd.prog w = .ok (.int .u8 (byt b (p + k))) w := idx_byt' b (p + k) (by omega)
      generalize pre b p n k 1 = V at hV HN
      generalize byt b (p + k) = y at hidx HN HB
      have hk3 : (k : Int) < (n : Int) := by omega
      go_wp2
      go_roundw
      case rel =>
        refine ⟨k + 1, by omega, by go_num, int_eq' ?_, trivial⟩
        have h1 := HN.out
        have h2 := HB.out
        simp only [IntKind.wrap_u64]
        omega
      case measure => simp [intOf]; omega
    · obtain rfl : k = n := by omega
      go_wp2
      go_ret
      exact ⟨by rw [pre_all b p k 1 h]; rfl, rfl⟩
theorem dNumber_little (b : ByteArray) (p n : Nat) (w : World) (h : p + n ≤ b.size) (hn : n ≤ 8) (hm : b.size ≤ maxLen) :
    Calls Tryd.prog 84 #[.string b, .int .i64 p, .int .i64 n, .int .i64 0] w fun r w' => r = .returned (.int .u64 (num b p n 0)) ∧ w' = w := by
  unfold maxLen at hm
  go_enter Tryd.func84, Tryd.ntmps84
  go_wp2
  go_loopw [9, 10] (fun v i wx => ∃ k : Nat, k ≤ n ∧ i = .int .i64 k ∧ v = .int .u64 (pre b p n k 0) ∧ wx = w) (fun _ i _ => n - (intOf i).toNat)
  case atStart => exact ⟨0, Nat.zero_le _, rfl, by rw [pre_zero]; rfl, rfl⟩
  case round =>
    obtain ⟨k, hk, rfl, rfl, rfl⟩ := hrel
    by_cases hlt : k < n
    · have hV : pre b p n k 0 < 72057594037927936 := Nat.lt_of_lt_of_le (pre_lt b p n k 0) (pow7 k (by omega))
      have HN := Hid.mk' (pre_little b p n k hlt h)
      have HB := Hid.mk' (byt_lt b (p + n - 1 - k))
      have hidx : ∀ w : World, (Instr.index 9 (.string b) (.int .i64 ((p : Int) + (n : Int) - 1 - (k : Int)))).run Tryd.prog w = .ok (.int .u8 (byt b (p + n - 1 - k))) w := fun w => by
        have h1 := idx_byt' b (p + n - 1 - k) (by omega) w
        rw [show ((p + n - 1 - k : Nat) : Int) = (p : Int) + n - 1 - k by omega] at h1
        exact h1
      generalize pre b p n k 0 = V at hV HN
      generalize byt b (p + n - 1 - k) = y at hidx HN HB
      have hk3 : (k : Int) < (n : Int) := by omega
      go_wp2
      go_roundw
      case rel =>
        refine ⟨k + 1, by omega, by go_num, int_eq' ?_, trivial⟩
        have h1 := HN.out
        have h2 := HB.out
        simp only [IntKind.wrap_u64]
        omega
      case measure => simp [intOf]; omega
    · obtain rfl : k = n := by omega
      go_wp2
      go_ret
      exact ⟨by rw [pre_all b p k 0 h]; rfl, rfl⟩
theorem dNumber_c (b : ByteArray) (p n : Nat) (o : Int) (w : World) (ho : o = 0 ∨ o = 1) (h : p + n ≤ b.size) (hn : n ≤ 8) (hm : b.size ≤ maxLen) :
    Calls Tryd.prog 84 #[.string b, .int .i64 p, .int .i64 n, .int .i64 o] w fun r w' => r = .returned (.int .u64 (num b p n o)) ∧ w' = w := by
  rcases ho with rfl | rfl
  · exact dNumber_little b p n w h hn hm
  · exact dNumber_big b p n w h hn hm
theorem num_one (b : ByteArray) (p : Nat) (o : Int) (h : p < b.size) (ho : o = 0 ∨ o = 1) : num b p 1 o = byt b p := by
  rw [← pre_all b p 1 o (by omega)]
  rcases ho with rfl | rfl
  · rw [pre_little b p 1 0 (by omega) (by omega), pre_zero]
    show 0 * 256 + byt b p = byt b p
    omega
  · rw [pre_big b p 1 0 (by omega), pre_zero]
    show 0 * 256 + byt b p = byt b p
    omega
theorem entrySize_32 (w : World) : Calls Tryd.prog 67 #[.int .i64 32] w fun r w' => r = .returned (.int .i64 16) ∧ w' = w := by
  go_enter Tryd.func67, Tryd.ntmps67
  go_wp2
  go_ret
  exact ⟨rfl, rfl⟩
theorem entrySize_64 (w : World) : Calls Tryd.prog 67 #[.int .i64 64] w fun r w' => r = .returned (.int .i64 24) ∧ w' = w := by
  go_enter Tryd.func67, Tryd.ntmps67
  go_wp2
  go_ret
  exact ⟨rfl, rfl⟩
end Go.Proofs.YtaeigacinefhnabDoor

-- The document's entries of symbol tables: contracts.
namespace Go.Proofs.YtaeigacinefhnabDoor
open Go.ChangeShapes Go.WideShapes Go.ChangeAt Go.RowKit
set_option linter.unusedVariables false
set_option maxRecDepth 100000
set_option maxHeartbeats 2000000 in
theorem dEntry_32 (t : ByteArray) (p : Nat) (o : Int) (w : World) (hs : p + 16 ≤ t.size) (hm : t.size ≤ maxLen) (ho : o = 0 ∨ o = 1) :
    Calls Tryd.prog 70 #[.string t, .int .i64 p, .int .i64 o] w fun r w' => r = .returned (.agg #[.int .i64 ((num t p 4 o : Nat) : Int), .string ⟨#[]⟩, .int .i64 ((num t (p + 12) 1 o / 16 : Nat) : Int), .int .i64 ((num t (p + 12) 1 o % 16 : Nat) : Int), .int .i64 ((num t (p + 13) 1 o : Nat) : Int), .int .i64 ((num t (p + 14) 2 o : Nat) : Int), .int .u64 ((num t (p + 4) 4 o : Nat) : Int), .int .u64 ((num t (p + 8) 4 o : Nat) : Int)]) ∧ Below w.heap.size w w' := by
  have HN : Hid (∀ (w : World) (q n : Int), ((p : Int) ≤ q ∧ 0 ≤ n ∧ n ≤ 8 ∧ q + n ≤ (p : Int) + 16) → Calls Tryd.prog 84 #[.string t, .int .i64 q, .int .i64 n, .int .i64 o] w fun r w' => r = .returned (.int .u64 (numI t q n o)) ∧ w' = w) := by
    intro w q n hc
    obtain ⟨A, rfl⟩ := Int.eq_ofNat_of_zero_le (show 0 ≤ q by omega)
    obtain ⟨N, rfl⟩ := Int.eq_ofNat_of_zero_le hc.2.1
    exact dNumber_c t A N o w ho (by omega) (by omega) hm
  have hp2 : (p : Int) + 16 ≤ 9223372036854775807 := by unfold maxLen at hm; omega
  have e1 := num_one t (p + 12) o (by omega) ho
  have e2 := num_one t (p + 13) o (by omega) ho
  have i1 : ∀ w : World, (Instr.index 9 (.string t) (.int .i64 ((p : Int) + 12))).run Tryd.prog w = .ok (.int .u8 ((num t (p + 12) 1 o : Nat) : Int)) w := fun w => by rw [e1]; exact idx_byt' t (p + 12) (by omega) w
  have i2 : ∀ w : World, (Instr.index 9 (.string t) (.int .i64 ((p : Int) + 13))).run Tryd.prog w = .ok (.int .u8 ((num t (p + 13) 1 o : Nat) : Int)) w := fun w => by rw [e2]; exact idx_byt' t (p + 13) (by omega) w
  have hz := num_lt1 t (p + 12) o
  have hy := num_lt1 t (p + 13) o
  have HZ := Hid.mk' hz
  have hb0 : (0 : Int) ≤ numI t (p : Int) 4 o := Int.natCast_nonneg _
  have hb1 : numI t (p : Int) 4 o ≤ 4294967295 := Int.ofNat_le.2 (Nat.le_of_lt_succ (num_lt4 t _ o))
  have hc0 : (0 : Int) ≤ numI t ((p : Int) + 14) 2 o := Int.natCast_nonneg _
  have hc1 : numI t ((p : Int) + 14) 2 o ≤ 65535 := Int.ofNat_le.2 (Nat.le_of_lt_succ (num_lt2 t _ o))
  generalize num t (p + 12) 1 o = z at i1 hz HZ e1 ⊢
  generalize num t (p + 13) 1 o = y at i2 hy e2 ⊢
  have hz0 : (0 : Int) ≤ (z : Int) := Int.natCast_nonneg _
  have hz1 : (z : Int) ≤ 255 := Int.ofNat_le.2 (Nat.le_of_lt_succ hz)
  have hy0 : (0 : Int) ≤ (y : Int) := Int.natCast_nonneg _
  have hy1 : (y : Int) ≤ 255 := Int.ofNat_le.2 (Nat.le_of_lt_succ hy)
  clear hs hm ho hz hy e1 e2
  go_enter Tryd.func70, Tryd.ntmps70
  go_wp2_with (first
    | (go_at_call 84; refine (HN.out _ _ _ (by omega)).mono ?_; rintro e w1 ⟨rfl, hw⟩; subst w1)
    | (refine wpList_store_row rfl _ _ _ rfl w.heap.size _ rfl rfl _ _ (heap_alloc_new w _) rfl (by kernel_rfl) (by kernel_rfl) ?_))
  exact bodyPost_ret (results_cell_row rfl _ _ w.heap.size _ _ _ _ rfl (setRow_heap _ _ _ _ _ _ (heap_alloc_new w _)) Tryd.underlying130 rfl (by kernel_rfl)) rfl ⟨rfl, below_setRow (Below.alloc (Below.refl _ _) (Nat.le_refl _) _) (Nat.le_refl _) _⟩
set_option maxHeartbeats 2000000 in
theorem dEntry_64 (t : ByteArray) (p : Nat) (o : Int) (w : World) (hs : p + 24 ≤ t.size) (hm : t.size ≤ maxLen) (ho : o = 0 ∨ o = 1) :
    Calls Tryd.prog 71 #[.string t, .int .i64 p, .int .i64 o] w fun r w' => r = .returned (.agg #[.int .i64 ((num t p 4 o : Nat) : Int), .string ⟨#[]⟩, .int .i64 ((num t (p + 4) 1 o / 16 : Nat) : Int), .int .i64 ((num t (p + 4) 1 o % 16 : Nat) : Int), .int .i64 ((num t (p + 5) 1 o : Nat) : Int), .int .i64 ((num t (p + 6) 2 o : Nat) : Int), .int .u64 ((num t (p + 8) 8 o : Nat) : Int), .int .u64 ((num t (p + 16) 8 o : Nat) : Int)]) ∧ Below w.heap.size w w' := by
  have HN : Hid (∀ (w : World) (q n : Int), ((p : Int) ≤ q ∧ 0 ≤ n ∧ n ≤ 8 ∧ q + n ≤ (p : Int) + 24) → Calls Tryd.prog 84 #[.string t, .int .i64 q, .int .i64 n, .int .i64 o] w fun r w' => r = .returned (.int .u64 (numI t q n o)) ∧ w' = w) := by
    intro w q n hc
    obtain ⟨A, rfl⟩ := Int.eq_ofNat_of_zero_le (show 0 ≤ q by omega)
    obtain ⟨N, rfl⟩ := Int.eq_ofNat_of_zero_le hc.2.1
    exact dNumber_c t A N o w ho (by omega) (by omega) hm
  have hp2 : (p : Int) + 24 ≤ 9223372036854775807 := by unfold maxLen at hm; omega
  have e1 := num_one t (p + 4) o (by omega) ho
  have e2 := num_one t (p + 5) o (by omega) ho
  have i1 : ∀ w : World, (Instr.index 9 (.string t) (.int .i64 ((p : Int) + 4))).run Tryd.prog w = .ok (.int .u8 ((num t (p + 4) 1 o : Nat) : Int)) w := fun w => by rw [e1]; exact idx_byt' t (p + 4) (by omega) w
  have i2 : ∀ w : World, (Instr.index 9 (.string t) (.int .i64 ((p : Int) + 5))).run Tryd.prog w = .ok (.int .u8 ((num t (p + 5) 1 o : Nat) : Int)) w := fun w => by rw [e2]; exact idx_byt' t (p + 5) (by omega) w
  have hz := num_lt1 t (p + 4) o
  have hy := num_lt1 t (p + 5) o
  have HZ := Hid.mk' hz
  have hb0 : (0 : Int) ≤ numI t (p : Int) 4 o := Int.natCast_nonneg _
  have hb1 : numI t (p : Int) 4 o ≤ 4294967295 := Int.ofNat_le.2 (Nat.le_of_lt_succ (num_lt4 t _ o))
  have hc0 : (0 : Int) ≤ numI t ((p : Int) + 6) 2 o := Int.natCast_nonneg _
  have hc1 : numI t ((p : Int) + 6) 2 o ≤ 65535 := Int.ofNat_le.2 (Nat.le_of_lt_succ (num_lt2 t _ o))
  generalize num t (p + 4) 1 o = z at i1 hz HZ e1 ⊢
  generalize num t (p + 5) 1 o = y at i2 hy e2 ⊢
  have hz0 : (0 : Int) ≤ (z : Int) := Int.natCast_nonneg _
  have hz1 : (z : Int) ≤ 255 := Int.ofNat_le.2 (Nat.le_of_lt_succ hz)
  have hy0 : (0 : Int) ≤ (y : Int) := Int.natCast_nonneg _
  have hy1 : (y : Int) ≤ 255 := Int.ofNat_le.2 (Nat.le_of_lt_succ hy)
  clear hs hm ho hz hy e1 e2
  go_enter Tryd.func71, Tryd.ntmps71
  go_wp2_with (first
    | (go_at_call 84; refine (HN.out _ _ _ (by omega)).mono ?_; rintro e w1 ⟨rfl, hw⟩; subst w1)
    | (refine wpList_store_row rfl _ _ _ rfl w.heap.size _ rfl rfl _ _ (heap_alloc_new w _) rfl (by kernel_rfl) (by kernel_rfl) ?_))
  exact bodyPost_ret (results_cell_row rfl _ _ w.heap.size _ _ _ _ rfl (setRow_heap _ _ _ _ _ _ (heap_alloc_new w _)) Tryd.underlying130 rfl (by kernel_rfl)) rfl ⟨rfl, below_setRow (Below.alloc (Below.refl _ _) (Nat.le_refl _) _) (Nat.le_refl _) _⟩
end Go.Proofs.YtaeigacinefhnabDoor

-- The document's strings: contracts.
namespace Go.Proofs.YtaeigacinefhnabDoor
open Go.ChangeShapes Go.WideShapes Go.ChangeAt Go.RowKit
set_option linter.unusedVariables false
set_option maxRecDepth 100000
theorem strings_60a (b : ByteArray) (ao : Option Addr) (n cp x0 x1 x2 x3 x4 x5 x6 x7 : Nat) (w : World) (hli : n ≤ x3) :
    Calls Tryd.prog 69 #[.string b, .slice ao n cp, .agg #[.int .i64 (x0 : Int), .int .i64 (x1 : Int), .int .u64 (x2 : Int), .int .i64 (x3 : Int), .int .i64 (x4 : Int), .int .u64 (x5 : Int), .int .u64 (x6 : Int), .int .u64 (x7 : Int)]] w fun r w' => r = .returned (.tuple #[.string .empty, .int .i64 60]) ∧ Below w.heap.size w w' := by
  have hge : (n : Int) ≤ (x3 : Int) := Int.ofNat_le.2 hli
  clear hli
  go_enter Tryd.func69, Tryd.ntmps69
  go_wp2
  go_ret2
  exact ⟨rfl, Below.alloc (Below.refl _ _) (Nat.le_refl _) _⟩
set_option maxHeartbeats 1000000 in
theorem strings_60b (b : ByteArray) (n cp g : Nat) (cur : Array Value) (x0 x1 x2 x3 x4 x5 x6 x7 : Nat) (y0 y1 y2 y3 y4 y5 y6 y7 : Nat) (w : World) (hli : x3 < n) (hn : n ≤ 26214) (hg : w.heap[g]? = some (.cells cur 77 (0, 0))) (hy : ∀ m, m < 8 → cur[x3 * 8 + m]? = (#[.int .i64 (y0 : Int), .int .i64 (y1 : Int), .int .u64 (y2 : Int), .int .i64 (y3 : Int), .int .i64 (y4 : Int), .int .u64 (y5 : Int), .int .u64 (y6 : Int), .int .u64 (y7 : Int)] : Array Value)[m]?) (h3 : y1 ≠ 3) :
    Calls Tryd.prog 69 #[.string b, .slice (some ⟨g, 0, none⟩) n cp, .agg #[.int .i64 (x0 : Int), .int .i64 (x1 : Int), .int .u64 (x2 : Int), .int .i64 (x3 : Int), .int .i64 (x4 : Int), .int .u64 (x5 : Int), .int .u64 (x6 : Int), .int .u64 (x7 : Int)]] w fun r w' => r = .returned (.tuple #[.string .empty, .int .i64 60]) ∧ Below w.heap.size w w' := by
  have hge : ¬ (n : Int) ≤ (x3 : Int) := Int.not_le.2 (Int.ofNat_lt.2 hli)
  have hlt : (x3 : Int) < (n : Int) := Int.ofNat_lt.2 hli
  have hl0 : (0 : Int) ≤ (x3 : Int) := Int.natCast_nonneg _
  have hgb : (w.alloc (.cells #[.int .i64 (x0 : Int), .int .i64 (x1 : Int), .int .u64 (x2 : Int), .int .i64 (x3 : Int), .int .i64 (x4 : Int), .int .u64 (x5 : Int), .int .u64 (x6 : Int), .int .u64 (x7 : Int)] 77)).heap[g]? = some (.cells cur 77 (0, 0)) := (Below.heap_alloc w _ g (Array.getElem?_eq_some_iff.1 hg).1).trans hg
  have h3n : ((y1 : Int) != 3) = true := bne_iff_ne.2 (by omega)
  have a0 : (w.alloc (.cells #[.int .i64 (x0 : Int), .int .i64 (x1 : Int), .int .u64 (x2 : Int), .int .i64 (x3 : Int), .int .i64 (x4 : Int), .int .u64 (x5 : Int), .int .u64 (x6 : Int), .int .u64 (x7 : Int)] 77)).cell? ⟨g, x3 * 8, none⟩ = some (.int .i64 (y0 : Int)) := (cell_of_row _ _ _ _ _ _ hgb).trans (hy 0 (by omega))
  have a1 : (w.alloc (.cells #[.int .i64 (x0 : Int), .int .i64 (x1 : Int), .int .u64 (x2 : Int), .int .i64 (x3 : Int), .int .i64 (x4 : Int), .int .u64 (x5 : Int), .int .u64 (x6 : Int), .int .u64 (x7 : Int)] 77)).cell? ⟨g, x3 * 8 + 1, none⟩ = some (.int .i64 (y1 : Int)) := (cell_of_row _ _ _ _ _ _ hgb).trans (hy 1 (by omega))
  have a2 : (w.alloc (.cells #[.int .i64 (x0 : Int), .int .i64 (x1 : Int), .int .u64 (x2 : Int), .int .i64 (x3 : Int), .int .i64 (x4 : Int), .int .u64 (x5 : Int), .int .u64 (x6 : Int), .int .u64 (x7 : Int)] 77)).cell? ⟨g, x3 * 8 + 2, none⟩ = some (.int .u64 (y2 : Int)) := (cell_of_row _ _ _ _ _ _ hgb).trans (hy 2 (by omega))
  have a3 : (w.alloc (.cells #[.int .i64 (x0 : Int), .int .i64 (x1 : Int), .int .u64 (x2 : Int), .int .i64 (x3 : Int), .int .i64 (x4 : Int), .int .u64 (x5 : Int), .int .u64 (x6 : Int), .int .u64 (x7 : Int)] 77)).cell? ⟨g, x3 * 8 + 3, none⟩ = some (.int .i64 (y3 : Int)) := (cell_of_row _ _ _ _ _ _ hgb).trans (hy 3 (by omega))
  have a4 : (w.alloc (.cells #[.int .i64 (x0 : Int), .int .i64 (x1 : Int), .int .u64 (x2 : Int), .int .i64 (x3 : Int), .int .i64 (x4 : Int), .int .u64 (x5 : Int), .int .u64 (x6 : Int), .int .u64 (x7 : Int)] 77)).cell? ⟨g, x3 * 8 + 4, none⟩ = some (.int .i64 (y4 : Int)) := (cell_of_row _ _ _ _ _ _ hgb).trans (hy 4 (by omega))
  have a5 : (w.alloc (.cells #[.int .i64 (x0 : Int), .int .i64 (x1 : Int), .int .u64 (x2 : Int), .int .i64 (x3 : Int), .int .i64 (x4 : Int), .int .u64 (x5 : Int), .int .u64 (x6 : Int), .int .u64 (x7 : Int)] 77)).cell? ⟨g, x3 * 8 + 5, none⟩ = some (.int .u64 (y5 : Int)) := (cell_of_row _ _ _ _ _ _ hgb).trans (hy 5 (by omega))
  have a6 : (w.alloc (.cells #[.int .i64 (x0 : Int), .int .i64 (x1 : Int), .int .u64 (x2 : Int), .int .i64 (x3 : Int), .int .i64 (x4 : Int), .int .u64 (x5 : Int), .int .u64 (x6 : Int), .int .u64 (x7 : Int)] 77)).cell? ⟨g, x3 * 8 + 6, none⟩ = some (.int .u64 (y6 : Int)) := (cell_of_row _ _ _ _ _ _ hgb).trans (hy 6 (by omega))
  have a7 : (w.alloc (.cells #[.int .i64 (x0 : Int), .int .i64 (x1 : Int), .int .u64 (x2 : Int), .int .i64 (x3 : Int), .int .i64 (x4 : Int), .int .u64 (x5 : Int), .int .u64 (x6 : Int), .int .u64 (x7 : Int)] 77)).cell? ⟨g, x3 * 8 + 7, none⟩ = some (.int .u64 (y7 : Int)) := (cell_of_row _ _ _ _ _ _ hgb).trans (hy 7 (by omega))
  clear hg hgb hy hli hn h3
  go_enter Tryd.func69, Tryd.ntmps69
  go_wp2
  go_ret2
  exact ⟨rfl, Below.alloc (Below.alloc (Below.refl _ _) (Nat.le_refl _) _) (by rw [size_alloc]; exact Nat.le_succ _) _⟩
set_option maxHeartbeats 1000000 in
theorem strings_54 (b : ByteArray) (n cp g : Nat) (cur : Array Value) (x0 x1 x2 x3 x4 x5 x6 x7 : Nat) (y0 y2 y3 y4 y5 y6 y7 : Nat) (w : World) (hli : x3 < n) (hn : n ≤ 26214) (hg : w.heap[g]? = some (.cells cur 77 (0, 0))) (hy : ∀ m, m < 8 → cur[x3 * 8 + m]? = (#[.int .i64 (y0 : Int), .int .i64 3, .int .u64 (y2 : Int), .int .i64 (y3 : Int), .int .i64 (y4 : Int), .int .u64 (y5 : Int), .int .u64 (y6 : Int), .int .u64 (y7 : Int)] : Array Value)[m]?)
    (hD : ∀ w : World, Calls Tryd.prog 68 #[.string b, .agg #[.int .i64 (y0 : Int), .int .i64 3, .int .u64 (y2 : Int), .int .i64 (y3 : Int), .int .i64 (y4 : Int), .int .u64 (y5 : Int), .int .u64 (y6 : Int), .int .u64 (y7 : Int)]] w fun r w' => r = .returned (.tuple #[.string .empty, .int .i64 54]) ∧ Below w.heap.size w w') :
    Calls Tryd.prog 69 #[.string b, .slice (some ⟨g, 0, none⟩) n cp, .agg #[.int .i64 (x0 : Int), .int .i64 (x1 : Int), .int .u64 (x2 : Int), .int .i64 (x3 : Int), .int .i64 (x4 : Int), .int .u64 (x5 : Int), .int .u64 (x6 : Int), .int .u64 (x7 : Int)]] w fun r w' => r = .returned (.tuple #[.string .empty, .int .i64 54]) ∧ Below w.heap.size w w' := by
  have hge : ¬ (n : Int) ≤ (x3 : Int) := Int.not_le.2 (Int.ofNat_lt.2 hli)
  have hlt : (x3 : Int) < (n : Int) := Int.ofNat_lt.2 hli
  have hl0 : (0 : Int) ≤ (x3 : Int) := Int.natCast_nonneg _
  have hgb : (w.alloc (.cells #[.int .i64 (x0 : Int), .int .i64 (x1 : Int), .int .u64 (x2 : Int), .int .i64 (x3 : Int), .int .i64 (x4 : Int), .int .u64 (x5 : Int), .int .u64 (x6 : Int), .int .u64 (x7 : Int)] 77)).heap[g]? = some (.cells cur 77 (0, 0)) := (Below.heap_alloc w _ g (Array.getElem?_eq_some_iff.1 hg).1).trans hg
  have a0 : (w.alloc (.cells #[.int .i64 (x0 : Int), .int .i64 (x1 : Int), .int .u64 (x2 : Int), .int .i64 (x3 : Int), .int .i64 (x4 : Int), .int .u64 (x5 : Int), .int .u64 (x6 : Int), .int .u64 (x7 : Int)] 77)).cell? ⟨g, x3 * 8, none⟩ = some (.int .i64 (y0 : Int)) := (cell_of_row _ _ _ _ _ _ hgb).trans (hy 0 (by omega))
  have a1 : (w.alloc (.cells #[.int .i64 (x0 : Int), .int .i64 (x1 : Int), .int .u64 (x2 : Int), .int .i64 (x3 : Int), .int .i64 (x4 : Int), .int .u64 (x5 : Int), .int .u64 (x6 : Int), .int .u64 (x7 : Int)] 77)).cell? ⟨g, x3 * 8 + 1, none⟩ = some (.int .i64 3) := (cell_of_row _ _ _ _ _ _ hgb).trans (hy 1 (by omega))
  have a2 : (w.alloc (.cells #[.int .i64 (x0 : Int), .int .i64 (x1 : Int), .int .u64 (x2 : Int), .int .i64 (x3 : Int), .int .i64 (x4 : Int), .int .u64 (x5 : Int), .int .u64 (x6 : Int), .int .u64 (x7 : Int)] 77)).cell? ⟨g, x3 * 8 + 2, none⟩ = some (.int .u64 (y2 : Int)) := (cell_of_row _ _ _ _ _ _ hgb).trans (hy 2 (by omega))
  have a3 : (w.alloc (.cells #[.int .i64 (x0 : Int), .int .i64 (x1 : Int), .int .u64 (x2 : Int), .int .i64 (x3 : Int), .int .i64 (x4 : Int), .int .u64 (x5 : Int), .int .u64 (x6 : Int), .int .u64 (x7 : Int)] 77)).cell? ⟨g, x3 * 8 + 3, none⟩ = some (.int .i64 (y3 : Int)) := (cell_of_row _ _ _ _ _ _ hgb).trans (hy 3 (by omega))
  have a4 : (w.alloc (.cells #[.int .i64 (x0 : Int), .int .i64 (x1 : Int), .int .u64 (x2 : Int), .int .i64 (x3 : Int), .int .i64 (x4 : Int), .int .u64 (x5 : Int), .int .u64 (x6 : Int), .int .u64 (x7 : Int)] 77)).cell? ⟨g, x3 * 8 + 4, none⟩ = some (.int .i64 (y4 : Int)) := (cell_of_row _ _ _ _ _ _ hgb).trans (hy 4 (by omega))
  have a5 : (w.alloc (.cells #[.int .i64 (x0 : Int), .int .i64 (x1 : Int), .int .u64 (x2 : Int), .int .i64 (x3 : Int), .int .i64 (x4 : Int), .int .u64 (x5 : Int), .int .u64 (x6 : Int), .int .u64 (x7 : Int)] 77)).cell? ⟨g, x3 * 8 + 5, none⟩ = some (.int .u64 (y5 : Int)) := (cell_of_row _ _ _ _ _ _ hgb).trans (hy 5 (by omega))
  have a6 : (w.alloc (.cells #[.int .i64 (x0 : Int), .int .i64 (x1 : Int), .int .u64 (x2 : Int), .int .i64 (x3 : Int), .int .i64 (x4 : Int), .int .u64 (x5 : Int), .int .u64 (x6 : Int), .int .u64 (x7 : Int)] 77)).cell? ⟨g, x3 * 8 + 6, none⟩ = some (.int .u64 (y6 : Int)) := (cell_of_row _ _ _ _ _ _ hgb).trans (hy 6 (by omega))
  have a7 : (w.alloc (.cells #[.int .i64 (x0 : Int), .int .i64 (x1 : Int), .int .u64 (x2 : Int), .int .i64 (x3 : Int), .int .i64 (x4 : Int), .int .u64 (x5 : Int), .int .u64 (x6 : Int), .int .u64 (x7 : Int)] 77)).cell? ⟨g, x3 * 8 + 7, none⟩ = some (.int .u64 (y7 : Int)) := (cell_of_row _ _ _ _ _ _ hgb).trans (hy 7 (by omega))
  have HD := Hid.mk' hD
  clear hg hgb hy hli hn hD
  go_enter Tryd.func69, Tryd.ntmps69
  go_wp2_with (first
    | (refine wpList_load_row rfl _ _ rfl (w.heap.size + 1) rfl _ _ _ _ (heap_alloc2_new w _ _) Tryd.underlying77 rfl (by kernel_rfl) ?_)
    | (go_at_call 68; refine (HD.out _).mono ?_; rintro r w1 ⟨rfl, hb1⟩))
  go_ret2
  exact ⟨rfl, (Below.alloc (Below.alloc (Below.refl _ _) (Nat.le_refl _) _) (by rw [size_alloc]; exact Nat.le_succ _) _).trans (hb1.mono (by rw [size_alloc, size_alloc]; omega))⟩
set_option maxHeartbeats 1000000 in
theorem strings_ok (b names : ByteArray) (n cp g : Nat) (cur : Array Value) (x0 x1 x2 x3 x4 x5 x6 x7 : Nat) (y0 y2 y3 y4 y5 y6 y7 : Nat) (w : World) (hli : x3 < n) (hn : n ≤ 26214) (hg : w.heap[g]? = some (.cells cur 77 (0, 0))) (hy : ∀ m, m < 8 → cur[x3 * 8 + m]? = (#[.int .i64 (y0 : Int), .int .i64 3, .int .u64 (y2 : Int), .int .i64 (y3 : Int), .int .i64 (y4 : Int), .int .u64 (y5 : Int), .int .u64 (y6 : Int), .int .u64 (y7 : Int)] : Array Value)[m]?)
    (hD : ∀ w : World, Calls Tryd.prog 68 #[.string b, .agg #[.int .i64 (y0 : Int), .int .i64 3, .int .u64 (y2 : Int), .int .i64 (y3 : Int), .int .i64 (y4 : Int), .int .u64 (y5 : Int), .int .u64 (y6 : Int), .int .u64 (y7 : Int)]] w fun r w' => r = .returned (.tuple #[.string names, .int .i64 0]) ∧ Below w.heap.size w w') :
    Calls Tryd.prog 69 #[.string b, .slice (some ⟨g, 0, none⟩) n cp, .agg #[.int .i64 (x0 : Int), .int .i64 (x1 : Int), .int .u64 (x2 : Int), .int .i64 (x3 : Int), .int .i64 (x4 : Int), .int .u64 (x5 : Int), .int .u64 (x6 : Int), .int .u64 (x7 : Int)]] w fun r w' => r = .returned (.tuple #[.string names, .int .i64 0]) ∧ Below w.heap.size w w' := by
  have hge : ¬ (n : Int) ≤ (x3 : Int) := Int.not_le.2 (Int.ofNat_lt.2 hli)
  have hlt : (x3 : Int) < (n : Int) := Int.ofNat_lt.2 hli
  have hl0 : (0 : Int) ≤ (x3 : Int) := Int.natCast_nonneg _
  have hgb : (w.alloc (.cells #[.int .i64 (x0 : Int), .int .i64 (x1 : Int), .int .u64 (x2 : Int), .int .i64 (x3 : Int), .int .i64 (x4 : Int), .int .u64 (x5 : Int), .int .u64 (x6 : Int), .int .u64 (x7 : Int)] 77)).heap[g]? = some (.cells cur 77 (0, 0)) := (Below.heap_alloc w _ g (Array.getElem?_eq_some_iff.1 hg).1).trans hg
  have a0 : (w.alloc (.cells #[.int .i64 (x0 : Int), .int .i64 (x1 : Int), .int .u64 (x2 : Int), .int .i64 (x3 : Int), .int .i64 (x4 : Int), .int .u64 (x5 : Int), .int .u64 (x6 : Int), .int .u64 (x7 : Int)] 77)).cell? ⟨g, x3 * 8, none⟩ = some (.int .i64 (y0 : Int)) := (cell_of_row _ _ _ _ _ _ hgb).trans (hy 0 (by omega))
  have a1 : (w.alloc (.cells #[.int .i64 (x0 : Int), .int .i64 (x1 : Int), .int .u64 (x2 : Int), .int .i64 (x3 : Int), .int .i64 (x4 : Int), .int .u64 (x5 : Int), .int .u64 (x6 : Int), .int .u64 (x7 : Int)] 77)).cell? ⟨g, x3 * 8 + 1, none⟩ = some (.int .i64 3) := (cell_of_row _ _ _ _ _ _ hgb).trans (hy 1 (by omega))
  have a2 : (w.alloc (.cells #[.int .i64 (x0 : Int), .int .i64 (x1 : Int), .int .u64 (x2 : Int), .int .i64 (x3 : Int), .int .i64 (x4 : Int), .int .u64 (x5 : Int), .int .u64 (x6 : Int), .int .u64 (x7 : Int)] 77)).cell? ⟨g, x3 * 8 + 2, none⟩ = some (.int .u64 (y2 : Int)) := (cell_of_row _ _ _ _ _ _ hgb).trans (hy 2 (by omega))
  have a3 : (w.alloc (.cells #[.int .i64 (x0 : Int), .int .i64 (x1 : Int), .int .u64 (x2 : Int), .int .i64 (x3 : Int), .int .i64 (x4 : Int), .int .u64 (x5 : Int), .int .u64 (x6 : Int), .int .u64 (x7 : Int)] 77)).cell? ⟨g, x3 * 8 + 3, none⟩ = some (.int .i64 (y3 : Int)) := (cell_of_row _ _ _ _ _ _ hgb).trans (hy 3 (by omega))
  have a4 : (w.alloc (.cells #[.int .i64 (x0 : Int), .int .i64 (x1 : Int), .int .u64 (x2 : Int), .int .i64 (x3 : Int), .int .i64 (x4 : Int), .int .u64 (x5 : Int), .int .u64 (x6 : Int), .int .u64 (x7 : Int)] 77)).cell? ⟨g, x3 * 8 + 4, none⟩ = some (.int .i64 (y4 : Int)) := (cell_of_row _ _ _ _ _ _ hgb).trans (hy 4 (by omega))
  have a5 : (w.alloc (.cells #[.int .i64 (x0 : Int), .int .i64 (x1 : Int), .int .u64 (x2 : Int), .int .i64 (x3 : Int), .int .i64 (x4 : Int), .int .u64 (x5 : Int), .int .u64 (x6 : Int), .int .u64 (x7 : Int)] 77)).cell? ⟨g, x3 * 8 + 5, none⟩ = some (.int .u64 (y5 : Int)) := (cell_of_row _ _ _ _ _ _ hgb).trans (hy 5 (by omega))
  have a6 : (w.alloc (.cells #[.int .i64 (x0 : Int), .int .i64 (x1 : Int), .int .u64 (x2 : Int), .int .i64 (x3 : Int), .int .i64 (x4 : Int), .int .u64 (x5 : Int), .int .u64 (x6 : Int), .int .u64 (x7 : Int)] 77)).cell? ⟨g, x3 * 8 + 6, none⟩ = some (.int .u64 (y6 : Int)) := (cell_of_row _ _ _ _ _ _ hgb).trans (hy 6 (by omega))
  have a7 : (w.alloc (.cells #[.int .i64 (x0 : Int), .int .i64 (x1 : Int), .int .u64 (x2 : Int), .int .i64 (x3 : Int), .int .i64 (x4 : Int), .int .u64 (x5 : Int), .int .u64 (x6 : Int), .int .u64 (x7 : Int)] 77)).cell? ⟨g, x3 * 8 + 7, none⟩ = some (.int .u64 (y7 : Int)) := (cell_of_row _ _ _ _ _ _ hgb).trans (hy 7 (by omega))
  have HD := Hid.mk' hD
  clear hg hgb hy hli hn hD
  go_enter Tryd.func69, Tryd.ntmps69
  go_wp2_with (first
    | (refine wpList_load_row rfl _ _ rfl (w.heap.size + 1) rfl _ _ _ _ (heap_alloc2_new w _ _) Tryd.underlying77 rfl (by kernel_rfl) ?_)
    | (go_at_call 68; refine (HD.out _).mono ?_; rintro r w1 ⟨rfl, hb1⟩))
  go_ret2
  exact ⟨rfl, (Below.alloc (Below.alloc (Below.refl _ _) (Nat.le_refl _) _) (by rw [size_alloc]; exact Nat.le_succ _) _).trans (hb1.mono (by rw [size_alloc, size_alloc]; omega))⟩
/-- what strings answers -/
def strsOf (b : ByteArray) (n : Nat) (s : Nat → Sec) (x : Sec) : Except Int ByteArray :=
  if x.li < n ∧ (s x.li).ty = 3 then (match cont b (s x.li) with | none => .error 54 | some names => .ok names) else .error 60
theorem strings_c (b : ByteArray) (B n : Nat) (v : Value) (s : Nat → Sec) (x : Sec) (w : World) (hS : SecsIn B w v n s) (hn : n ≤ 26214) (hB : SecB s) (hm : b.size ≤ maxLen) :
    Calls Tryd.prog 69 #[.string b, v, .agg x.v] w fun r w' => Below w.heap.size w w' ∧ ((∃ e, strsOf b n s x = .error e ∧ r = .returned (.tuple #[.string .empty, .int .i64 e])) ∨ (∃ t, strsOf b n s x = .ok t ∧ r = .returned (.tuple #[.string t, .int .i64 0]))) := by
  obtain ⟨x0, x1, x2, x3, x4, x5, x6, x7⟩ := x
  obtain ⟨ao, cp, rfl, hr⟩ := hS
  by_cases hl : x3 < n
  case neg =>
    refine (strings_60a b ao n cp x0 x1 x2 x3 x4 x5 x6 x7 w (by omega)).mono fun r w' ⟨h1, h2⟩ => ⟨h2, Or.inl ⟨60, ?_, h1⟩⟩
    unfold strsOf
    exact if_neg (fun h => hl h.1)
  obtain ⟨g, cur, rfl, _, hg, hcur⟩ := hr (by omega)
  have hy := hcur x3
  have hby := hB x3
  cases hsx : s x3 with
  | mk y0 y1 y2 y3 y4 y5 y6 y7 =>
    rw [hsx] at hy hby
    have hst : strsOf b n s ⟨x0, x1, x2, x3, x4, x5, x6, x7⟩ = if x3 < n ∧ y1 = 3 then (match cont b ⟨y0, y1, y2, y3, y4, y5, y6, y7⟩ with | none => .error 54 | some names => .ok names) else .error 60 := by
      unfold strsOf
      simp only [hsx]
    by_cases h3 : y1 = 3
    case neg =>
      refine (strings_60b b n cp g cur x0 x1 x2 x3 x4 x5 x6 x7 y0 y1 y2 y3 y4 y5 y6 y7 w hl hn hg (fun m hm => hy m hl hm) h3).mono fun r w' ⟨h1, h2⟩ => ⟨h2, Or.inl ⟨60, ?_, h1⟩⟩
      rw [hst]
      exact if_neg (fun h => h3 h.2)
    subst h3
    rw [if_pos ⟨hl, rfl⟩] at hst
    cases hd : cont b ⟨y0, 3, y2, y3, y4, y5, y6, y7⟩ with
    | none =>
      refine (strings_54 b n cp g cur x0 x1 x2 x3 x4 x5 x6 x7 y0 y2 y3 y4 y5 y6 y7 w hl hn hg (fun m hm => hy m hl hm) (fun w => dcont_no b _ hm hby hd w)).mono fun r w' ⟨h1, h2⟩ => ⟨h2, Or.inl ⟨54, ?_, h1⟩⟩
      rw [hst, hd]
    | some names =>
      refine (strings_ok b names n cp g cur x0 x1 x2 x3 x4 x5 x6 x7 y0 y2 y3 y4 y5 y6 y7 w hl hn hg (fun m hm => hy m hl hm) (fun w => dcont_ok b names _ hm hd w)).mono fun r w' ⟨h1, h2⟩ => ⟨h2, Or.inr ⟨names, ?_, h1⟩⟩
      rw [hst, hd]
end Go.Proofs.YtaeigacinefhnabDoor
