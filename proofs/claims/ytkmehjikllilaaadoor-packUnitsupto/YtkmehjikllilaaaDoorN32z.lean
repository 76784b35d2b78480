import Derived.Test.YtkmehjikllilaaaDoorM5
import Derived.Test.YtkmehjikllilaaaDoorM1
import Derived.Test.YtkmehjikllilaaaDoorM2
import Derived.OwnWalk
import Derived.LoopTactic

-- The document's one, class 32: contracts.
namespace Go.Proofs.YtkmehjikllilaaaDoor
open Go.ChangeShapes Go.WideShapes Go.ChangeAt Go.RowKit
set_option linter.unusedVariables false
set_option maxRecDepth 100000
set_option maxHeartbeats 1000000 in
theorem one_55a_32 (b : ByteArray) (v : Value) (o h2 h3 h4 h5 h6 h7 : Int) (x0 x1 x2 x3 x4 x5 x6 x7 : Nat) (w : World) (hx : x7 ≠ 16) :
    Calls Tryd.prog 19 #[.string b, .agg #[.int .i64 32, .int .i64 o, .int .i64 h2, .int .i64 h3, .int .u64 h4, .int .i64 h5, .int .i64 h6, .int .i64 h7], v, .agg #[.int .i64 (x0 : Int), .int .i64 (x1 : Int), .int .u64 (x2 : Int), .int .i64 (x3 : Int), .int .i64 (x4 : Int), .int .u64 (x5 : Int), .int .u64 (x6 : Int), .int .u64 (x7 : Int)]] w fun r w' => r = .returned (.tuple #[.slice none 0 0, .int .i64 55]) ∧ Below w.heap.size w w' := by
  have hne : ((x7 : Int) != 16) = true := bne_iff_ne.2 (by omega)
  clear hx
  go_enter Tryd.func19, Tryd.ntmps19
  go_wp2_with (first | (go_at_call 31; refine (entrySize_32 _).mono ?_; rintro r w1 ⟨rfl, hw⟩; subst w1))
  go_ret2
  exact ⟨rfl, Below.alloc (Below.alloc (Below.refl _ _) (Nat.le_refl _) _) (by rw [size_alloc]; exact Nat.le_succ _) _⟩
set_option maxHeartbeats 1000000 in
theorem one_55b_32 (b : ByteArray) (v : Value) (o h2 h3 h4 h5 h6 h7 : Int) (x0 x1 x2 x3 x4 x5 x6 : Nat) (w : World) (hx6 : x6 < 18446744073709551616) (hx : x6 % 16 ≠ 0) :
    Calls Tryd.prog 19 #[.string b, .agg #[.int .i64 32, .int .i64 o, .int .i64 h2, .int .i64 h3, .int .u64 h4, .int .i64 h5, .int .i64 h6, .int .i64 h7], v, .agg #[.int .i64 (x0 : Int), .int .i64 (x1 : Int), .int .u64 (x2 : Int), .int .i64 (x3 : Int), .int .i64 (x4 : Int), .int .u64 (x5 : Int), .int .u64 (x6 : Int), .int .u64 16]] w fun r w' => r = .returned (.tuple #[.slice none 0 0, .int .i64 55]) ∧ Below w.heap.size w w' := by
  have h60 : (0 : Int) ≤ (x6 : Int) := Int.natCast_nonneg _
  have h61 : (x6 : Int) ≤ 18446744073709551615 := Int.ofNat_le.2 (Nat.le_of_lt_succ hx6)
  have hne : ((x6 : Int) % 16 != 0) = true := bne_iff_ne.2 (by omega)
  clear hx hx6
  go_enter Tryd.func19, Tryd.ntmps19
  go_wp2_with (first | (go_at_call 31; refine (entrySize_32 _).mono ?_; rintro r w1 ⟨rfl, hw⟩; subst w1))
  go_ret2
  exact ⟨rfl, Below.alloc (Below.alloc (Below.refl _ _) (Nat.le_refl _) _) (by rw [size_alloc]; exact Nat.le_succ _) _⟩
set_option maxHeartbeats 1000000 in
theorem one_54_32 (b : ByteArray) (v : Value) (o h2 h3 h4 h5 h6 h7 : Int) (x0 x1 x2 x3 x4 x5 x6 : Nat) (w : World) (hx6 : x6 < 18446744073709551616) (hx : x6 % 16 = 0)
    (hC : ∀ w : World, Calls Tryd.prog 32 #[.string b, .agg #[.int .i64 (x0 : Int), .int .i64 (x1 : Int), .int .u64 (x2 : Int), .int .i64 (x3 : Int), .int .i64 (x4 : Int), .int .u64 (x5 : Int), .int .u64 (x6 : Int), .int .u64 16]] w fun r w' => r = .returned (.tuple #[.string .empty, .int .i64 54]) ∧ Below w.heap.size w w') :
    Calls Tryd.prog 19 #[.string b, .agg #[.int .i64 32, .int .i64 o, .int .i64 h2, .int .i64 h3, .int .u64 h4, .int .i64 h5, .int .i64 h6, .int .i64 h7], v, .agg #[.int .i64 (x0 : Int), .int .i64 (x1 : Int), .int .u64 (x2 : Int), .int .i64 (x3 : Int), .int .i64 (x4 : Int), .int .u64 (x5 : Int), .int .u64 (x6 : Int), .int .u64 16]] w fun r w' => r = .returned (.tuple #[.slice none 0 0, .int .i64 54]) ∧ Below w.heap.size w w' := by
  have HC := Hid.mk' hC
  clear hC
  have h60 : (0 : Int) ≤ (x6 : Int) := Int.natCast_nonneg _
  have h61 : (x6 : Int) ≤ 18446744073709551615 := Int.ofNat_le.2 (Nat.le_of_lt_succ hx6)
  have hne : ((x6 : Int) % 16 != 0) = false := bne_eq_false_iff_eq.2 (by omega)
  clear hx hx6
  go_enter Tryd.func19, Tryd.ntmps19
  go_wp2_with (first
    | (go_at_call 31; refine (entrySize_32 _).mono ?_; rintro r w9 ⟨rfl, hw9⟩; subst w9)
    | (refine wpList_load_row rfl _ _ rfl (w.heap.size + 1) rfl _ _ _ _ (heap_alloc2_new w _ _) Tryd.underlying60 rfl (by kernel_rfl) ?_)
    | (go_at_call 32; refine (HC.out _).mono ?_; rintro r w1 ⟨rfl, hb1⟩))
  go_ret2
  exact ⟨rfl, (Below.alloc (Below.alloc (Below.refl _ _) (Nat.le_refl _) _) (by rw [size_alloc]; exact Nat.le_succ _) _).trans (hb1.mono (by rw [size_alloc, size_alloc]; omega))⟩
set_option maxHeartbeats 1000000 in
theorem one_str_32 (b t : ByteArray) (e : Int) (v : Value) (o h2 h3 h4 h5 h6 h7 : Int) (x0 x1 x2 x3 x4 x5 x6 : Nat) (w : World) (hx6 : x6 < 18446744073709551616) (hx : x6 % 16 = 0) (he : e ≠ 0)
    (hC : ∀ w : World, Calls Tryd.prog 32 #[.string b, .agg #[.int .i64 (x0 : Int), .int .i64 (x1 : Int), .int .u64 (x2 : Int), .int .i64 (x3 : Int), .int .i64 (x4 : Int), .int .u64 (x5 : Int), .int .u64 (x6 : Int), .int .u64 16]] w fun r w' => r = .returned (.tuple #[.string t, .int .i64 0]) ∧ Below w.heap.size w w')
    (hS : ∀ wx : World, Below w.heap.size w wx → Calls Tryd.prog 33 #[.string b, v, .agg #[.int .i64 (x0 : Int), .int .i64 (x1 : Int), .int .u64 (x2 : Int), .int .i64 (x3 : Int), .int .i64 (x4 : Int), .int .u64 (x5 : Int), .int .u64 (x6 : Int), .int .u64 16]] wx fun r w' => r = .returned (.tuple #[.string .empty, .int .i64 e]) ∧ Below wx.heap.size wx w') :
    Calls Tryd.prog 19 #[.string b, .agg #[.int .i64 32, .int .i64 o, .int .i64 h2, .int .i64 h3, .int .u64 h4, .int .i64 h5, .int .i64 h6, .int .i64 h7], v, .agg #[.int .i64 (x0 : Int), .int .i64 (x1 : Int), .int .u64 (x2 : Int), .int .i64 (x3 : Int), .int .i64 (x4 : Int), .int .u64 (x5 : Int), .int .u64 (x6 : Int), .int .u64 16]] w fun r w' => r = .returned (.tuple #[.slice none 0 0, .int .i64 e]) ∧ Below w.heap.size w w' := by
  have HC := Hid.mk' hC
  have HS := Hid.mk' hS
  have hen : (e != 0) = true := bne_iff_ne.2 he
  clear hC hS he
  have hB0 : Below w.heap.size w ((w.alloc (.cells #[.int .i64 32, .int .i64 o, .int .i64 h2, .int .i64 h3, .int .u64 h4, .int .i64 h5, .int .i64 h6, .int .i64 h7] 56)).alloc (.cells #[.int .i64 (x0 : Int), .int .i64 (x1 : Int), .int .u64 (x2 : Int), .int .i64 (x3 : Int), .int .i64 (x4 : Int), .int .u64 (x5 : Int), .int .u64 (x6 : Int), .int .u64 16] 60)) := Below.alloc (Below.alloc (Below.refl _ _) (Nat.le_refl _) _) (by rw [size_alloc]; exact Nat.le_succ _) _
  have hbx : ((w.alloc (.cells #[.int .i64 32, .int .i64 o, .int .i64 h2, .int .i64 h3, .int .u64 h4, .int .i64 h5, .int .i64 h6, .int .i64 h7] 56)).alloc (.cells #[.int .i64 (x0 : Int), .int .i64 (x1 : Int), .int .u64 (x2 : Int), .int .i64 (x3 : Int), .int .i64 (x4 : Int), .int .u64 (x5 : Int), .int .u64 (x6 : Int), .int .u64 16] 60)).heap[w.heap.size + 1]? = some (.cells #[.int .i64 (x0 : Int), .int .i64 (x1 : Int), .int .u64 (x2 : Int), .int .i64 (x3 : Int), .int .i64 (x4 : Int), .int .u64 (x5 : Int), .int .u64 (x6 : Int), .int .u64 16] 60 (0, 0)) := heap_alloc2_new w _ _
  have hbh : ((w.alloc (.cells #[.int .i64 32, .int .i64 o, .int .i64 h2, .int .i64 h3, .int .u64 h4, .int .i64 h5, .int .i64 h6, .int .i64 h7] 56)).alloc (.cells #[.int .i64 (x0 : Int), .int .i64 (x1 : Int), .int .u64 (x2 : Int), .int .i64 (x3 : Int), .int .i64 (x4 : Int), .int .u64 (x5 : Int), .int .u64 (x6 : Int), .int .u64 16] 60)).heap[w.heap.size]? = some (.cells #[.int .i64 32, .int .i64 o, .int .i64 h2, .int .i64 h3, .int .u64 h4, .int .i64 h5, .int .i64 h6, .int .i64 h7] 56 (0, 0)) := heap_alloc2_old w _ _
  have hzz : ((w.alloc (.cells #[.int .i64 32, .int .i64 o, .int .i64 h2, .int .i64 h3, .int .u64 h4, .int .i64 h5, .int .i64 h6, .int .i64 h7] 56)).alloc (.cells #[.int .i64 (x0 : Int), .int .i64 (x1 : Int), .int .u64 (x2 : Int), .int .i64 (x3 : Int), .int .i64 (x4 : Int), .int .u64 (x5 : Int), .int .u64 (x6 : Int), .int .u64 16] 60)).heap.size = w.heap.size + 2 := by rw [size_alloc, size_alloc]
  have HKK := Hid.mk' (And.intro hB0 (And.intro hbh hzz))
  clear hB0 hbh hzz
  have h60 : (0 : Int) ≤ (x6 : Int) := Int.natCast_nonneg _
  have h61 : (x6 : Int) ≤ 18446744073709551615 := Int.ofNat_le.2 (Nat.le_of_lt_succ hx6)
  have hne : ((x6 : Int) % 16 != 0) = false := bne_eq_false_iff_eq.2 (by omega)
  clear hx hx6
  go_enter Tryd.func19, Tryd.ntmps19
  go_wp2_with (first
    | (go_at_call 31; refine (entrySize_32 _).mono ?_; rintro r w9 ⟨rfl, hw9⟩; subst w9)
    | (refine wpList_load_row rfl _ _ rfl (w.heap.size + 1) rfl _ _ _ _ hbx Tryd.underlying60 rfl (by kernel_rfl) ?_))
  go_at_call 32
  refine (HC.out _).mono ?_
  rintro r w1 ⟨rfl, hb1⟩
  obtain ⟨hB0, hbh, hzz⟩ := HKK.out
  clear HKK
  have hB1 : Below w.heap.size w w1 := hB0.trans (hb1.mono (by rw [hzz]; omega))
  have hbx1 : w1.heap[w.heap.size + 1]? = some (.cells #[.int .i64 (x0 : Int), .int .i64 (x1 : Int), .int .u64 (x2 : Int), .int .i64 (x3 : Int), .int .i64 (x4 : Int), .int .u64 (x5 : Int), .int .u64 (x6 : Int), .int .u64 16] 60 (0, 0)) := (hb1.block _ (by rw [hzz]; omega)).trans hbx
  have hbh1 : w1.heap[w.heap.size]? = some (.cells #[.int .i64 32, .int .i64 o, .int .i64 h2, .int .i64 h3, .int .u64 h4, .int .i64 h5, .int .i64 h6, .int .i64 h7] 56 (0, 0)) := (hb1.block _ (by rw [hzz]; omega)).trans hbh
  have hz1 : w.heap.size + 2 ≤ w1.heap.size := by have := hb1.size; rw [hzz] at this; exact this
  have HK1 := Hid.mk' (And.intro hB1 (And.intro hbh1 hz1))
  have HB1 := Hid.mk' hB1
  clear hB0 hbh hzz hbx hb1 hbh1 hz1 hB1 HC hne h60 h61
  go_wp2_with (first
    | (refine wpList_load_row rfl _ _ rfl (w.heap.size + 1) rfl _ _ _ _ hbx1 Tryd.underlying60 rfl (by kernel_rfl) ?_)
    | (go_at_call 33; refine (HS.out _ HB1.out).mono ?_; rintro r w2 ⟨rfl, hb2⟩))
  go_ret2
  exact ⟨rfl, HB1.out.trans (hb2.mono HB1.out.size)⟩
/-- what one answers -/
def OneD32 (o : Int) (t names : ByteArray) (w : World) (r : Ending) (w' : World) : Prop :=
  Below w.heap.size w w' ∧ ((∃ l v, symsOf 32 o t names (t.size / 16) = some l ∧ r = .returned (.tuple #[v, .int .i64 0]) ∧ w'.ownsRow w.heap.size 42 7 v l.length (symsV l)) ∨
    (symsOf 32 o t names (t.size / 16) = none ∧ r = .returned (.tuple #[.slice none 0 0, .int .i64 56])))
set_option maxHeartbeats 4000000 in
theorem one_go_32 (b t names : ByteArray) (n : Nat) (v : Value) (o h2 h3 h4 h5 h6 h7 : Int) (x0 x1 x2 x3 x4 x5 x6 : Nat) (w : World) (hx6 : x6 < 18446744073709551616) (hx : x6 % 16 = 0) (ht : t.size ≤ 1048576) (hnm : names.size ≤ 1048576) (ho : o = 0 ∨ o = 1) (hn : t.size = n * 16)
    (hC : ∀ w : World, Calls Tryd.prog 32 #[.string b, .agg #[.int .i64 (x0 : Int), .int .i64 (x1 : Int), .int .u64 (x2 : Int), .int .i64 (x3 : Int), .int .i64 (x4 : Int), .int .u64 (x5 : Int), .int .u64 (x6 : Int), .int .u64 16]] w fun r w' => r = .returned (.tuple #[.string t, .int .i64 0]) ∧ Below w.heap.size w w')
    (hS : ∀ wx : World, Below w.heap.size w wx → Calls Tryd.prog 33 #[.string b, v, .agg #[.int .i64 (x0 : Int), .int .i64 (x1 : Int), .int .u64 (x2 : Int), .int .i64 (x3 : Int), .int .i64 (x4 : Int), .int .u64 (x5 : Int), .int .u64 (x6 : Int), .int .u64 16]] wx fun r w' => r = .returned (.tuple #[.string names, .int .i64 0]) ∧ Below wx.heap.size wx w') :
    Calls Tryd.prog 19 #[.string b, .agg #[.int .i64 32, .int .i64 o, .int .i64 h2, .int .i64 h3, .int .u64 h4, .int .i64 h5, .int .i64 h6, .int .i64 h7], v, .agg #[.int .i64 (x0 : Int), .int .i64 (x1 : Int), .int .u64 (x2 : Int), .int .i64 (x3 : Int), .int .i64 (x4 : Int), .int .u64 (x5 : Int), .int .u64 (x6 : Int), .int .u64 16]] w (OneD32 o t names w) := by
  have HC := Hid.mk' hC
  have HS := Hid.mk' hS
  have hdiv : t.size / 16 = n := by omega
  have hnN : n ≤ 65536 := by omega
  have hpp : ∀ j : Nat, j < n → j * 16 + 16 ≤ t.size := fun j hj => by omega
  have htm : t.size ≤ maxLen := by unfold maxLen; omega
  have hnmm : names.size ≤ maxLen := by unfold maxLen; omega
  have HE : Hid (∀ (j : Nat) (wx : World), j < n → ∃ xb xt xo xs xv xz : Nat, (∀ nm, symAt 32 o t (j * 16) nm = ⟨nm, xb, xt, xo, xs, xv, xz⟩) ∧ Calls Tryd.prog 34 #[.string t, .int .i64 ((j * 16 : Nat) : Int), .int .i64 o] wx fun r w' => r = .returned (.agg #[.int .i64 ((num t (j * 16) 4 o : Nat) : Int), .string ⟨#[]⟩, .int .i64 (xb : Int), .int .i64 (xt : Int), .int .i64 (xo : Int), .int .i64 (xs : Int), .int .u64 (xv : Int), .int .u64 (xz : Int)]) ∧ Below wx.heap.size wx w') := fun j wx hj => ⟨_, _, _, _, _, _, fun nm => by unfold symAt; exact if_pos rfl, dEntry_32 t (j * 16) o wx (hpp j hj) htm ho⟩
  have HD := Hid.mk' (And.intro hdiv (And.intro hn (And.intro hnN hnmm)))
  obtain ⟨i0, hi, hz0, hz1, hz2⟩ := info_parts' infoSym
  clear hC hS hdiv hpp htm hnmm ho hnm ht hn hnN
  have hB0 : Below w.heap.size w ((w.alloc (.cells #[.int .i64 32, .int .i64 o, .int .i64 h2, .int .i64 h3, .int .u64 h4, .int .i64 h5, .int .i64 h6, .int .i64 h7] 56)).alloc (.cells #[.int .i64 (x0 : Int), .int .i64 (x1 : Int), .int .u64 (x2 : Int), .int .i64 (x3 : Int), .int .i64 (x4 : Int), .int .u64 (x5 : Int), .int .u64 (x6 : Int), .int .u64 16] 60)) := Below.alloc (Below.alloc (Below.refl _ _) (Nat.le_refl _) _) (by rw [size_alloc]; exact Nat.le_succ _) _
  have hbx : ((w.alloc (.cells #[.int .i64 32, .int .i64 o, .int .i64 h2, .int .i64 h3, .int .u64 h4, .int .i64 h5, .int .i64 h6, .int .i64 h7] 56)).alloc (.cells #[.int .i64 (x0 : Int), .int .i64 (x1 : Int), .int .u64 (x2 : Int), .int .i64 (x3 : Int), .int .i64 (x4 : Int), .int .u64 (x5 : Int), .int .u64 (x6 : Int), .int .u64 16] 60)).heap[w.heap.size + 1]? = some (.cells #[.int .i64 (x0 : Int), .int .i64 (x1 : Int), .int .u64 (x2 : Int), .int .i64 (x3 : Int), .int .i64 (x4 : Int), .int .u64 (x5 : Int), .int .u64 (x6 : Int), .int .u64 16] 60 (0, 0)) := heap_alloc2_new w _ _
  have hbh : ((w.alloc (.cells #[.int .i64 32, .int .i64 o, .int .i64 h2, .int .i64 h3, .int .u64 h4, .int .i64 h5, .int .i64 h6, .int .i64 h7] 56)).alloc (.cells #[.int .i64 (x0 : Int), .int .i64 (x1 : Int), .int .u64 (x2 : Int), .int .i64 (x3 : Int), .int .i64 (x4 : Int), .int .u64 (x5 : Int), .int .u64 (x6 : Int), .int .u64 16] 60)).heap[w.heap.size]? = some (.cells #[.int .i64 32, .int .i64 o, .int .i64 h2, .int .i64 h3, .int .u64 h4, .int .i64 h5, .int .i64 h6, .int .i64 h7] 56 (0, 0)) := heap_alloc2_old w _ _
  have hzz : ((w.alloc (.cells #[.int .i64 32, .int .i64 o, .int .i64 h2, .int .i64 h3, .int .u64 h4, .int .i64 h5, .int .i64 h6, .int .i64 h7] 56)).alloc (.cells #[.int .i64 (x0 : Int), .int .i64 (x1 : Int), .int .u64 (x2 : Int), .int .i64 (x3 : Int), .int .i64 (x4 : Int), .int .u64 (x5 : Int), .int .u64 (x6 : Int), .int .u64 16] 60)).heap.size = w.heap.size + 2 := by rw [size_alloc, size_alloc]
  have HKK := Hid.mk' (And.intro hB0 (And.intro hbh hzz))
  clear hB0 hbh hzz
  have h60 : (0 : Int) ≤ (x6 : Int) := Int.natCast_nonneg _
  have h61 : (x6 : Int) ≤ 18446744073709551615 := Int.ofNat_le.2 (Nat.le_of_lt_succ hx6)
  have hne : ((x6 : Int) % 16 != 0) = false := bne_eq_false_iff_eq.2 (by omega)
  clear hx hx6
  go_enter Tryd.func19, Tryd.ntmps19
  go_wp2_with (first
    | (go_at_call 31; refine (entrySize_32 _).mono ?_; rintro r w9 ⟨rfl, hw9⟩; subst w9)
    | (refine wpList_load_row rfl _ _ rfl (w.heap.size + 1) rfl _ _ _ _ hbx Tryd.underlying60 rfl (by kernel_rfl) ?_))
  go_at_call 32
  refine (HC.out _).mono ?_
  rintro r w1 ⟨rfl, hb1⟩
  obtain ⟨hB0, hbh, hzz⟩ := HKK.out
  clear HKK
  have hB1 : Below w.heap.size w w1 := hB0.trans (hb1.mono (by rw [hzz]; omega))
  have hbx1 : w1.heap[w.heap.size + 1]? = some (.cells #[.int .i64 (x0 : Int), .int .i64 (x1 : Int), .int .u64 (x2 : Int), .int .i64 (x3 : Int), .int .i64 (x4 : Int), .int .u64 (x5 : Int), .int .u64 (x6 : Int), .int .u64 16] 60 (0, 0)) := (hb1.block _ (by rw [hzz]; omega)).trans hbx
  have hbh1 : w1.heap[w.heap.size]? = some (.cells #[.int .i64 32, .int .i64 o, .int .i64 h2, .int .i64 h3, .int .u64 h4, .int .i64 h5, .int .i64 h6, .int .i64 h7] 56 (0, 0)) := (hb1.block _ (by rw [hzz]; omega)).trans hbh
  have hz1 : w.heap.size + 2 ≤ w1.heap.size := by have := hb1.size; rw [hzz] at this; exact this
  have HK1 := Hid.mk' (And.intro hB1 (And.intro hbh1 hz1))
  have HB1 := Hid.mk' hB1
  clear hB0 hbh hzz hbx hb1 hbh1 hz1 hB1 HC hne h60 h61
  go_wp2_with (first
    | (refine wpList_load_row rfl _ _ rfl (w.heap.size + 1) rfl _ _ _ _ hbx1 Tryd.underlying60 rfl (by kernel_rfl) ?_)
    | (go_at_call 33; refine (HS.out _ HB1.out).mono ?_; rintro r w2 ⟨rfl, hb2⟩))
  obtain ⟨hB1, hbh1, hz1'⟩ := HK1.out
  have hB2 : Below w.heap.size w w2 := hB1.trans (hb2.mono hB1.size)
  have hbh2 : w2.heap[w.heap.size]? = some (.cells #[.int .i64 32, .int .i64 o, .int .i64 h2, .int .i64 h3, .int .u64 h4, .int .i64 h5, .int .i64 h6, .int .i64 h7] 56 (0, 0)) := (hb2.block _ (by omega)).trans hbh1
  have hz2' : w.heap.size + 2 ≤ w2.heap.size := Nat.le_trans hz1' hb2.size
  clear hB1 hbh1 hz1' hb2 hbx1 HK1 HB1 HS
  go_loopw [15, 16] (fun u a wx => ∃ (j : Nat) (l : List Sym), j ≤ n ∧ a = .int .i64 ((j * 16 : Nat) : Int) ∧ symsOf 32 o t names j = some l ∧ wx.ownsRow (w.heap.size + 2) 42 7 u j (symsV l) ∧ wx.heap[w.heap.size]? = some (.cells #[.int .i64 32, .int .i64 o, .int .i64 h2, .int .i64 h3, .int .u64 h4, .int .i64 h5, .int .i64 h6, .int .i64 h7] 56 (0, 0)) ∧ Below w.heap.size w wx ∧ w.heap.size + 2 ≤ wx.heap.size) (fun _ a _ => n * 16 - (intOf a).toNat)
  case atStart => exact ⟨0, [], Nat.zero_le _, by simp, rfl, World.ownsRow_nil _ _ _ _, hbh2, hB2, hz2'⟩
  case round =>
    clear hB2 hbh2 hz2'
    obtain ⟨j, l, hj, rfl, hl, hown, hRh, hB, hlt⟩ := hrel
    have hll := symsOf_length _ _ _ _ _ _ hl
    have hn := HD.out.2.1
    by_cases hjn : j < n
    · have hjI : ((j * 16 : Nat) : Int) < ((t.size : Nat) : Int) := by omega
      have hjN : j * 16 < t.size := by omega
      have hnN := HD.out.2.2.1
      have hc3 : j + 1 ≤ maxLen := by unfold maxLen; omega
      have hc4 : (j + 1) * 64 ≤ 140737488355328 := by omega
      have hwa : IntKind.i64.wrap (((j * 16 : Nat) : Int) + 16) = ((j * 16 : Nat) : Int) + 16 := by rw [IntKind.wrap_i64]; omega
      have hxa : wrap64 (((j * 16 : Nat) : Int) + 16) = ((j * 16 : Nat) : Int) + 16 := by clear hwa; unfold wrap64; omega
      obtain ⟨xb, xt, xo, xs, xv, xz, hsa, hE⟩ := HE.out j (wr.alloc (.cells #[.int .i64 0, .string ⟨#[]⟩, .int .i64 0, .int .i64 0, .int .i64 0, .int .i64 0, .int .u64 0, .int .u64 0] 87)) hjn
      have hl' : ∀ nm, nameOf names (num t (j * 16) 4 o) = some nm → symsOf 32 o t names (j + 1) = some (l ++ [⟨nm, xb, xt, xo, xs, xv, xz⟩]) := fun nm hN => by
        have hsy : symLen 32 = 16 := rfl
        rw [symsOf, hl, hsy, hN]
        simp only [Option.bind_some, Option.map_some, hsa]
      have hln : nameOf names (num t (j * 16) 4 o) = none → symsOf 32 o t names (t.size / 16) = none := fun hN => by
        have h1 : symsOf 32 o t names (j + 1) = none := by
          have hsy : symLen 32 = 16 := rfl
          rw [symsOf, hl, hsy, hN]; rfl
        rw [HD.out.1, show n = j + 1 + (n - (j + 1)) by omega]
        exact symsOf_none h1 _
      have hpl := num_lt4 t (j * 16) o
      clear hn hnN hsa
      generalize num t (j * 16) 4 o = pl at hE hl' hln hpl
      generalize hP : j * 16 = P at hjI hwa hxa hjN hE
      have HP := Hid.mk' hP
      have HE' := Hid.mk' hE
      clear hP hE hl hll
      have r0 : (wr.alloc (.cells #[.int .i64 0, .string ⟨#[]⟩, .int .i64 0, .int .i64 0, .int .i64 0, .int .i64 0, .int .u64 0, .int .u64 0] 87)).cell? ⟨w.heap.size, 0, none⟩ = some (.int .i64 32) := (World.cell?_alloc_past _ _ _ (show w.heap.size < wr.heap.size by omega)).trans (cell_of_row _ _ 0 _ _ _ hRh)
      have r1 : (wr.alloc (.cells #[.int .i64 0, .string ⟨#[]⟩, .int .i64 0, .int .i64 0, .int .i64 0, .int .i64 0, .int .u64 0, .int .u64 0] 87)).cell? ⟨w.heap.size, 1, none⟩ = some (.int .i64 o) := (World.cell?_alloc_past _ _ _ (show w.heap.size < wr.heap.size by omega)).trans (cell_of_row _ _ 1 _ _ _ hRh)
      have hwq : w.heap.size ≠ wr.heap.size := by omega
      have hb3 : ∀ w2 : World, Below (wr.alloc (.cells #[.int .i64 0, .string ⟨#[]⟩, .int .i64 0, .int .i64 0, .int .i64 0, .int .i64 0, .int .u64 0, .int .u64 0] 87)).heap.size (wr.alloc (.cells #[.int .i64 0, .string ⟨#[]⟩, .int .i64 0, .int .i64 0, .int .i64 0, .int .i64 0, .int .u64 0, .int .u64 0] 87)) w2 → w2.heap[wr.heap.size]? = some (.cells #[.int .i64 0, .string ⟨#[]⟩, .int .i64 0, .int .i64 0, .int .i64 0, .int .i64 0, .int .u64 0, .int .u64 0] 87 (0, 0)) ∧ Below wr.heap.size wr (w2.setRow wr.heap.size #[.int .i64 (pl : Int), .string ⟨#[]⟩, .int .i64 (xb : Int), .int .i64 (xt : Int), .int .i64 (xo : Int), .int .i64 (xs : Int), .int .u64 (xv : Int), .int .u64 (xz : Int)]) := fun w2 hb2 => ⟨(hb2.block _ (by rw [size_alloc]; exact Nat.lt_succ_self _)).trans (heap_alloc_new wr _), below_setRow ((Below.alloc (Below.refl _ _) (Nat.le_refl _) _).trans (hb2.mono (by rw [size_alloc]; exact Nat.le_succ _))) (Nat.le_refl _) _⟩
      cases hN : nameOf names pl with
      | none =>
        have HNO := Hid.mk' (hln hN)
        have hp0 : pl ≠ 0 := fun h => by rw [h] at hN; unfold nameOf at hN; rw [if_pos rfl] at hN; cases hN
        have hpn : ((pl : Int) != 0) = true := bne_iff_ne.2 (by clear hwa hxa; omega)
        have HST : Hid (∀ w : World, Calls Tryd.prog 36 #[.string names, .int .i64 (pl : Int)] w fun r w' => r = .returned (.tuple #[.string .empty, .int .i64 56]) ∧ w' = w) := fun w => by
          unfold nameOf at hN
          rw [if_neg hp0] at hN
          rcases str_or names pl with ⟨k, hk⟩ | hk
          · rw [strAt_some hk] at hN; cases hN
          · exact rStr_none names pl w hk (by clear hwa hxa; omega) HD.out.2.2.2
        clear hl' hln hpl hN hp0
        go_wp2_with fail
        go_at_call 34
        refine (HE'.out).mono ?_
        rintro r w2 ⟨rfl, hb2⟩
        obtain ⟨hq2, hbw⟩ := hb3 w2 hb2
        have hrow3 : (w2.setRow wr.heap.size #[.int .i64 (pl : Int), .string ⟨#[]⟩, .int .i64 (xb : Int), .int .i64 (xt : Int), .int .i64 (xo : Int), .int .i64 (xs : Int), .int .u64 (xv : Int), .int .u64 (xz : Int)]).heap[wr.heap.size]? = some (.cells #[.int .i64 (pl : Int), .string ⟨#[]⟩, .int .i64 (xb : Int), .int .i64 (xt : Int), .int .i64 (xo : Int), .int .i64 (xs : Int), .int .u64 (xv : Int), .int .u64 (xz : Int)] 87 (0, 0)) := setRow_heap _ _ _ _ _ _ hq2
        have e0 : (w2.setRow wr.heap.size #[.int .i64 (pl : Int), .string ⟨#[]⟩, .int .i64 (xb : Int), .int .i64 (xt : Int), .int .i64 (xo : Int), .int .i64 (xs : Int), .int .u64 (xv : Int), .int .u64 (xz : Int)]).cell? ⟨wr.heap.size, 0, none⟩ = some (.int .i64 (pl : Int)) := (cell_of_row _ _ 0 _ _ _ hrow3).trans rfl
        have HBW := Hid.mk' hbw
        clear hb2 hrow3 hb3 hbw
        go_wp2_with (first
          | (refine wpList_store_row rfl _ _ _ rfl wr.heap.size #[.int .i64 (pl : Int), .string ⟨#[]⟩, .int .i64 (xb : Int), .int .i64 (xt : Int), .int .i64 (xo : Int), .int .i64 (xs : Int), .int .u64 (xv : Int), .int .u64 (xz : Int)] rfl rfl _ _ hq2 rfl (by kernel_rfl) (by kernel_rfl) ?_)
          | (go_at_call 36; refine (HST.out _).mono ?_; rintro r w6 ⟨rfl, hw6⟩; subst w6))
        go_ret2
        exact ⟨hB.trans (HBW.out.mono (by omega)), Or.inr ⟨HNO.out, rfl⟩⟩
      | some nm =>
        have HL' := Hid.mk' (hl' nm hN)
        by_cases hp0 : pl = 0
        · have hpn : ((pl : Int) != 0) = false := bne_eq_false_iff_eq.2 (by clear hwa hxa; omega)
          obtain rfl : nm = .empty := by rw [hp0] at hN; unfold nameOf at hN; rw [if_pos rfl] at hN; exact (Option.some.inj hN).symm
          clear hl' hln hpl hN hp0
          go_wp2_with fail
          go_at_call 34
          refine (HE'.out).mono ?_
          rintro r w2 ⟨rfl, hb2⟩
          obtain ⟨hq2, hbw⟩ := hb3 w2 hb2
          have hrow3 : (w2.setRow wr.heap.size #[.int .i64 (pl : Int), .string ⟨#[]⟩, .int .i64 (xb : Int), .int .i64 (xt : Int), .int .i64 (xo : Int), .int .i64 (xs : Int), .int .u64 (xv : Int), .int .u64 (xz : Int)]).heap[wr.heap.size]? = some (.cells #[.int .i64 (pl : Int), .string ⟨#[]⟩, .int .i64 (xb : Int), .int .i64 (xt : Int), .int .i64 (xo : Int), .int .i64 (xs : Int), .int .u64 (xv : Int), .int .u64 (xz : Int)] 87 (0, 0)) := setRow_heap _ _ _ _ _ _ hq2
          have e0 : (w2.setRow wr.heap.size #[.int .i64 (pl : Int), .string ⟨#[]⟩, .int .i64 (xb : Int), .int .i64 (xt : Int), .int .i64 (xo : Int), .int .i64 (xs : Int), .int .u64 (xv : Int), .int .u64 (xz : Int)]).cell? ⟨wr.heap.size, 0, none⟩ = some (.int .i64 (pl : Int)) := (cell_of_row _ _ 0 _ _ _ hrow3).trans rfl
          have e1 : (w2.setRow wr.heap.size #[.int .i64 (pl : Int), .string ⟨#[]⟩, .int .i64 (xb : Int), .int .i64 (xt : Int), .int .i64 (xo : Int), .int .i64 (xs : Int), .int .u64 (xv : Int), .int .u64 (xz : Int)]).cell? ⟨wr.heap.size, 1, none⟩ = some (.string ⟨#[]⟩) := (cell_of_row _ _ 1 _ _ _ hrow3).trans rfl
          have e2 : (w2.setRow wr.heap.size #[.int .i64 (pl : Int), .string ⟨#[]⟩, .int .i64 (xb : Int), .int .i64 (xt : Int), .int .i64 (xo : Int), .int .i64 (xs : Int), .int .u64 (xv : Int), .int .u64 (xz : Int)]).cell? ⟨wr.heap.size, 2, none⟩ = some (.int .i64 (xb : Int)) := (cell_of_row _ _ 2 _ _ _ hrow3).trans rfl
          have e3 : (w2.setRow wr.heap.size #[.int .i64 (pl : Int), .string ⟨#[]⟩, .int .i64 (xb : Int), .int .i64 (xt : Int), .int .i64 (xo : Int), .int .i64 (xs : Int), .int .u64 (xv : Int), .int .u64 (xz : Int)]).cell? ⟨wr.heap.size, 3, none⟩ = some (.int .i64 (xt : Int)) := (cell_of_row _ _ 3 _ _ _ hrow3).trans rfl
          have e4 : (w2.setRow wr.heap.size #[.int .i64 (pl : Int), .string ⟨#[]⟩, .int .i64 (xb : Int), .int .i64 (xt : Int), .int .i64 (xo : Int), .int .i64 (xs : Int), .int .u64 (xv : Int), .int .u64 (xz : Int)]).cell? ⟨wr.heap.size, 4, none⟩ = some (.int .i64 (xo : Int)) := (cell_of_row _ _ 4 _ _ _ hrow3).trans rfl
          have e5 : (w2.setRow wr.heap.size #[.int .i64 (pl : Int), .string ⟨#[]⟩, .int .i64 (xb : Int), .int .i64 (xt : Int), .int .i64 (xo : Int), .int .i64 (xs : Int), .int .u64 (xv : Int), .int .u64 (xz : Int)]).cell? ⟨wr.heap.size, 5, none⟩ = some (.int .i64 (xs : Int)) := (cell_of_row _ _ 5 _ _ _ hrow3).trans rfl
          have e6 : (w2.setRow wr.heap.size #[.int .i64 (pl : Int), .string ⟨#[]⟩, .int .i64 (xb : Int), .int .i64 (xt : Int), .int .i64 (xo : Int), .int .i64 (xs : Int), .int .u64 (xv : Int), .int .u64 (xz : Int)]).cell? ⟨wr.heap.size, 6, none⟩ = some (.int .u64 (xv : Int)) := (cell_of_row _ _ 6 _ _ _ hrow3).trans rfl
          have e7 : (w2.setRow wr.heap.size #[.int .i64 (pl : Int), .string ⟨#[]⟩, .int .i64 (xb : Int), .int .i64 (xt : Int), .int .i64 (xo : Int), .int .i64 (xs : Int), .int .u64 (xv : Int), .int .u64 (xz : Int)]).cell? ⟨wr.heap.size, 7, none⟩ = some (.int .u64 (xz : Int)) := (cell_of_row _ _ 7 _ _ _ hrow3).trans rfl
          have hOW := own_below hown hbw
          have HWW := Hid.mk' (And.intro hbw (Nat.le_trans hlt hbw.size))
          clear hb2 hrow3 hb3 hbw
          have HNR : Hid (((w2.setRow wr.heap.size #[.int .i64 (pl : Int), .string ⟨#[]⟩, .int .i64 (xb : Int), .int .i64 (xt : Int), .int .i64 (xo : Int), .int .i64 (xs : Int), .int .u64 (xv : Int), .int .u64 (xz : Int)]).alloc (.cells #[.string ⟨#[]⟩, .int .i64 (xb : Int), .int .i64 (xt : Int), .int .i64 (xo : Int), .int .i64 (xs : Int), .int .u64 (xv : Int), .int .u64 (xz : Int)] 42)).heap[w2.heap.size]? = some (.cells #[.string ⟨#[]⟩, .int .i64 (xb : Int), .int .i64 (xt : Int), .int .i64 (xo : Int), .int .i64 (xs : Int), .int .u64 (xv : Int), .int .u64 (xz : Int)] 42 (0, 0))) := by
            have hsz : (w2.setRow wr.heap.size #[.int .i64 (pl : Int), .string ⟨#[]⟩, .int .i64 (xb : Int), .int .i64 (xt : Int), .int .i64 (xo : Int), .int .i64 (xs : Int), .int .u64 (xv : Int), .int .u64 (xz : Int)]).heap.size = w2.heap.size := by simp
            have h := heap_alloc_new (w2.setRow wr.heap.size #[.int .i64 (pl : Int), .string ⟨#[]⟩, .int .i64 (xb : Int), .int .i64 (xt : Int), .int .i64 (xo : Int), .int .i64 (xs : Int), .int .u64 (xv : Int), .int .u64 (xz : Int)]) (.cells #[.string ⟨#[]⟩, .int .i64 (xb : Int), .int .i64 (xt : Int), .int .i64 (xo : Int), .int .i64 (xs : Int), .int .u64 (xv : Int), .int .u64 (xz : Int)] 42)
            rw [hsz] at h
            exact h
          go_wp2_with (first
            | (refine wpList_store_row rfl _ _ _ rfl wr.heap.size #[.int .i64 (pl : Int), .string ⟨#[]⟩, .int .i64 (xb : Int), .int .i64 (xt : Int), .int .i64 (xo : Int), .int .i64 (xs : Int), .int .u64 (xv : Int), .int .u64 (xz : Int)] rfl rfl _ _ hq2 rfl (by kernel_rfl) (by kernel_rfl) ?_)
            | (at_builtin; refine wpList_append_own _ rfl _ _ 45 rfl (w.heap.size + 2) 42 i0 (.agg #[.string ⟨#[]⟩, .int .i64 0, .int .i64 0, .int .i64 0, .int .i64 0, .int .u64 0, .int .u64 0]) 7 64 Tryd.underlying45 hi hz0 hz1 hz2 rfl (by decide) _ _ _ rfl (hOW.alloc (.cells #[.string ⟨#[]⟩, .int .i64 (xb : Int), .int .i64 (xt : Int), .int .i64 (xo : Int), .int .i64 (xs : Int), .int .u64 (xv : Int), .int .u64 (xz : Int)] 42)) ⟨w2.heap.size, 0, none⟩ 1 1 [.string ⟨#[]⟩, .int .i64 (xb : Int), .int .i64 (xt : Int), .int .i64 (xo : Int), .int .i64 (xs : Int), .int .u64 (xv : Int), .int .u64 (xz : Int)] rfl rfl ?c1 (by intro u hu; simp at hu; rcases hu with rfl | rfl | rfl | rfl | rfl | rfl | rfl <;> rfl) ?c3 ?c4 ?c5 ?_))
          case c1 =>
            intro q u hu
            rw [Addr.add_mid, Nat.zero_add, cell_of_row _ _ _ _ _ _ HNR.out]
            simpa using hu
          case c3 => exact hc3
          case c4 => exact hc4
          case c5 => rw [size_alloc]; exact Nat.le_succ_of_le HWW.out.2
          intro v' w5 hown' hgrow _
          have hrow : ∀ q, u15.ownBlock = some q → w.heap.size + 2 ≤ q := fun q hq => (hown.lt q hq).1
          have hbR : Below (w.heap.size + 2) wr w5 := Below.grown (Below.alloc (HWW.out.1.mono hlt) HWW.out.2 _) hgrow (by rw [size_alloc]; exact Nat.le_succ_of_le HWW.out.2) hrow
          have HALL : Hid (w5.ownsRow (w.heap.size + 2) 42 7 v' (j + 1) (symsV (l ++ [⟨.empty, xb, xt, xo, xs, xv, xz⟩])) ∧ w5.heap[w.heap.size]? = some (.cells #[.int .i64 32, .int .i64 o, .int .i64 h2, .int .i64 h3, .int .u64 h4, .int .i64 h5, .int .i64 h6, .int .i64 h7] 56 (0, 0)) ∧ Below w.heap.size w w5 ∧ w.heap.size + 2 ≤ w5.heap.size) := ⟨by rw [symsV_append]; exact hown', (hbR.block _ (by omega)).trans hRh, hB.trans (hbR.mono (by omega)), Nat.le_trans hlt hbR.size⟩
          clear hown' hgrow hbR hrow hown hRh hB hOW
          go_wp2
          clear hwa hxa
          go_roundw
          case rel => exact ⟨j + 1, _, hjn, by refine congrArg (Value.int .i64) ?_; have hq := HP.out; omega, HL'.out, HALL.out⟩
          case measure => have hq := HP.out; have hjn' : j < n := hjn; clear HALL HL'; simp only [intOf]; omega
        · have hpn : ((pl : Int) != 0) = true := bne_iff_ne.2 (by clear hwa hxa; omega)
          have HST : Hid (∀ w : World, Calls Tryd.prog 36 #[.string names, .int .i64 (pl : Int)] w fun r w' => r = .returned (.tuple #[.string nm, .int .i64 0]) ∧ w' = w) := fun w => by
            unfold nameOf at hN
            rw [if_neg hp0] at hN
            rcases str_or names pl with ⟨k, hk⟩ | hk
            · rw [strAt_some hk] at hN
              obtain rfl := Option.some.inj hN
              exact rStr_ok names pl k w hk HD.out.2.2.2
            · rw [strAt_none hk] at hN; cases hN
          clear hl' hln hpl hN hp0
          go_wp2_with fail
          go_at_call 34
          refine (HE'.out).mono ?_
          rintro r w2 ⟨rfl, hb2⟩
          obtain ⟨hq2, hbw⟩ := hb3 w2 hb2
          have hrow3 : (w2.setRow wr.heap.size #[.int .i64 (pl : Int), .string ⟨#[]⟩, .int .i64 (xb : Int), .int .i64 (xt : Int), .int .i64 (xo : Int), .int .i64 (xs : Int), .int .u64 (xv : Int), .int .u64 (xz : Int)]).heap[wr.heap.size]? = some (.cells #[.int .i64 (pl : Int), .string ⟨#[]⟩, .int .i64 (xb : Int), .int .i64 (xt : Int), .int .i64 (xo : Int), .int .i64 (xs : Int), .int .u64 (xv : Int), .int .u64 (xz : Int)] 87 (0, 0)) := setRow_heap _ _ _ _ _ _ hq2
          have e0 : (w2.setRow wr.heap.size #[.int .i64 (pl : Int), .string ⟨#[]⟩, .int .i64 (xb : Int), .int .i64 (xt : Int), .int .i64 (xo : Int), .int .i64 (xs : Int), .int .u64 (xv : Int), .int .u64 (xz : Int)]).cell? ⟨wr.heap.size, 0, none⟩ = some (.int .i64 (pl : Int)) := (cell_of_row _ _ 0 _ _ _ hrow3).trans rfl
          have e1 : (w2.setRow wr.heap.size #[.int .i64 (pl : Int), .string ⟨#[]⟩, .int .i64 (xb : Int), .int .i64 (xt : Int), .int .i64 (xo : Int), .int .i64 (xs : Int), .int .u64 (xv : Int), .int .u64 (xz : Int)]).cell? ⟨wr.heap.size, 1, none⟩ = some (.string ⟨#[]⟩) := (cell_of_row _ _ 1 _ _ _ hrow3).trans rfl
          have z1 : (w2.setRow wr.heap.size #[.int .i64 (pl : Int), .string ⟨#[]⟩, .int .i64 (xb : Int), .int .i64 (xt : Int), .int .i64 (xo : Int), .int .i64 (xs : Int), .int .u64 (xv : Int), .int .u64 (xz : Int)]).frozen? ⟨wr.heap.size, 1, none⟩ = false := frozen_of_row _ _ 1 _ _ hrow3
          have hrow4 : ((w2.setRow wr.heap.size #[.int .i64 (pl : Int), .string ⟨#[]⟩, .int .i64 (xb : Int), .int .i64 (xt : Int), .int .i64 (xo : Int), .int .i64 (xs : Int), .int .u64 (xv : Int), .int .u64 (xz : Int)]).setCell ⟨wr.heap.size, 1, none⟩ (.string nm)).heap[wr.heap.size]? = some (.cells #[.int .i64 (pl : Int), .string nm, .int .i64 (xb : Int), .int .i64 (xt : Int), .int .i64 (xo : Int), .int .i64 (xs : Int), .int .u64 (xv : Int), .int .u64 (xz : Int)] 87 (0, 0)) := (set_row (.string nm) hrow3).trans rfl
          have f1 : ((w2.setRow wr.heap.size #[.int .i64 (pl : Int), .string ⟨#[]⟩, .int .i64 (xb : Int), .int .i64 (xt : Int), .int .i64 (xo : Int), .int .i64 (xs : Int), .int .u64 (xv : Int), .int .u64 (xz : Int)]).setCell ⟨wr.heap.size, 1, none⟩ (.string nm)).cell? ⟨wr.heap.size, 1, none⟩ = some (.string nm) := (cell_of_row _ _ 1 _ _ _ hrow4).trans rfl
          have f2 : ((w2.setRow wr.heap.size #[.int .i64 (pl : Int), .string ⟨#[]⟩, .int .i64 (xb : Int), .int .i64 (xt : Int), .int .i64 (xo : Int), .int .i64 (xs : Int), .int .u64 (xv : Int), .int .u64 (xz : Int)]).setCell ⟨wr.heap.size, 1, none⟩ (.string nm)).cell? ⟨wr.heap.size, 2, none⟩ = some (.int .i64 (xb : Int)) := (cell_of_row _ _ 2 _ _ _ hrow4).trans rfl
          have f3 : ((w2.setRow wr.heap.size #[.int .i64 (pl : Int), .string ⟨#[]⟩, .int .i64 (xb : Int), .int .i64 (xt : Int), .int .i64 (xo : Int), .int .i64 (xs : Int), .int .u64 (xv : Int), .int .u64 (xz : Int)]).setCell ⟨wr.heap.size, 1, none⟩ (.string nm)).cell? ⟨wr.heap.size, 3, none⟩ = some (.int .i64 (xt : Int)) := (cell_of_row _ _ 3 _ _ _ hrow4).trans rfl
          have f4 : ((w2.setRow wr.heap.size #[.int .i64 (pl : Int), .string ⟨#[]⟩, .int .i64 (xb : Int), .int .i64 (xt : Int), .int .i64 (xo : Int), .int .i64 (xs : Int), .int .u64 (xv : Int), .int .u64 (xz : Int)]).setCell ⟨wr.heap.size, 1, none⟩ (.string nm)).cell? ⟨wr.heap.size, 4, none⟩ = some (.int .i64 (xo : Int)) := (cell_of_row _ _ 4 _ _ _ hrow4).trans rfl
          have f5 : ((w2.setRow wr.heap.size #[.int .i64 (pl : Int), .string ⟨#[]⟩, .int .i64 (xb : Int), .int .i64 (xt : Int), .int .i64 (xo : Int), .int .i64 (xs : Int), .int .u64 (xv : Int), .int .u64 (xz : Int)]).setCell ⟨wr.heap.size, 1, none⟩ (.string nm)).cell? ⟨wr.heap.size, 5, none⟩ = some (.int .i64 (xs : Int)) := (cell_of_row _ _ 5 _ _ _ hrow4).trans rfl
          have f6 : ((w2.setRow wr.heap.size #[.int .i64 (pl : Int), .string ⟨#[]⟩, .int .i64 (xb : Int), .int .i64 (xt : Int), .int .i64 (xo : Int), .int .i64 (xs : Int), .int .u64 (xv : Int), .int .u64 (xz : Int)]).setCell ⟨wr.heap.size, 1, none⟩ (.string nm)).cell? ⟨wr.heap.size, 6, none⟩ = some (.int .u64 (xv : Int)) := (cell_of_row _ _ 6 _ _ _ hrow4).trans rfl
          have f7 : ((w2.setRow wr.heap.size #[.int .i64 (pl : Int), .string ⟨#[]⟩, .int .i64 (xb : Int), .int .i64 (xt : Int), .int .i64 (xo : Int), .int .i64 (xs : Int), .int .u64 (xv : Int), .int .u64 (xz : Int)]).setCell ⟨wr.heap.size, 1, none⟩ (.string nm)).cell? ⟨wr.heap.size, 7, none⟩ = some (.int .u64 (xz : Int)) := (cell_of_row _ _ 7 _ _ _ hrow4).trans rfl
          have hbw4 : Below wr.heap.size wr ((w2.setRow wr.heap.size #[.int .i64 (pl : Int), .string ⟨#[]⟩, .int .i64 (xb : Int), .int .i64 (xt : Int), .int .i64 (xo : Int), .int .i64 (xs : Int), .int .u64 (xv : Int), .int .u64 (xz : Int)]).setCell ⟨wr.heap.size, 1, none⟩ (.string nm)) := Below.setCell hbw (Nat.le_refl _) _
          have hOW := own_below hown hbw4
          have HWW := Hid.mk' (And.intro hbw4 (Nat.le_trans hlt hbw4.size))
          clear hb2 hrow3 hrow4 hb3 hbw hbw4
          have HNR : Hid ((((w2.setRow wr.heap.size #[.int .i64 (pl : Int), .string ⟨#[]⟩, .int .i64 (xb : Int), .int .i64 (xt : Int), .int .i64 (xo : Int), .int .i64 (xs : Int), .int .u64 (xv : Int), .int .u64 (xz : Int)]).setCell ⟨wr.heap.size, 1, none⟩ (.string nm)).alloc (.cells #[.string nm, .int .i64 (xb : Int), .int .i64 (xt : Int), .int .i64 (xo : Int), .int .i64 (xs : Int), .int .u64 (xv : Int), .int .u64 (xz : Int)] 42)).heap[w2.heap.size]? = some (.cells #[.string nm, .int .i64 (xb : Int), .int .i64 (xt : Int), .int .i64 (xo : Int), .int .i64 (xs : Int), .int .u64 (xv : Int), .int .u64 (xz : Int)] 42 (0, 0))) := by
            have hsz : ((w2.setRow wr.heap.size #[.int .i64 (pl : Int), .string ⟨#[]⟩, .int .i64 (xb : Int), .int .i64 (xt : Int), .int .i64 (xo : Int), .int .i64 (xs : Int), .int .u64 (xv : Int), .int .u64 (xz : Int)]).setCell ⟨wr.heap.size, 1, none⟩ (.string nm)).heap.size = w2.heap.size := by simp
            have h := heap_alloc_new ((w2.setRow wr.heap.size #[.int .i64 (pl : Int), .string ⟨#[]⟩, .int .i64 (xb : Int), .int .i64 (xt : Int), .int .i64 (xo : Int), .int .i64 (xs : Int), .int .u64 (xv : Int), .int .u64 (xz : Int)]).setCell ⟨wr.heap.size, 1, none⟩ (.string nm)) (.cells #[.string nm, .int .i64 (xb : Int), .int .i64 (xt : Int), .int .i64 (xo : Int), .int .i64 (xs : Int), .int .u64 (xv : Int), .int .u64 (xz : Int)] 42)
            rw [hsz] at h
            exact h
          go_wp2_with (first
            | (refine wpList_store_row rfl _ _ _ rfl wr.heap.size #[.int .i64 (pl : Int), .string ⟨#[]⟩, .int .i64 (xb : Int), .int .i64 (xt : Int), .int .i64 (xo : Int), .int .i64 (xs : Int), .int .u64 (xv : Int), .int .u64 (xz : Int)] rfl rfl _ _ hq2 rfl (by kernel_rfl) (by kernel_rfl) ?_)
            | (go_at_call 36; refine (HST.out _).mono ?_; rintro r w6 ⟨rfl, hw6⟩; subst w6)
            | (at_builtin; refine wpList_append_own _ rfl _ _ 45 rfl (w.heap.size + 2) 42 i0 (.agg #[.string ⟨#[]⟩, .int .i64 0, .int .i64 0, .int .i64 0, .int .i64 0, .int .u64 0, .int .u64 0]) 7 64 Tryd.underlying45 hi hz0 hz1 hz2 rfl (by decide) _ _ _ rfl (hOW.alloc (.cells #[.string nm, .int .i64 (xb : Int), .int .i64 (xt : Int), .int .i64 (xo : Int), .int .i64 (xs : Int), .int .u64 (xv : Int), .int .u64 (xz : Int)] 42)) ⟨w2.heap.size, 0, none⟩ 1 1 [.string nm, .int .i64 (xb : Int), .int .i64 (xt : Int), .int .i64 (xo : Int), .int .i64 (xs : Int), .int .u64 (xv : Int), .int .u64 (xz : Int)] rfl rfl ?c1 (by intro u hu; simp at hu; rcases hu with rfl | rfl | rfl | rfl | rfl | rfl | rfl <;> rfl) ?c3 ?c4 ?c5 ?_))
          case c1 =>
            intro q u hu
            rw [Addr.add_mid, Nat.zero_add, cell_of_row _ _ _ _ _ _ HNR.out]
            simpa using hu
          case c3 => exact hc3
          case c4 => exact hc4
          case c5 => rw [size_alloc]; exact Nat.le_succ_of_le HWW.out.2
          intro v' w5 hown' hgrow _
          have hrow : ∀ q, u15.ownBlock = some q → w.heap.size + 2 ≤ q := fun q hq => (hown.lt q hq).1
          have hbR : Below (w.heap.size + 2) wr w5 := Below.grown (Below.alloc (HWW.out.1.mono hlt) HWW.out.2 _) hgrow (by rw [size_alloc]; exact Nat.le_succ_of_le HWW.out.2) hrow
          have HALL : Hid (w5.ownsRow (w.heap.size + 2) 42 7 v' (j + 1) (symsV (l ++ [⟨nm, xb, xt, xo, xs, xv, xz⟩])) ∧ w5.heap[w.heap.size]? = some (.cells #[.int .i64 32, .int .i64 o, .int .i64 h2, .int .i64 h3, .int .u64 h4, .int .i64 h5, .int .i64 h6, .int .i64 h7] 56 (0, 0)) ∧ Below w.heap.size w w5 ∧ w.heap.size + 2 ≤ w5.heap.size) := ⟨by rw [symsV_append]; exact hown', (hbR.block _ (by omega)).trans hRh, hB.trans (hbR.mono (by omega)), Nat.le_trans hlt hbR.size⟩
          clear hown' hgrow hbR hrow hown hRh hB hOW
          go_wp2
          clear hwa hxa
          go_roundw
          case rel => exact ⟨j + 1, _, hjn, by refine congrArg (Value.int .i64) ?_; have hq := HP.out; omega, HL'.out, HALL.out⟩
          case measure => have hq := HP.out; have hjn' : j < n := hjn; clear HALL HL'; simp only [intOf]; omega
    · obtain rfl : j = n := Nat.le_antisymm hj (Nat.not_lt.1 hjn)
      have hjI : ¬ ((j * 16 : Nat) : Int) < ((t.size : Nat) : Int) := by omega
      have hjN : ¬ (j * 16 < t.size) := by omega
      clear hn
      go_wp2
      go_ret2
      exact ⟨hB, Or.inl ⟨l, _, by rw [HD.out.1]; exact hl, rfl, by rw [hll]; exact own_base hown (by omega)⟩⟩
end Go.Proofs.YtkmehjikllilaaaDoor
