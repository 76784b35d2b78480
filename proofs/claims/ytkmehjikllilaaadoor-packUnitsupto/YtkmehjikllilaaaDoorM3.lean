import Derived.Test.YtkmehjikllilaaaDoorM2
import Derived.Deep.RegionWith
import Derived.Test.YtkmehjikllilaaaDoorA2
import Derived.Test.YtkmehjikllilaaaDoorR4

-- elf: the table whose entries have another size: contract.
namespace Go.Proofs.YtkmehjikllilaaaDoor
open Go.ChangeShapes Go.WideShapes Go.ChangeAt Go.RowKit
set_option linter.unusedVariables false
set_option maxRecDepth 100000
set_option maxHeartbeats 1000000 in
theorem find_55 (b : ByteArray) (w : World) (hM : Magic w) (hm : b.size ≤ maxLen) (h0 h1 h2 h3 h6 h7 : Int) (so L q : Nat) (fc : Array Value) (f14 : fc[14]? = some (.int .u64 L)) (hso : so ≠ 0) (hL : 0 < L ∧ L ≤ 64) (hq : q < 65536) (hqL : q ≠ L)
    (hI : ∀ w : World, Magic w → Calls Tryd.prog 39 #[.string b] w fun r w' => ∃ k, r = .returned (.pointer (some ⟨k, 0, none⟩)) ∧ Below w.heap.size w w' ∧ w'.heap[k]? = some (.cells fc 102 (0, 0)))
    (hH : ∀ (w : World) (k : Nat), w.heap[k]? = some (.cells fc 102 (0, 0)) → Calls Tryd.prog 50 #[.pointer (some ⟨k, 0, none⟩)] w fun r w' => r = .returned (.agg #[.int .i64 h0, .int .i64 h1, .int .i64 h2, .int .i64 h3, .int .u64 (so : Int), .int .i64 (q : Int), .int .i64 h6, .int .i64 h7]) ∧ Below w.heap.size w w') :
    Calls Tryd.prog 41 #[.string b] w fun r w' => r = .panicked (gives 55) ∧ Below w.heap.size w w' := by
  have HI := Hid.mk' hI
  have HH := Hid.mk' hH
  have hs0 : ((so : Int) == 0) = false := beq_eq_false_iff_ne.2 (by omega)
  have hM1 : Magic (w.alloc (.cells #[.pointer none, .string ⟨#[]⟩, .int .i64 0, .int .i64 0] 104)) := hM.kept (Below.alloc (Below.refl _ _) (Nat.le_refl _) _)
  clear hI hH
  go_enter Tryd.func41, Tryd.ntmps41
  go_wp2_with (first
    | (go_at_call 39; refine (HI.out _ hM1).mono ?_; rintro r w1 ⟨k, rfl, hb1, hF⟩)
    | (go_at_call 50; refine (HH.out _ _ hF).mono ?_; rintro r w2 ⟨rfl, hb2⟩))
  have hk : k < w1.heap.size := (Array.getElem?_eq_some_iff.1 hF).1
  have hk2 : k < w2.heap.size := Nat.lt_of_lt_of_le hk hb2.size
  have hF2 : w2.heap[k]? = some (.cells fc 102 (0, 0)) := (hb2.block k hk).trans hF
  have hFW : ((w2.alloc (.cells #[.int .i64 h0, .int .i64 h1, .int .i64 h2, .int .i64 h3, .int .u64 (so : Int), .int .i64 (q : Int), .int .i64 h6, .int .i64 h7] 56)).alloc (.cells #[.pointer (some ⟨k, 0, none⟩), .string ⟨#[]⟩, .int .i64 0, .int .i64 h7] 104)).heap[k]? = some (.cells fc 102 (0, 0)) := (Below.heap_alloc _ _ k (by rw [size_alloc]; omega)).trans ((Below.heap_alloc w2 _ k hk2).trans hF2)
  have hRh : ((w2.alloc (.cells #[.int .i64 h0, .int .i64 h1, .int .i64 h2, .int .i64 h3, .int .u64 (so : Int), .int .i64 (q : Int), .int .i64 h6, .int .i64 h7] 56)).alloc (.cells #[.pointer (some ⟨k, 0, none⟩), .string ⟨#[]⟩, .int .i64 0, .int .i64 h7] 104)).heap[w2.heap.size]? = some (.cells #[.int .i64 h0, .int .i64 h1, .int .i64 h2, .int .i64 h3, .int .u64 (so : Int), .int .i64 (q : Int), .int .i64 h6, .int .i64 h7] 56 (0, 0)) := heap_alloc2_old w2 _ _
  have hRt : ((w2.alloc (.cells #[.int .i64 h0, .int .i64 h1, .int .i64 h2, .int .i64 h3, .int .u64 (so : Int), .int .i64 (q : Int), .int .i64 h6, .int .i64 h7] 56)).alloc (.cells #[.pointer (some ⟨k, 0, none⟩), .string ⟨#[]⟩, .int .i64 0, .int .i64 h7] 104)).heap[w2.heap.size + 1]? = some (.cells #[.pointer (some ⟨k, 0, none⟩), .string ⟨#[]⟩, .int .i64 0, .int .i64 h7] 104 (0, 0)) := heap_alloc2_new w2 _ _
  have c5 : ((w2.alloc (.cells #[.int .i64 h0, .int .i64 h1, .int .i64 h2, .int .i64 h3, .int .u64 (so : Int), .int .i64 (q : Int), .int .i64 h6, .int .i64 h7] 56)).alloc (.cells #[.pointer (some ⟨k, 0, none⟩), .string ⟨#[]⟩, .int .i64 0, .int .i64 h7] 104)).cell? ⟨w2.heap.size, 5, none⟩ = some (.int .i64 (q : Int)) := cell_of_row _ _ 5 _ _ _ hRh
  have c14 : ((w2.alloc (.cells #[.int .i64 h0, .int .i64 h1, .int .i64 h2, .int .i64 h3, .int .u64 (so : Int), .int .i64 (q : Int), .int .i64 h6, .int .i64 h7] 56)).alloc (.cells #[.pointer (some ⟨k, 0, none⟩), .string ⟨#[]⟩, .int .i64 0, .int .i64 h7] 104)).cell? ⟨k, 14, none⟩ = some (.int .u64 L) := (cell_of_row _ _ _ _ _ _ hFW).trans f14
  have hwq : IntKind.u64.wrap (q : Int) = (q : Int) := by rw [IntKind.wrap_u64]; omega
  have hqL2 : ((q : Int) == (L : Int)) = false := beq_eq_false_iff_ne.2 (by omega)
  have hB2 : Below w.heap.size w ((w2.alloc (.cells #[.int .i64 h0, .int .i64 h1, .int .i64 h2, .int .i64 h3, .int .u64 (so : Int), .int .i64 (q : Int), .int .i64 h6, .int .i64 h7] 56)).alloc (.cells #[.pointer (some ⟨k, 0, none⟩), .string ⟨#[]⟩, .int .i64 0, .int .i64 h7] 104)) := by
    have hb := Below.alloc (Below.refl w.heap.size w) (Nat.le_refl _) (.cells #[.pointer none, .string ⟨#[]⟩, .int .i64 0, .int .i64 0] 104)
    have hs1 := hb1.size
    rw [size_alloc] at hs1
    have hb' : Below w.heap.size w w2 := (hb.trans (hb1.mono (by rw [size_alloc]; exact Nat.le_succ _))).trans (hb2.mono (by omega))
    exact Below.alloc (Below.alloc hb' hb'.size _) (by rw [size_alloc]; have := hb'.size; omega) _
  have hR0 : ((w2.alloc (.cells #[.int .i64 h0, .int .i64 h1, .int .i64 h2, .int .i64 h3, .int .u64 (so : Int), .int .i64 (q : Int), .int .i64 h6, .int .i64 h7] 56)).alloc (.cells #[.pointer (some ⟨k, 0, none⟩), .string ⟨#[]⟩, .int .i64 0, .int .i64 h7] 104)).heap[w.heap.size]? = some (.cells #[.pointer none, .string ⟨#[]⟩, .int .i64 0, .int .i64 0] 104 (0, 0)) := by
    have hs1 := hb1.size
    rw [size_alloc] at hs1
    have hs2 := hb2.size
    refine (Below.heap_alloc _ _ _ (by rw [size_alloc]; omega)).trans ((Below.heap_alloc w2 _ _ (by omega)).trans ((hb2.block _ (by omega)).trans ((hb1.block _ (by rw [size_alloc]; omega)).trans (heap_alloc_new w _))))
  have hSZ : ((w2.alloc (.cells #[.int .i64 h0, .int .i64 h1, .int .i64 h2, .int .i64 h3, .int .u64 (so : Int), .int .i64 (q : Int), .int .i64 h6, .int .i64 h7] 56)).alloc (.cells #[.pointer (some ⟨k, 0, none⟩), .string ⟨#[]⟩, .int .i64 0, .int .i64 h7] 104)).heap.size = w2.heap.size + 2 := by rw [size_alloc, size_alloc]
  have hkw : k ≠ w.heap.size := by
    intro e
    rw [e, (hb1.block w.heap.size (by rw [size_alloc]; omega)).trans (heap_alloc_new w _)] at hF
    cases hF
  have hwlt : w.heap.size < w2.heap.size := by
    have hs1 := hb1.size
    rw [size_alloc] at hs1
    have hs2 := hb2.size
    omega
  clear hF hb1 hb2 hM hM1 HI HH hk hF2
  generalize ((w2.alloc (.cells #[.int .i64 h0, .int .i64 h1, .int .i64 h2, .int .i64 h3, .int .u64 (so : Int), .int .i64 (q : Int), .int .i64 h6, .int .i64 h7] 56)).alloc (.cells #[.pointer (some ⟨k, 0, none⟩), .string ⟨#[]⟩, .int .i64 0, .int .i64 h7] 104)) = W at hFW hRh hRt c5 c14 hB2 hR0 hSZ ⊢
  have HR : Hid (∀ wx (t : Bool), t = false → Below w.heap.size w wx → Calls Tryd.prog 47 #[.bool t, .int .i64 55] wx fun r w' => (r = .panicked (gives 55) ∧ Below w.heap.size w w') ∨ (Hid False ∧ r = .returned (.tuple #[]) ∧ w' = wx)) := fun wx t ht hb => (require_no t 55 wx ht).mono fun r w' ⟨h1, h2⟩ => Or.inl ⟨h1, by rw [h2]; exact hb⟩
  go_region_with (go_at_call 47; refine (HR.out _ _ (by first | exact hqL2 | rfl) (by first | exact hB2 | exact hB2.drew | exact below_drewN hB2 _)).mono ?_; rintro r w4 (⟨rfl, hS'⟩ | ⟨hF, rfl, hw4⟩); · exact ⟨rfl, rfl, hS'⟩
                  subst w4)
  all_goals exact hF.out.elim
end Go.Proofs.YtkmehjikllilaaaDoor

-- The document's Sections: its short ways.
namespace Go.Proofs.YtkmehjikllilaaaDoor
open Go.ChangeShapes Go.WideShapes Go.ChangeAt Go.RowKit
set_option linter.unusedVariables false
set_option maxRecDepth 100000
theorem wi_ok (L p n : Nat) (w : World) (hp : p ≤ L) (hn : n ≤ L - p) (hm : L ≤ maxLen) :
    Calls Tryd.prog 26 #[.int .i64 L, .int .u64 p, .int .u64 n] w fun r w' => r = .returned (.bool true) ∧ w' = w := by
  unfold maxLen at hm
  have h1 : (p : Int) ≤ L := by omega
  have h2 : (n : Int) ≤ L - p := by omega
  go_enter Tryd.func26, Tryd.ntmps26
  go_wp2
  go_ret
  exact ⟨by simp, rfl⟩
theorem wi_no (L p n : Nat) (w : World) (hp : p < 18446744073709551616) (hn : n < 18446744073709551616) (h : ¬ (p ≤ L ∧ n ≤ L - p)) (hm : L ≤ maxLen) :
    Calls Tryd.prog 26 #[.int .i64 L, .int .u64 p, .int .u64 n] w fun r w' => r = .returned (.bool false) ∧ w' = w := by
  unfold maxLen at hm
  by_cases h1 : p ≤ L
  · have h2 : L - p < n := by omega
    have h3 : ¬ (n : Int) ≤ L - p := by omega
    have h1' : (p : Int) ≤ L := by omega
    go_enter Tryd.func26, Tryd.ntmps26
    go_wp2
    go_ret
    exact ⟨by simp, rfl⟩
  · have h1' : ¬ (p : Int) ≤ L := by omega
    go_enter Tryd.func26, Tryd.ntmps26
    go_wp2
    go_ret
    exact ⟨by simp, rfl⟩
theorem rSecs_no (b : ByteArray) (e : Int) (x0 x1 x2 x3 x4 x5 x6 x7 : Int) (w : World) (he : (e != 0) = true)
    (hH : ∀ w : World, Calls Tryd.prog 18 #[.string b] w fun r w' => r = .returned (.tuple #[.agg #[.int .i64 x0, .int .i64 x1, .int .i64 x2, .int .i64 x3, .int .u64 x4, .int .i64 x5, .int .i64 x6, .int .i64 x7], .int .i64 e]) ∧ Below w.heap.size w w') :
    Calls Tryd.prog 17 #[.string b] w fun r w' => r = .returned (.tuple #[.slice none 0 0, .int .i64 e]) ∧ Below w.heap.size w w' := by
  have HH := Hid.mk' hH
  clear hH
  go_enter Tryd.func17, Tryd.ntmps17
  go_wp2_with (first
    | (go_at_call 18; refine (HH.out _).mono ?_; rintro r w1 ⟨rfl, hb1⟩))
  go_ret2
  exact ⟨rfl, Below.alloc hb1 hb1.size _⟩
theorem rSecs_zero (b : ByteArray) (x0 x1 x2 x3 x5 x6 x7 : Int) (w : World)
    (hH : ∀ w : World, Calls Tryd.prog 18 #[.string b] w fun r w' => r = .returned (.tuple #[.agg #[.int .i64 x0, .int .i64 x1, .int .i64 x2, .int .i64 x3, .int .u64 0, .int .i64 x5, .int .i64 x6, .int .i64 x7], .int .i64 0]) ∧ Below w.heap.size w w') :
    Calls Tryd.prog 17 #[.string b] w fun r w' => r = .returned (.tuple #[.slice none 0 0, .int .i64 0]) ∧ Below w.heap.size w w' := by
  have HH := Hid.mk' hH
  clear hH
  go_enter Tryd.func17, Tryd.ntmps17
  go_wp2_with (first
    | (go_at_call 18; refine (HH.out _).mono ?_; rintro r w1 ⟨rfl, hb1⟩))
  go_ret2
  exact ⟨rfl, Below.alloc hb1 hb1.size _⟩
theorem rSecs_55 (b : ByteArray) (cc o h2 h3 h7 : Int) (so L q h6 : Nat) (w : World) (hso : so ≠ 0) (hne : q ≠ L)
    (hH : ∀ w : World, Calls Tryd.prog 18 #[.string b] w fun r w' => r = .returned (.tuple #[.agg #[.int .i64 cc, .int .i64 o, .int .i64 h2, .int .i64 h3, .int .u64 (so : Int), .int .i64 (q : Int), .int .i64 (h6 : Int), .int .i64 h7], .int .i64 0]) ∧ Below w.heap.size w w')
    (hP : ∀ w : World, Calls Tryd.prog 25 #[.int .i64 cc, .int .i64 40, .int .i64 64] w fun r w' => r = .returned (.int .i64 (L : Int)) ∧ w' = w) :
    Calls Tryd.prog 17 #[.string b] w fun r w' => r = .returned (.tuple #[.slice none 0 0, .int .i64 55]) ∧ Below w.heap.size w w' := by
  have HH := Hid.mk' hH
  have HP := Hid.mk' hP
  have hs0 : ((so : Int) == 0) = false := beq_eq_false_iff_ne.2 (by omega)
  have hqL : ((q : Int) != (L : Int)) = true := bne_iff_ne.2 (by omega)
  clear hH hP
  go_enter Tryd.func17, Tryd.ntmps17
  go_wp2_with (first
    | (go_at_call 18; refine (HH.out _).mono ?_; rintro r w1 ⟨rfl, hb1⟩)
    | (go_at_call 25; refine (HP.out _).mono ?_; rintro r w2 ⟨rfl, hw2⟩; subst w2))
  go_ret2
  exact ⟨rfl, Below.alloc hb1 hb1.size _⟩
theorem rSecs_54a (b : ByteArray) (cc o h2 h3 h7 : Int) (so L : Nat) (w : World) (hso : so ≠ 0) (hL : 0 < L ∧ L ≤ 64)
    (hH : ∀ w : World, Calls Tryd.prog 18 #[.string b] w fun r w' => r = .returned (.tuple #[.agg #[.int .i64 cc, .int .i64 o, .int .i64 h2, .int .i64 h3, .int .u64 (so : Int), .int .i64 (L : Int), .int .i64 0, .int .i64 h7], .int .i64 0]) ∧ Below w.heap.size w w')
    (hP : ∀ w : World, Calls Tryd.prog 25 #[.int .i64 cc, .int .i64 40, .int .i64 64] w fun r w' => r = .returned (.int .i64 (L : Int)) ∧ w' = w)
    (hW : ∀ w : World, Calls Tryd.prog 26 #[.int .i64 b.size, .int .u64 (so : Int), .int .u64 (L : Int)] w fun r w' => r = .returned (.bool false) ∧ w' = w) :
    Calls Tryd.prog 17 #[.string b] w fun r w' => r = .returned (.tuple #[.slice none 0 0, .int .i64 54]) ∧ Below w.heap.size w w' := by
  have HH := Hid.mk' hH
  have HP := Hid.mk' hP
  have hs0 : ((so : Int) == 0) = false := beq_eq_false_iff_ne.2 (by omega)
  have HW := Hid.mk' hW
  have hLL : ((L : Int) != (L : Int)) = false := bne_self_eq_false _
  have hLne : ¬ (L : Int) = 0 := by omega
  have hwL : IntKind.u64.wrap (L : Int) = (L : Int) := by rw [IntKind.wrap_u64]; omega
  clear hH hP hW
  go_enter Tryd.func17, Tryd.ntmps17
  go_wp2_with (first
    | (go_at_call 18; refine (HH.out _).mono ?_; rintro r w1 ⟨rfl, hb1⟩)
    | (go_at_call 25; refine (HP.out _).mono ?_; rintro r w2 ⟨rfl, hw2⟩; subst w2)
    | (go_at_call 26; refine (HW.out _).mono ?_; rintro r w2 ⟨rfl, hw2⟩; subst w2))
  go_ret2
  exact ⟨rfl, Below.alloc hb1 hb1.size _⟩
set_option maxHeartbeats 1000000 in
theorem rSecs_e0 (b : ByteArray) (cc o h2 h3 h7 y0 y1 y2 y3 y4 y5 y7 : Int) (so L : Nat) (w : World) (hm : b.size ≤ maxLen) (hin : so + L ≤ b.size) (hso : so ≠ 0) (hL : 0 < L ∧ L ≤ 64)
    (hH : ∀ w : World, Calls Tryd.prog 18 #[.string b] w fun r w' => r = .returned (.tuple #[.agg #[.int .i64 cc, .int .i64 o, .int .i64 h2, .int .i64 h3, .int .u64 (so : Int), .int .i64 (L : Int), .int .i64 0, .int .i64 h7], .int .i64 0]) ∧ Below w.heap.size w w')
    (hP : ∀ w : World, Calls Tryd.prog 25 #[.int .i64 cc, .int .i64 40, .int .i64 64] w fun r w' => r = .returned (.int .i64 (L : Int)) ∧ w' = w)
    (hW : ∀ w : World, Calls Tryd.prog 26 #[.int .i64 b.size, .int .u64 (so : Int), .int .u64 (L : Int)] w fun r w' => r = .returned (.bool true) ∧ w' = w)
    (hE : ∀ w : World, Calls Tryd.prog 27 #[.string b, .int .i64 (so : Int), .agg #[.int .i64 cc, .int .i64 o, .int .i64 h2, .int .i64 h3, .int .u64 (so : Int), .int .i64 (L : Int), .int .i64 0, .int .i64 h7]] w fun r w' => r = .returned (.agg #[.int .i64 y0, .int .i64 y1, .int .u64 y2, .int .i64 y3, .int .i64 y4, .int .u64 y5, .int .u64 0, .int .u64 y7]) ∧ Below w.heap.size w w') :
    Calls Tryd.prog 17 #[.string b] w fun r w' => r = .returned (.tuple #[.slice none 0 0, .int .i64 0]) ∧ Below w.heap.size w w' := by
  have HH := Hid.mk' hH
  have HP := Hid.mk' hP
  have hs0 : ((so : Int) == 0) = false := beq_eq_false_iff_ne.2 (by omega)
  have HW := Hid.mk' hW
  have HE := Hid.mk' hE
  have hLL : ((L : Int) != (L : Int)) = false := bne_self_eq_false _
  have hLne : ¬ (L : Int) = 0 := by omega
  have hwL : IntKind.u64.wrap (L : Int) = (L : Int) := by rw [IntKind.wrap_u64]; omega
  have hm2 : (b.size : Int) ≤ 9223372036854775807 := by unfold maxLen at hm; omega
  have hws : IntKind.i64.wrap (so : Int) = (so : Int) := by rw [IntKind.wrap_i64]; omega
  have hws2 : wrap64 (so : Int) = (so : Int) := by have h := hws; rw [IntKind.wrap_i64] at h; unfold wrap64; exact h
  clear hH hP hW hE
  go_enter Tryd.func17, Tryd.ntmps17
  go_wp2_with (first
    | (go_at_call 18; refine (HH.out _).mono ?_; rintro r w1 ⟨rfl, hb1⟩)
    | (go_at_call 25; refine (HP.out _).mono ?_; rintro r w2 ⟨rfl, hw2⟩; subst w2)
    | (go_at_call 26; refine (HW.out _).mono ?_; rintro r w2 ⟨rfl, hw2⟩; subst w2)
    | (refine wpList_load_row rfl _ _ rfl w1.heap.size rfl _ _ _ _ (heap_alloc_new w1 _) Tryd.underlying56 rfl (by kernel_rfl) ?_)
    | (go_at_call 27; refine (HE.out _).mono ?_; rintro r w3 ⟨rfl, hb3⟩; have hq4 : w3.cell? ⟨w1.heap.size, 4, none⟩ = some (.int .u64 (so : Int)) := (hb3.cell (by rw [size_alloc]; exact Nat.lt_succ_self _)).trans (cell_of_row _ _ 4 _ _ _ (heap_alloc_new w1 _)); have hlt3 : w1.heap.size < w3.heap.size := Nat.lt_of_lt_of_le (by rw [size_alloc]; exact Nat.lt_succ_self _) hb3.size; have hq5 : (w3.alloc (.cells #[.int .i64 y0, .int .i64 y1, .int .u64 y2, .int .i64 y3, .int .i64 y4, .int .u64 y5, .int .u64 0, .int .u64 y7] 60)).cell? ⟨w1.heap.size, 4, none⟩ = some (.int .u64 (so : Int)) := (World.cell?_alloc_past _ _ _ hlt3).trans hq4))
  go_ret2
  exact ⟨rfl, (Below.alloc hb1 hb1.size _).trans ((Below.alloc hb3 hb3.size _).mono (by rw [size_alloc]; have := hb1.size; omega))⟩
set_option maxHeartbeats 1000000 in
theorem rSecs_54c (b : ByteArray) (cc o h2 h3 h7 y0 y1 y2 y3 y4 y5 y7 : Int) (so L n dq : Nat) (w : World) (hm : b.size ≤ maxLen) (hin : so + L ≤ b.size) (hso : so ≠ 0) (hL : 0 < L ∧ L ≤ 64) (hn0 : n ≠ 0) (hdq : (b.size - so) / L = dq) (hn : dq < n)
    (hH : ∀ w : World, Calls Tryd.prog 18 #[.string b] w fun r w' => r = .returned (.tuple #[.agg #[.int .i64 cc, .int .i64 o, .int .i64 h2, .int .i64 h3, .int .u64 (so : Int), .int .i64 (L : Int), .int .i64 0, .int .i64 h7], .int .i64 0]) ∧ Below w.heap.size w w')
    (hP : ∀ w : World, Calls Tryd.prog 25 #[.int .i64 cc, .int .i64 40, .int .i64 64] w fun r w' => r = .returned (.int .i64 (L : Int)) ∧ w' = w)
    (hW : ∀ w : World, Calls Tryd.prog 26 #[.int .i64 b.size, .int .u64 (so : Int), .int .u64 (L : Int)] w fun r w' => r = .returned (.bool true) ∧ w' = w)
    (hW0 : ∀ w : World, Calls Tryd.prog 26 #[.int .i64 b.size, .int .u64 (so : Int), .int .u64 0] w fun r w' => r = .returned (.bool true) ∧ w' = w)
    (hE : ∀ w : World, Calls Tryd.prog 27 #[.string b, .int .i64 (so : Int), .agg #[.int .i64 cc, .int .i64 o, .int .i64 h2, .int .i64 h3, .int .u64 (so : Int), .int .i64 (L : Int), .int .i64 0, .int .i64 h7]] w fun r w' => r = .returned (.agg #[.int .i64 y0, .int .i64 y1, .int .u64 y2, .int .i64 y3, .int .i64 y4, .int .u64 y5, .int .u64 (n : Int), .int .u64 y7]) ∧ Below w.heap.size w w') :
    Calls Tryd.prog 17 #[.string b] w fun r w' => r = .returned (.tuple #[.slice none 0 0, .int .i64 54]) ∧ Below w.heap.size w w' := by
  have HH := Hid.mk' hH
  have HP := Hid.mk' hP
  have hs0 : ((so : Int) == 0) = false := beq_eq_false_iff_ne.2 (by omega)
  have HW := Hid.mk' hW
  have HE := Hid.mk' hE
  have HW0 := Hid.mk' hW0
  have hLL : ((L : Int) != (L : Int)) = false := bne_self_eq_false _
  have hLne : ¬ (L : Int) = 0 := by omega
  have hwL : IntKind.u64.wrap (L : Int) = (L : Int) := by rw [IntKind.wrap_u64]; omega
  have hm2 : (b.size : Int) ≤ 9223372036854775807 := by unfold maxLen at hm; omega
  have hws : IntKind.i64.wrap (so : Int) = (so : Int) := by rw [IntKind.wrap_i64]; omega
  have hws2 : wrap64 (so : Int) = (so : Int) := by have h := hws; rw [IntKind.wrap_i64] at h; unfold wrap64; exact h
  have hn0' : ((n : Int) == 0) = false := beq_eq_false_iff_ne.2 (by omega)
  have hq : IntKind.u64.wrap ((b.size : Int) - (so : Int)) = (((b.size - so : Nat)) : Int) := by rw [IntKind.wrap_u64]; omega
  have hdl : dq ≤ b.size := by rw [← hdq]; exact Nat.le_trans (Nat.div_le_self _ _) (Nat.sub_le _ _)
  have hq2 : IntKind.u64.wrap ((((b.size - so : Nat)) : Int) / (L : Int)) = (dq : Int) := by
    rw [← Int.natCast_ediv, hdq, IntKind.wrap_u64]
    clear hq hin
    omega
  have hgt : (dq : Int) < (n : Int) := Int.ofNat_lt.2 hn
  clear hdq hdl
  clear hH hP hW hE hW0
  go_enter Tryd.func17, Tryd.ntmps17
  go_wp2_with (first
    | (go_at_call 18; refine (HH.out _).mono ?_; rintro r w1 ⟨rfl, hb1⟩)
    | (go_at_call 25; refine (HP.out _).mono ?_; rintro r w2 ⟨rfl, hw2⟩; subst w2)
    | (go_at_call 26; refine (HW.out _).mono ?_; rintro r w2 ⟨rfl, hw2⟩; subst w2)
    | (refine wpList_load_row rfl _ _ rfl w1.heap.size rfl _ _ _ _ (heap_alloc_new w1 _) Tryd.underlying56 rfl (by kernel_rfl) ?_))
  go_at_call 27
  refine (HE.out _).mono ?_
  rintro r w3 ⟨rfl, hb3⟩
  have hq4 : w3.cell? ⟨w1.heap.size, 4, none⟩ = some (.int .u64 (so : Int)) := (hb3.cell (by rw [size_alloc]; exact Nat.lt_succ_self _)).trans (cell_of_row _ _ 4 _ _ _ (heap_alloc_new w1 _))
  have hlt3 : w1.heap.size < w3.heap.size := Nat.lt_of_lt_of_le (by rw [size_alloc]; exact Nat.lt_succ_self _) hb3.size
  have hq5 : (w3.alloc (.cells #[.int .i64 y0, .int .i64 y1, .int .u64 y2, .int .i64 y3, .int .i64 y4, .int .u64 y5, .int .u64 (n : Int), .int .u64 y7] 60)).cell? ⟨w1.heap.size, 4, none⟩ = some (.int .u64 (so : Int)) := (World.cell?_alloc_past _ _ _ hlt3).trans hq4
  clear hq4 HW HE HH HP
  go_wp2_with (first | (go_at_call 26; refine (HW0.out _).mono ?_; rintro r w2 ⟨rfl, hw2⟩; subst w2))
  go_ret2
  exact ⟨rfl, (Below.alloc hb1 hb1.size _).trans ((Below.alloc hb3 hb3.size _).mono (by rw [size_alloc]; have := hb1.size; omega))⟩
set_option maxHeartbeats 1000000 in
theorem rSecs_54b (b : ByteArray) (cc o h2 h3 h7 : Int) (so L h6 : Nat) (w : World) (hm : b.size ≤ maxLen) (hso : so ≠ 0) (h60 : h6 ≠ 0) (h6b : h6 < 65536) (hL : 0 < L ∧ L ≤ 64)
    (hH : ∀ w : World, Calls Tryd.prog 18 #[.string b] w fun r w' => r = .returned (.tuple #[.agg #[.int .i64 cc, .int .i64 o, .int .i64 h2, .int .i64 h3, .int .u64 (so : Int), .int .i64 (L : Int), .int .i64 (h6 : Int), .int .i64 h7], .int .i64 0]) ∧ Below w.heap.size w w')
    (hP : ∀ w : World, Calls Tryd.prog 25 #[.int .i64 cc, .int .i64 40, .int .i64 64] w fun r w' => r = .returned (.int .i64 (L : Int)) ∧ w' = w)
    (hW : ∀ w : World, Calls Tryd.prog 26 #[.int .i64 b.size, .int .u64 (so : Int), .int .u64 0] w fun r w' => r = .returned (.bool false) ∧ w' = w) :
    Calls Tryd.prog 17 #[.string b] w fun r w' => r = .returned (.tuple #[.slice none 0 0, .int .i64 54]) ∧ Below w.heap.size w w' := by
  have HH := Hid.mk' hH
  have HP := Hid.mk' hP
  have hs0 : ((so : Int) == 0) = false := beq_eq_false_iff_ne.2 (by omega)
  have HW := Hid.mk' hW
  have hLL : ((L : Int) != (L : Int)) = false := bne_self_eq_false _
  have hLne : ¬ (L : Int) = 0 := by omega
  have hwL : IntKind.u64.wrap (L : Int) = (L : Int) := by rw [IntKind.wrap_u64]; omega
  have hn0 : ((h6 : Int) == 0) = false := beq_eq_false_iff_ne.2 (by omega)
  have hw6 : IntKind.u64.wrap (h6 : Int) = (h6 : Int) := by rw [IntKind.wrap_u64]; omega
  clear hH hP hW
  go_enter Tryd.func17, Tryd.ntmps17
  go_wp2_with (first
    | (go_at_call 18; refine (HH.out _).mono ?_; rintro r w1 ⟨rfl, hb1⟩)
    | (go_at_call 25; refine (HP.out _).mono ?_; rintro r w2 ⟨rfl, hw2⟩; subst w2)
    | (go_at_call 26; refine (HW.out _).mono ?_; rintro r w2 ⟨rfl, hw2⟩; subst w2))
  go_ret2
  exact ⟨rfl, Below.alloc hb1 hb1.size _⟩
set_option maxHeartbeats 1000000 in
theorem rSecs_54d (b : ByteArray) (cc o h2 h3 h7 : Int) (so L h6 dq : Nat) (w : World) (hm : b.size ≤ maxLen) (hso : so ≠ 0) (h60 : h6 ≠ 0) (h6b : h6 < 65536) (hL : 0 < L ∧ L ≤ 64) (hin : so ≤ b.size) (hdq : (b.size - so) / L = dq) (hn : dq < h6)
    (hH : ∀ w : World, Calls Tryd.prog 18 #[.string b] w fun r w' => r = .returned (.tuple #[.agg #[.int .i64 cc, .int .i64 o, .int .i64 h2, .int .i64 h3, .int .u64 (so : Int), .int .i64 (L : Int), .int .i64 (h6 : Int), .int .i64 h7], .int .i64 0]) ∧ Below w.heap.size w w')
    (hP : ∀ w : World, Calls Tryd.prog 25 #[.int .i64 cc, .int .i64 40, .int .i64 64] w fun r w' => r = .returned (.int .i64 (L : Int)) ∧ w' = w)
    (hW : ∀ w : World, Calls Tryd.prog 26 #[.int .i64 b.size, .int .u64 (so : Int), .int .u64 0] w fun r w' => r = .returned (.bool true) ∧ w' = w) :
    Calls Tryd.prog 17 #[.string b] w fun r w' => r = .returned (.tuple #[.slice none 0 0, .int .i64 54]) ∧ Below w.heap.size w w' := by
  have HH := Hid.mk' hH
  have HP := Hid.mk' hP
  have hs0 : ((so : Int) == 0) = false := beq_eq_false_iff_ne.2 (by omega)
  have HW := Hid.mk' hW
  have hLL : ((L : Int) != (L : Int)) = false := bne_self_eq_false _
  have hLne : ¬ (L : Int) = 0 := by omega
  have hwL : IntKind.u64.wrap (L : Int) = (L : Int) := by rw [IntKind.wrap_u64]; omega
  have hn0 : ((h6 : Int) == 0) = false := beq_eq_false_iff_ne.2 (by omega)
  have hw6 : IntKind.u64.wrap (h6 : Int) = (h6 : Int) := by rw [IntKind.wrap_u64]; omega
  have hm2 : (b.size : Int) ≤ 9223372036854775807 := by unfold maxLen at hm; omega
  have hq : IntKind.u64.wrap ((b.size : Int) - (so : Int)) = (((b.size - so : Nat)) : Int) := by rw [IntKind.wrap_u64]; omega
  have hdl : dq ≤ b.size := by rw [← hdq]; exact Nat.le_trans (Nat.div_le_self _ _) (Nat.sub_le _ _)
  have hq2 : IntKind.u64.wrap ((((b.size - so : Nat)) : Int) / (L : Int)) = (dq : Int) := by
    rw [← Int.natCast_ediv, hdq, IntKind.wrap_u64]
    clear hq hin
    omega
  have hgt : (dq : Int) < (h6 : Int) := Int.ofNat_lt.2 hn
  clear hdq hdl hH hP hW
  go_enter Tryd.func17, Tryd.ntmps17
  go_wp2_with (first
    | (go_at_call 18; refine (HH.out _).mono ?_; rintro r w1 ⟨rfl, hb1⟩)
    | (go_at_call 25; refine (HP.out _).mono ?_; rintro r w2 ⟨rfl, hw2⟩; subst w2)
    | (go_at_call 26; refine (HW.out _).mono ?_; rintro r w2 ⟨rfl, hw2⟩; subst w2))
  go_ret2
  exact ⟨rfl, Below.alloc hb1 hb1.size _⟩
end Go.Proofs.YtkmehjikllilaaaDoor
