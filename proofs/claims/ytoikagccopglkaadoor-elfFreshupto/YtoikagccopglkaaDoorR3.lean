
-- The document's Header: contracts.
import Derived.Test.YtoikagccopglkaaDoorR2
import Derived.Laws.ResultCell
namespace Go.Proofs.YtoikagccopglkaaDoor
open Go.ChangeShapes Go.WideShapes Go.ChangeAt Go.RowKit
set_option linter.unusedVariables false
set_option maxRecDepth 100000
theorem results_cell_tmp_row {P : Program} {fn : Func} {p u : Tmp} {ty : TypeId} (h : fn.results = #[.cell p ty, .tmp u]) (tmps : Array Value) (w : World) (g : Nat) (t : TypeId) (cs : Array Value) (fr : Nat × Nat) (d : TypeDesc)
    (hp : tmps.getD p undef = .pointer (some ⟨g, 0, none⟩)) (hg : w.heap[g]? = some (.cells cs t fr))
    (hu : P.underlying ty = some d) (hd : (match d with | .struct _ | .array _ _ => true | _ => false) = true) (hi : (P.info? ty).map (·.size) = some cs.size) :
    (results fn tmps).run P w = .ok (.tuple #[.agg cs, tmps.getD u undef]) w := by
  rw [results_cell_tmp h, hp]
  simp [asAddr, run_loadVar_row w g t ty cs fr d hg hu hd hi]
set_option maxHeartbeats 1000000 in
theorem rHeader_32 (b : ByteArray) (o : Int) (w : World) (hI : ∀ w, Calls Tryd.prog 24 #[.string b] w fun r w' => r = .returned (.tuple #[.int .i64 32, .int .i64 o, .int .i64 0]) ∧ w' = w) (hs : 52 ≤ b.size) (hm : b.size ≤ maxLen) (ho : o = 0 ∨ o = 1) :
    Calls Tryd.prog 14 #[.string b] w fun r w' => r = .returned (.tuple #[.agg #[.int .i64 32, .int .i64 o, .int .i64 (numI b 16 2 o), .int .i64 (numI b 18 2 o), .int .u64 (numI b 32 4 o), .int .i64 (numI b 46 2 o), .int .i64 (numI b 48 2 o), .int .i64 (numI b 50 2 o)], .int .i64 0]) ∧ Below w.heap.size w w' := by
  have HI := Hid.mk' hI
  have HS : Hid (∀ (w : World) (p n : Int), (0 ≤ p ∧ (n = 2 ∨ n = 4) ∧ p + n ≤ 52) → Calls Tryd.prog 25 #[.string b, .int .i64 p, .int .i64 n, .int .i64 o] w fun r w' => r = .returned (.int .i64 (numI b p n o)) ∧ w' = w) := by
    intro w p n hc
    obtain ⟨A, rfl⟩ := Int.eq_ofNat_of_zero_le hc.1
    obtain ⟨N, rfl⟩ := Int.eq_ofNat_of_zero_le (show 0 ≤ n by omega)
    exact rSmall_c b A N o w ho (by omega) (by omega) hm
  have HN : Hid (∀ (w : World) (p n : Int), (0 ≤ p ∧ 0 ≤ n ∧ n ≤ 8 ∧ p + n ≤ 52) → Calls Tryd.prog 26 #[.string b, .int .i64 p, .int .i64 n, .int .i64 o] w fun r w' => r = .returned (.int .u64 (numI b p n o)) ∧ w' = w) := by
    intro w p n hc
    obtain ⟨A, rfl⟩ := Int.eq_ofNat_of_zero_le hc.1
    obtain ⟨N, rfl⟩ := Int.eq_ofNat_of_zero_le hc.2.1
    exact rNumber_c b A N o w ho (by omega) (by omega) hm
  have hlt : ¬ (b.size : Int) < 52 := by omega
  clear hI hs hm ho
  go_enter Tryd.func14, Tryd.ntmps14
  go_wp2_with (first
    | (go_at_call 24; refine (HI.out _).mono ?_; rintro e w1 ⟨rfl, hw⟩; subst w1)
    | (go_at_call 25; refine (HS.out _ _ _ (by decide)).mono ?_; rintro e w1 ⟨rfl, hw⟩; subst w1)
    | (go_at_call 26; refine (HN.out _ _ _ (by decide)).mono ?_; rintro e w1 ⟨rfl, hw⟩; subst w1)
    | (go_at_call 15; refine (pick_32 _ _ _).mono ?_; rintro e w1 ⟨rfl, hw⟩; subst w1))
  exact bodyPost_ret (results_cell_tmp_row rfl _ _ w.heap.size _ _ _ _ rfl (heap_alloc2_old w _ _) Tryd.underlying42 rfl (by kernel_rfl)) rfl ⟨rfl, Below.alloc (Below.alloc (Below.refl _ _) (Nat.le_refl _) _) (by rw [size_alloc]; exact Nat.le_succ _) _⟩
set_option maxHeartbeats 1000000 in
theorem rHeader_64 (b : ByteArray) (o : Int) (w : World) (hI : ∀ w, Calls Tryd.prog 24 #[.string b] w fun r w' => r = .returned (.tuple #[.int .i64 64, .int .i64 o, .int .i64 0]) ∧ w' = w) (hs : 64 ≤ b.size) (hm : b.size ≤ maxLen) (ho : o = 0 ∨ o = 1) :
    Calls Tryd.prog 14 #[.string b] w fun r w' => r = .returned (.tuple #[.agg #[.int .i64 64, .int .i64 o, .int .i64 (numI b 16 2 o), .int .i64 (numI b 18 2 o), .int .u64 (numI b 40 8 o), .int .i64 (numI b 58 2 o), .int .i64 (numI b 60 2 o), .int .i64 (numI b 62 2 o)], .int .i64 0]) ∧ Below w.heap.size w w' := by
  have HI := Hid.mk' hI
  have HS : Hid (∀ (w : World) (p n : Int), (0 ≤ p ∧ (n = 2 ∨ n = 4) ∧ p + n ≤ 64) → Calls Tryd.prog 25 #[.string b, .int .i64 p, .int .i64 n, .int .i64 o] w fun r w' => r = .returned (.int .i64 (numI b p n o)) ∧ w' = w) := by
    intro w p n hc
    obtain ⟨A, rfl⟩ := Int.eq_ofNat_of_zero_le hc.1
    obtain ⟨N, rfl⟩ := Int.eq_ofNat_of_zero_le (show 0 ≤ n by omega)
    exact rSmall_c b A N o w ho (by omega) (by omega) hm
  have HN : Hid (∀ (w : World) (p n : Int), (0 ≤ p ∧ 0 ≤ n ∧ n ≤ 8 ∧ p + n ≤ 64) → Calls Tryd.prog 26 #[.string b, .int .i64 p, .int .i64 n, .int .i64 o] w fun r w' => r = .returned (.int .u64 (numI b p n o)) ∧ w' = w) := by
    intro w p n hc
    obtain ⟨A, rfl⟩ := Int.eq_ofNat_of_zero_le hc.1
    obtain ⟨N, rfl⟩ := Int.eq_ofNat_of_zero_le hc.2.1
    exact rNumber_c b A N o w ho (by omega) (by omega) hm
  have hlt : ¬ (b.size : Int) < 64 := by omega
  clear hI hs hm ho
  go_enter Tryd.func14, Tryd.ntmps14
  go_wp2_with (first
    | (go_at_call 24; refine (HI.out _).mono ?_; rintro e w1 ⟨rfl, hw⟩; subst w1)
    | (go_at_call 25; refine (HS.out _ _ _ (by decide)).mono ?_; rintro e w1 ⟨rfl, hw⟩; subst w1)
    | (go_at_call 26; refine (HN.out _ _ _ (by decide)).mono ?_; rintro e w1 ⟨rfl, hw⟩; subst w1)
    | (go_at_call 15; refine (pick_64 _ _ _).mono ?_; rintro e w1 ⟨rfl, hw⟩; subst w1))
  exact bodyPost_ret (results_cell_tmp_row rfl _ _ w.heap.size _ _ _ _ rfl (heap_alloc2_old w _ _) Tryd.underlying42 rfl (by kernel_rfl)) rfl ⟨rfl, Below.alloc (Below.alloc (Below.refl _ _) (Nat.le_refl _) _) (by rw [size_alloc]; exact Nat.le_succ _) _⟩

theorem rHeader_cut (b : ByteArray) (c o : Int) (L : Nat) (w : World) (hI : ∀ w, Calls Tryd.prog 24 #[.string b] w fun r w' => r = .returned (.tuple #[.int .i64 c, .int .i64 o, .int .i64 0]) ∧ w' = w)
    (hP : ∀ w, Calls Tryd.prog 15 #[.int .i64 c, .int .i64 52, .int .i64 64] w fun r w' => r = .returned (.int .i64 L) ∧ w' = w) (hs : b.size < L) :
    Calls Tryd.prog 14 #[.string b] w fun r w' => r = .returned (.tuple #[.agg #[.int .i64 0, .int .i64 0, .int .i64 0, .int .i64 0, .int .u64 0, .int .i64 0, .int .i64 0, .int .i64 0], .int .i64 54]) ∧ Below w.heap.size w w' := by
  have HI := Hid.mk' hI
  have HP := Hid.mk' hP
  have hlt : (b.size : Int) < (L : Int) := by omega
  clear hI hP hs
  go_enter Tryd.func14, Tryd.ntmps14
  go_wp2_with (first
    | (go_at_call 24; refine (HI.out _).mono ?_; rintro e w1 ⟨rfl, hw⟩; subst w1)
    | (go_at_call 15; refine (HP.out _).mono ?_; rintro e w1 ⟨rfl, hw⟩; subst w1))
  exact bodyPost_ret (results_cell_tmp_row rfl _ _ w.heap.size _ _ _ _ rfl (heap_alloc2_old w _ _) Tryd.underlying42 rfl (by kernel_rfl)) rfl ⟨rfl, Below.alloc (Below.alloc (Below.refl _ _) (Nat.le_refl _) _) (by rw [size_alloc]; exact Nat.le_succ _) _⟩
theorem rHeader_no (b : ByteArray) (c o e : Int) (w : World) (hI : ∀ w, Calls Tryd.prog 24 #[.string b] w fun r w' => r = .returned (.tuple #[.int .i64 c, .int .i64 o, .int .i64 e]) ∧ w' = w) (he : (e != 0) = true) :
    Calls Tryd.prog 14 #[.string b] w fun r w' => r = .returned (.tuple #[.agg #[.int .i64 0, .int .i64 0, .int .i64 0, .int .i64 0, .int .u64 0, .int .i64 0, .int .i64 0, .int .i64 0], .int .i64 e]) ∧ Below w.heap.size w w' := by
  have HI := Hid.mk' hI
  clear hI
  go_enter Tryd.func14, Tryd.ntmps14
  go_wp2_with (first
    | (go_at_call 24; refine (HI.out _).mono ?_; rintro e w1 ⟨rfl, hw⟩; subst w1))
  exact bodyPost_ret (results_cell_tmp_row rfl _ _ w.heap.size _ _ _ _ rfl (heap_alloc2_old w _ _) Tryd.underlying42 rfl (by kernel_rfl)) rfl ⟨rfl, Below.alloc (Below.alloc (Below.refl _ _) (Nat.le_refl _) _) (by rw [size_alloc]; exact Nat.le_succ _) _⟩
end Go.Proofs.YtoikagccopglkaaDoor
