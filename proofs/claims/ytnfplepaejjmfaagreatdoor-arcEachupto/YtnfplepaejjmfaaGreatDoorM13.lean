import Derived.Test.YtnfplepaejjmfaaGreatDoorP0
import Derived.Test.YtnfplepaejjmfaaGreatDoorB2
import Derived.Test.YtnfplepaejjmfaaGreatDoorQ3
import Derived.WalkKit
import Derived.BigQuiet
import Derived.Deep.QuietTactic
import Derived.Test.YtnfplepaejjmfaaGreatDoorP4
import Derived.Test.YtnfplepaejjmfaaGreatDoorB4

-- The document's arc: what a sort is.
namespace Go.Proofs.YtnfplepaejjmfaaGreatDoor
open Go.ChangeShapes Go.WideShapes Go.ChangeAt Go.RowKit
set_option linter.unusedVariables false
set_option maxRecDepth 100000

theorem rix_c (so : Int) (w : World) : Calls Tryz.prog 68 #[.int .i64 so] w fun e w' => e = .returned (.bool (decide (ixS so))) ∧ w' = w := by
  by_cases h1 : so = 1
  · subst h1
    go_enter Tryz.func68, Tryz.ntmps68
    go_wp2
    go_ret
    exact ⟨rfl, rfl⟩
  have c1 : (so == 1) = false := by simp [h1]
  by_cases h2 : so = 2
  · subst h2
    go_enter Tryz.func68, Tryz.ntmps68
    go_wp2
    go_ret
    exact ⟨rfl, rfl⟩
  have c2 : (so == 2) = false := by simp [h2]
  have e : decide (ixS so) = (so == 8) := by
    unfold ixS; by_cases h : so = 8 <;> simp [h, h1, h2]
  rw [e]
  clear e h1 h2
  go_enter Tryz.func68, Tryz.ntmps68
  go_wp2
  go_ret
  exact ⟨rfl, rfl⟩
theorem rbsd_c (so : Int) (w : World) : Calls Tryz.prog 92 #[.int .i64 so] w fun e w' => e = .returned (.bool (decide (kindI so = 2))) ∧ w' = w := by
  by_cases h1 : so = 6
  · subst h1
    go_enter Tryz.func92, Tryz.ntmps92
    go_wp2
    go_ret
    exact ⟨rfl, rfl⟩
  have c1 : (so == 6) = false := by simp [h1]
  by_cases h2 : so = 7
  · subst h2
    go_enter Tryz.func92, Tryz.ntmps92
    go_wp2
    go_ret
    exact ⟨rfl, rfl⟩
  have c2 : (so == 7) = false := by simp [h2]
  have e : decide (kindI so = 2) = (so == 8) := by
    unfold kindI; by_cases h : so = 8 <;> simp [h, h1, h2]
  rw [e]
  clear e h1 h2
  go_enter Tryz.func92, Tryz.ntmps92
  go_wp2
  go_ret
  exact ⟨rfl, rfl⟩
theorem rspecial_c (so : Int) (w : World) : Calls Tryz.prog 94 #[.int .i64 so] w fun e w' => e = .returned (.bool (!decide (ordS so))) ∧ w' = w := by
  have HI : Hid (∀ w, Calls Tryz.prog 68 #[.int .i64 so] w fun e w' => e = .returned (.bool (decide (ixS so))) ∧ w' = w) := fun w => rix_c so w
  by_cases h : ixS so
  · rw [decide_eq_false (fun q : ordS so => q.1 h)]
    rw [decide_eq_true h] at HI
    clear h
    go_enter Tryz.func94, Tryz.ntmps94
    go_wp2_with (go_at_call 68; refine (HI.out _).mono ?_; rintro e w1 ⟨rfl, hw1⟩; subst w1)
    go_ret
    exact ⟨rfl, rfl⟩
  · have e : (!decide (ordS so)) = (so == 3) := by unfold ordS; by_cases q : so = 3 <;> simp [q, h]
    rw [e]
    rw [decide_eq_false h] at HI
    clear h e
    go_enter Tryz.func94, Tryz.ntmps94
    go_wp2_with (go_at_call 68; refine (HI.out _).mono ?_; rintro e w1 ⟨rfl, hw1⟩; subst w1)
    go_ret
    exact ⟨rfl, rfl⟩
theorem rform_c (so : Int) (w : World) (h : ixS so) : Calls Tryz.prog 69 #[.int .i64 so] w fun e w' => e = .returned (.int .i64 (formS so)) ∧ w' = w := by
  rcases h with h | h | h
  · subst h
    go_enter Tryz.func69, Tryz.ntmps69
    go_wp2
    go_ret
    exact ⟨rfl, rfl⟩
  · subst h
    go_enter Tryz.func69, Tryz.ntmps69
    go_wp2
    go_ret
    exact ⟨rfl, rfl⟩
  · subst h
    go_enter Tryz.func69, Tryz.ntmps69
    go_wp2
    go_ret
    exact ⟨rfl, rfl⟩
end Go.Proofs.YtnfplepaejjmfaaGreatDoor

-- The document's arc: a special member out of its place.
namespace Go.Proofs.YtnfplepaejjmfaaGreatDoor
open Go.ChangeShapes Go.WideShapes Go.ChangeAt Go.RowKit
set_option linter.unusedVariables false
set_option maxRecDepth 100000

set_option maxHeartbeats 1000000 in
theorem mis_ix (kd fm sp pc pl ee : Int) (ix tb : ByteArray) (ib : Bool) (ao bo : Option Addr) (ln cp lb cb : Nat) (so : Int) (w : World) (hs : ixS so) :
    Calls Tryz.prog 93 #[.agg #[.int .i64 kd, .int .i64 fm, .string ix, .int .i64 sp, .slice ao ln cp, .slice bo lb cb, .string tb, .int .i64 pc, .bool ib, .int .i64 pl, .int .i64 ee], .int .i64 so] w fun e w' => e = .returned (.bool (pc != 0)) ∧ Below w.heap.size w w' := by
  have HI : Hid (∀ w, Calls Tryz.prog 68 #[.int .i64 so] w fun e w' => e = .returned (.bool (decide (ixS so))) ∧ w' = w) := fun w => rix_c so w
  rw [decide_eq_true hs] at HI
  clear hs
  go_enter Tryz.func93, Tryz.ntmps93
  go_wp2_with (go_at_call 68; refine (HI.out _).mono ?_; rintro e w1 ⟨rfl, hw1⟩; subst w1)
  go_ret
  exact ⟨rfl, bup (Below.refl _ _) _⟩

set_option maxHeartbeats 1000000 in
theorem mis_or (kd fm sp pc pl ee : Int) (ix tb : ByteArray) (ib : Bool) (ao bo : Option Addr) (ln cp lb cb : Nat) (so : Int) (w : World) (hs : ¬ ixS so) (ht : ¬ so = 3) :
    Calls Tryz.prog 93 #[.agg #[.int .i64 kd, .int .i64 fm, .string ix, .int .i64 sp, .slice ao ln cp, .slice bo lb cb, .string tb, .int .i64 pc, .bool ib, .int .i64 pl, .int .i64 ee], .int .i64 so] w fun e w' => e = .returned (.bool false) ∧ Below w.heap.size w w' := by
  have HI : Hid (∀ w, Calls Tryz.prog 68 #[.int .i64 so] w fun e w' => e = .returned (.bool (decide (ixS so))) ∧ w' = w) := fun w => rix_c so w
  rw [decide_eq_false hs] at HI
  have b3 : (so == 3) = false := by simp [ht]
  clear hs ht
  go_enter Tryz.func93, Tryz.ntmps93
  go_wp2_with (go_at_call 68; refine (HI.out _).mono ?_; rintro e w1 ⟨rfl, hw1⟩; subst w1)
  go_ret
  exact ⟨rfl, bup (Below.refl _ _) _⟩

set_option maxHeartbeats 1000000 in
theorem mis_tb (kd fm sp pc pl ee : Int) (ix tb : ByteArray) (ib : Bool) (ao bo : Option Addr) (ln cp lb cb : Nat) (so : Int) (w : World) (hs : ¬ ixS so) (ht : so = 3) :
    Calls Tryz.prog 93 #[.agg #[.int .i64 kd, .int .i64 fm, .string ix, .int .i64 sp, .slice ao ln cp, .slice bo lb cb, .string tb, .int .i64 pc, .bool ib, .int .i64 pl, .int .i64 ee], .int .i64 so] w fun e w' => e = .returned (.bool (!(pc == 0 || (pc == 1 && ib)))) ∧ Below w.heap.size w w' := by
  have HI : Hid (∀ w, Calls Tryz.prog 68 #[.int .i64 so] w fun e w' => e = .returned (.bool (decide (ixS so))) ∧ w' = w) := fun w => rix_c so w
  rw [decide_eq_false hs] at HI
  subst ht
  clear hs
  by_cases h0 : pc = 0
  · subst h0
    go_enter Tryz.func93, Tryz.ntmps93
    go_wp2_with (go_at_call 68; refine (HI.out _).mono ?_; rintro e w1 ⟨rfl, hw1⟩; subst w1)
    go_ret
    exact ⟨rfl, bup (Below.refl _ _) _⟩
  have b0 : (pc == 0) = false := by simp [h0]
  clear h0
  by_cases h1 : pc = 1
  · subst h1
    go_enter Tryz.func93, Tryz.ntmps93
    go_wp2_with (go_at_call 68; refine (HI.out _).mono ?_; rintro e w1 ⟨rfl, hw1⟩; subst w1)
    go_ret
    exact ⟨rfl, bup (Below.refl _ _) _⟩
  · have b1 : (pc == 1) = false := by simp [h1]
    rw [b0, b1]
    clear h1
    go_enter Tryz.func93, Tryz.ntmps93
    go_wp2_with (go_at_call 68; refine (HI.out _).mono ?_; rintro e w1 ⟨rfl, hw1⟩; subst w1)
    go_ret
    exact ⟨rfl, bup (Below.refl _ _) _⟩

theorem rmis_c (kd fm sp pc pl ee : Int) (ix tb : ByteArray) (ib : Bool) (ao bo : Option Addr) (ln cp lb cb : Nat) (so : Int) (w : World) :
    Calls Tryz.prog 93 #[.agg #[.int .i64 kd, .int .i64 fm, .string ix, .int .i64 sp, .slice ao ln cp, .slice bo lb cb, .string tb, .int .i64 pc, .bool ib, .int .i64 pl, .int .i64 ee], .int .i64 so] w fun e w' => e = .returned (.bool (!decide ((ixS so → pc = 0) ∧ (so = 3 → pc = 0 ∨ (pc = 1 ∧ ib = true))))) ∧ Below w.heap.size w w' := by
  by_cases hs : ixS so
  · have ht : ¬ so = 3 := by unfold ixS at hs; omega
    have e : (!decide ((ixS so → pc = 0) ∧ (so = 3 → pc = 0 ∨ (pc = 1 ∧ ib = true)))) = (pc != 0) := by
      by_cases h : pc = 0 <;> simp [h, hs, ht]
    rw [e]; exact mis_ix kd fm sp pc pl ee ix tb ib ao bo ln cp lb cb so w hs
  · by_cases ht : so = 3
    · have e : (!decide ((ixS so → pc = 0) ∧ (so = 3 → pc = 0 ∨ (pc = 1 ∧ ib = true)))) = (!(pc == 0 || (pc == 1 && ib))) := by
        by_cases h : pc = 0
        · simp [h]
        · by_cases h' : pc = 1 <;> cases ib <;> simp [h, h', ht]
      rw [e]; exact mis_tb kd fm sp pc pl ee ix tb ib ao bo ln cp lb cb so w hs ht
    · rw [decide_eq_true ⟨fun q => absurd q hs, fun q => absurd q ht⟩]
      exact mis_or kd fm sp pc pl ee ix tb ib ao bo ln cp lb cb so w hs ht

end Go.Proofs.YtnfplepaejjmfaaGreatDoor

-- The document's arc: a part's data.
namespace Go.Proofs.YtnfplepaejjmfaaGreatDoor
open Go.ChangeShapes Go.WideShapes Go.ChangeAt Go.RowKit
set_option linter.unusedVariables false
set_option maxRecDepth 100000

def rpRow (x : Pt) : Array Value := #[.int .i64 x.h.date, .int .i64 x.h.uid, .int .i64 x.h.gid, .int .i64 x.h.mode, .string x.h.name, .int .i64 x.h.size, .int .i64 x.f.sort, .int .i64 x.f.num, .string x.f.name, .string x.data, .int .i64 x.fin, .int .i64 x.e]
theorem size12 : (Tryz.prog.info? 133).map (·.size) = some 12 := by kernel_rfl

set_option maxHeartbeats 2000000 in
theorem fil_thin (b : ByteArray) (d u g m s a k so nu z er : Int) (n fn da : ByteArray) (w : World) (hm : b.size ≤ maxLen) (ha : 0 ≤ a) (hab : a + 60 ≤ b.size) (hs0 : 0 ≤ s) (hs1 : s ≤ 99999999999) (hk : k = 1) (ho : ordS so) :
    Calls Tryz.prog 67 #[.string b, .int .i64 a, .int .i64 k, .agg #[.int .i64 d, .int .i64 u, .int .i64 g, .int .i64 m, .string n, .int .i64 s, .int .i64 so, .int .i64 nu, .string fn, .string da, .int .i64 z, .int .i64 er]] w fun e w' => e = .returned (.agg #[.int .i64 d, .int .i64 u, .int .i64 g, .int .i64 m, .string n, .int .i64 s, .int .i64 so, .int .i64 nu, .string fn, .string da, .int .i64 (a + 60), .int .i64 er]) ∧ Below w.heap.size w w' := by
  unfold maxLen at hm
  have HI : Hid (∀ w, Calls Tryz.prog 94 #[.int .i64 so] w fun e w' => e = .returned (.bool (!decide (ordS so))) ∧ w' = w) := fun w => rspecial_c so w
  rw [decide_eq_true ho] at HI
  subst hk
  clear ho
  go_enter Tryz.func67, Tryz.ntmps67
  go_wp2_with (go_at_call 94; refine (HI.out _).mono ?_; rintro e w1 ⟨rfl, hw1⟩; subst w1)
  refine bodyPost_ret (results_cell_row rfl _ _ (w.heap.size + 1) _ _ _ _ rfl (heap_new2 w _ _) Tryz.underlying133 rfl size12) rfl ?_
  exact ⟨rfl, bup (bup (Below.refl _ _) _) _⟩

set_option maxHeartbeats 2000000 in
theorem fil_few_k (b : ByteArray) (d u g m s a k so nu z er : Int) (n fn da : ByteArray) (w : World) (hm : b.size ≤ maxLen) (ha : 0 ≤ a) (hab : a + 60 ≤ b.size) (hs0 : 0 ≤ s) (hs1 : s ≤ 99999999999) (hk : ¬ k = 1) (hl : (b.size : Int) - (a + 60) < s) :
    Calls Tryz.prog 67 #[.string b, .int .i64 a, .int .i64 k, .agg #[.int .i64 d, .int .i64 u, .int .i64 g, .int .i64 m, .string n, .int .i64 s, .int .i64 so, .int .i64 nu, .string fn, .string da, .int .i64 z, .int .i64 er]] w fun e w' => e = .returned (.agg #[.int .i64 d, .int .i64 u, .int .i64 g, .int .i64 m, .string n, .int .i64 s, .int .i64 so, .int .i64 nu, .string fn, .string da, .int .i64 (a + 60), .int .i64 91]) ∧ Below w.heap.size w w' := by
  unfold maxLen at hm
  have HI : Hid (∀ w, Calls Tryz.prog 94 #[.int .i64 so] w fun e w' => e = .returned (.bool (!decide (ordS so))) ∧ w' = w) := fun w => rspecial_c so w
  have b0 : (k == 1) = false := by simp [hk]
  generalize (!decide (ordS so)) = O at HI
  have b1 : decide ((b.size : Int) - (a + 60) < s) = true := decide_eq_true hl
  clear hl
  clear hk
  go_enter Tryz.func67, Tryz.ntmps67
  go_wp2_with (go_at_call 94; refine (HI.out _).mono ?_; rintro e w1 ⟨rfl, hw1⟩; subst w1)
  refine bodyPost_ret (results_cell_row rfl _ _ (w.heap.size + 1) _ _ _ _ rfl (heap_new2 w _ _) Tryz.underlying133 rfl size12) rfl ?_
  exact ⟨rfl, bup (bup (Below.refl _ _) _) _⟩

set_option maxHeartbeats 2000000 in
theorem fil_few_s (b : ByteArray) (d u g m s a k so nu z er : Int) (n fn da : ByteArray) (w : World) (hm : b.size ≤ maxLen) (ha : 0 ≤ a) (hab : a + 60 ≤ b.size) (hs0 : 0 ≤ s) (hs1 : s ≤ 99999999999) (hk : k = 1) (ho : ¬ ordS so) (hl : (b.size : Int) - (a + 60) < s) :
    Calls Tryz.prog 67 #[.string b, .int .i64 a, .int .i64 k, .agg #[.int .i64 d, .int .i64 u, .int .i64 g, .int .i64 m, .string n, .int .i64 s, .int .i64 so, .int .i64 nu, .string fn, .string da, .int .i64 z, .int .i64 er]] w fun e w' => e = .returned (.agg #[.int .i64 d, .int .i64 u, .int .i64 g, .int .i64 m, .string n, .int .i64 s, .int .i64 so, .int .i64 nu, .string fn, .string da, .int .i64 (a + 60), .int .i64 91]) ∧ Below w.heap.size w w' := by
  unfold maxLen at hm
  have HI : Hid (∀ w, Calls Tryz.prog 94 #[.int .i64 so] w fun e w' => e = .returned (.bool (!decide (ordS so))) ∧ w' = w) := fun w => rspecial_c so w
  rw [decide_eq_false ho] at HI
  subst hk
  have b1 : decide ((b.size : Int) - (a + 60) < s) = true := decide_eq_true hl
  clear hl
  clear ho
  go_enter Tryz.func67, Tryz.ntmps67
  go_wp2_with (go_at_call 94; refine (HI.out _).mono ?_; rintro e w1 ⟨rfl, hw1⟩; subst w1)
  refine bodyPost_ret (results_cell_row rfl _ _ (w.heap.size + 1) _ _ _ _ rfl (heap_new2 w _ _) Tryz.underlying133 rfl size12) rfl ?_
  exact ⟨rfl, bup (bup (Below.refl _ _) _) _⟩

set_option maxHeartbeats 2000000 in
theorem fil_even_k (b : ByteArray) (d u g m s a k so nu z er : Int) (n fn da : ByteArray) (w : World) (hm : b.size ≤ maxLen) (ha : 0 ≤ a) (hab : a + 60 ≤ b.size) (hs0 : 0 ≤ s) (hs1 : s ≤ 99999999999) (hk : ¬ k = 1) (hl : ¬ (b.size : Int) - (a + 60) < s) (D : ByteArray) (hD : ∀ w, (Instr.slice 9 (.string b) (some (.int .i64 (a + 60))) (some (.int .i64 (a + 60 + s))) none).run Tryz.prog w = .ok (.string D) w) (h2 : s % 2 = 0) :
    Calls Tryz.prog 67 #[.string b, .int .i64 a, .int .i64 k, .agg #[.int .i64 d, .int .i64 u, .int .i64 g, .int .i64 m, .string n, .int .i64 s, .int .i64 so, .int .i64 nu, .string fn, .string da, .int .i64 z, .int .i64 er]] w fun e w' => e = .returned (.agg #[.int .i64 d, .int .i64 u, .int .i64 g, .int .i64 m, .string n, .int .i64 s, .int .i64 so, .int .i64 nu, .string fn, .string D, .int .i64 (a + 60 + s), .int .i64 er]) ∧ Below w.heap.size w w' := by
  unfold maxLen at hm
  have HI : Hid (∀ w, Calls Tryz.prog 94 #[.int .i64 so] w fun e w' => e = .returned (.bool (!decide (ordS so))) ∧ w' = w) := fun w => rspecial_c so w
  have b0 : (k == 1) = false := by simp [hk]
  generalize (!decide (ordS so)) = O at HI
  have b1 : decide ((b.size : Int) - (a + 60) < s) = false := decide_eq_false hl
  have hw1 : wrap64 (a + 60 + s) = a + 60 + s := by unfold wrap64; omega
  have hw2 : IntKind.i64.wrap (a + 60 + s) = a + 60 + s := by rw [IntKind.wrap_i64]; omega
  clear hl
  have b2 : (s % 2 == 1) = false := by simp; omega
  have b3 : (Int.tmod s 2 == 1) = false := by rw [Int.tmod_eq_emod_of_nonneg hs0]; exact b2
  clear h2
  clear hk
  go_enter Tryz.func67, Tryz.ntmps67
  go_wp2_with (go_at_call 94; refine (HI.out _).mono ?_; rintro e w1 ⟨rfl, hw1⟩; subst w1)
  refine bodyPost_ret (results_cell_row rfl _ _ (w.heap.size + 1) _ _ _ _ rfl (heap_new2 w _ _) Tryz.underlying133 rfl size12) rfl ?_
  exact ⟨rfl, bup (bup (Below.refl _ _) _) _⟩

set_option maxHeartbeats 2000000 in
theorem fil_even_s (b : ByteArray) (d u g m s a k so nu z er : Int) (n fn da : ByteArray) (w : World) (hm : b.size ≤ maxLen) (ha : 0 ≤ a) (hab : a + 60 ≤ b.size) (hs0 : 0 ≤ s) (hs1 : s ≤ 99999999999) (hk : k = 1) (ho : ¬ ordS so) (hl : ¬ (b.size : Int) - (a + 60) < s) (D : ByteArray) (hD : ∀ w, (Instr.slice 9 (.string b) (some (.int .i64 (a + 60))) (some (.int .i64 (a + 60 + s))) none).run Tryz.prog w = .ok (.string D) w) (h2 : s % 2 = 0) :
    Calls Tryz.prog 67 #[.string b, .int .i64 a, .int .i64 k, .agg #[.int .i64 d, .int .i64 u, .int .i64 g, .int .i64 m, .string n, .int .i64 s, .int .i64 so, .int .i64 nu, .string fn, .string da, .int .i64 z, .int .i64 er]] w fun e w' => e = .returned (.agg #[.int .i64 d, .int .i64 u, .int .i64 g, .int .i64 m, .string n, .int .i64 s, .int .i64 so, .int .i64 nu, .string fn, .string D, .int .i64 (a + 60 + s), .int .i64 er]) ∧ Below w.heap.size w w' := by
  unfold maxLen at hm
  have HI : Hid (∀ w, Calls Tryz.prog 94 #[.int .i64 so] w fun e w' => e = .returned (.bool (!decide (ordS so))) ∧ w' = w) := fun w => rspecial_c so w
  rw [decide_eq_false ho] at HI
  subst hk
  have b1 : decide ((b.size : Int) - (a + 60) < s) = false := decide_eq_false hl
  have hw1 : wrap64 (a + 60 + s) = a + 60 + s := by unfold wrap64; omega
  have hw2 : IntKind.i64.wrap (a + 60 + s) = a + 60 + s := by rw [IntKind.wrap_i64]; omega
  clear hl
  have b2 : (s % 2 == 1) = false := by simp; omega
  have b3 : (Int.tmod s 2 == 1) = false := by rw [Int.tmod_eq_emod_of_nonneg hs0]; exact b2
  clear h2
  clear ho
  go_enter Tryz.func67, Tryz.ntmps67
  go_wp2_with (go_at_call 94; refine (HI.out _).mono ?_; rintro e w1 ⟨rfl, hw1⟩; subst w1)
  refine bodyPost_ret (results_cell_row rfl _ _ (w.heap.size + 1) _ _ _ _ rfl (heap_new2 w _ _) Tryz.underlying133 rfl size12) rfl ?_
  exact ⟨rfl, bup (bup (Below.refl _ _) _) _⟩

set_option maxHeartbeats 2000000 in
theorem fil_end_k (b : ByteArray) (d u g m s a k so nu z er : Int) (n fn da : ByteArray) (w : World) (hm : b.size ≤ maxLen) (ha : 0 ≤ a) (hab : a + 60 ≤ b.size) (hs0 : 0 ≤ s) (hs1 : s ≤ 99999999999) (hk : ¬ k = 1) (hl : ¬ (b.size : Int) - (a + 60) < s) (D : ByteArray) (hD : ∀ w, (Instr.slice 9 (.string b) (some (.int .i64 (a + 60))) (some (.int .i64 (a + 60 + s))) none).run Tryz.prog w = .ok (.string D) w) (h2 : ¬ s % 2 = 0) (h3 : a + 60 + s = b.size) :
    Calls Tryz.prog 67 #[.string b, .int .i64 a, .int .i64 k, .agg #[.int .i64 d, .int .i64 u, .int .i64 g, .int .i64 m, .string n, .int .i64 s, .int .i64 so, .int .i64 nu, .string fn, .string da, .int .i64 z, .int .i64 er]] w fun e w' => e = .returned (.agg #[.int .i64 d, .int .i64 u, .int .i64 g, .int .i64 m, .string n, .int .i64 s, .int .i64 so, .int .i64 nu, .string fn, .string D, .int .i64 (a + 60 + s), .int .i64 92]) ∧ Below w.heap.size w w' := by
  unfold maxLen at hm
  have HI : Hid (∀ w, Calls Tryz.prog 94 #[.int .i64 so] w fun e w' => e = .returned (.bool (!decide (ordS so))) ∧ w' = w) := fun w => rspecial_c so w
  have b0 : (k == 1) = false := by simp [hk]
  generalize (!decide (ordS so)) = O at HI
  have b1 : decide ((b.size : Int) - (a + 60) < s) = false := decide_eq_false hl
  have hw1 : wrap64 (a + 60 + s) = a + 60 + s := by unfold wrap64; omega
  have hw2 : IntKind.i64.wrap (a + 60 + s) = a + 60 + s := by rw [IntKind.wrap_i64]; omega
  clear hl
  have b2 : (s % 2 == 1) = true := by simp; omega
  have b3 : (Int.tmod s 2 == 1) = true := by rw [Int.tmod_eq_emod_of_nonneg hs0]; exact b2
  clear h2
  have b4 : decide ((b.size : Int) ≤ a + 60 + s) = true := by simp; omega
  clear h3
  clear hk
  go_enter Tryz.func67, Tryz.ntmps67
  go_wp2_with (go_at_call 94; refine (HI.out _).mono ?_; rintro e w1 ⟨rfl, hw1⟩; subst w1)
  refine bodyPost_ret (results_cell_row rfl _ _ (w.heap.size + 1) _ _ _ _ rfl (heap_new2 w _ _) Tryz.underlying133 rfl size12) rfl ?_
  exact ⟨rfl, bup (bup (Below.refl _ _) _) _⟩

set_option maxHeartbeats 2000000 in
theorem fil_end_s (b : ByteArray) (d u g m s a k so nu z er : Int) (n fn da : ByteArray) (w : World) (hm : b.size ≤ maxLen) (ha : 0 ≤ a) (hab : a + 60 ≤ b.size) (hs0 : 0 ≤ s) (hs1 : s ≤ 99999999999) (hk : k = 1) (ho : ¬ ordS so) (hl : ¬ (b.size : Int) - (a + 60) < s) (D : ByteArray) (hD : ∀ w, (Instr.slice 9 (.string b) (some (.int .i64 (a + 60))) (some (.int .i64 (a + 60 + s))) none).run Tryz.prog w = .ok (.string D) w) (h2 : ¬ s % 2 = 0) (h3 : a + 60 + s = b.size) :
    Calls Tryz.prog 67 #[.string b, .int .i64 a, .int .i64 k, .agg #[.int .i64 d, .int .i64 u, .int .i64 g, .int .i64 m, .string n, .int .i64 s, .int .i64 so, .int .i64 nu, .string fn, .string da, .int .i64 z, .int .i64 er]] w fun e w' => e = .returned (.agg #[.int .i64 d, .int .i64 u, .int .i64 g, .int .i64 m, .string n, .int .i64 s, .int .i64 so, .int .i64 nu, .string fn, .string D, .int .i64 (a + 60 + s), .int .i64 92]) ∧ Below w.heap.size w w' := by
  unfold maxLen at hm
  have HI : Hid (∀ w, Calls Tryz.prog 94 #[.int .i64 so] w fun e w' => e = .returned (.bool (!decide (ordS so))) ∧ w' = w) := fun w => rspecial_c so w
  rw [decide_eq_false ho] at HI
  subst hk
  have b1 : decide ((b.size : Int) - (a + 60) < s) = false := decide_eq_false hl
  have hw1 : wrap64 (a + 60 + s) = a + 60 + s := by unfold wrap64; omega
  have hw2 : IntKind.i64.wrap (a + 60 + s) = a + 60 + s := by rw [IntKind.wrap_i64]; omega
  clear hl
  have b2 : (s % 2 == 1) = true := by simp; omega
  have b3 : (Int.tmod s 2 == 1) = true := by rw [Int.tmod_eq_emod_of_nonneg hs0]; exact b2
  clear h2
  have b4 : decide ((b.size : Int) ≤ a + 60 + s) = true := by simp; omega
  clear h3
  clear ho
  go_enter Tryz.func67, Tryz.ntmps67
  go_wp2_with (go_at_call 94; refine (HI.out _).mono ?_; rintro e w1 ⟨rfl, hw1⟩; subst w1)
  refine bodyPost_ret (results_cell_row rfl _ _ (w.heap.size + 1) _ _ _ _ rfl (heap_new2 w _ _) Tryz.underlying133 rfl size12) rfl ?_
  exact ⟨rfl, bup (bup (Below.refl _ _) _) _⟩

set_option maxHeartbeats 2000000 in
theorem fil_wrong_k (b : ByteArray) (d u g m s a k so nu z er : Int) (n fn da : ByteArray) (w : World) (hm : b.size ≤ maxLen) (ha : 0 ≤ a) (hab : a + 60 ≤ b.size) (hs0 : 0 ≤ s) (hs1 : s ≤ 99999999999) (hk : ¬ k = 1) (hl : ¬ (b.size : Int) - (a + 60) < s) (D : ByteArray) (hD : ∀ w, (Instr.slice 9 (.string b) (some (.int .i64 (a + 60))) (some (.int .i64 (a + 60 + s))) none).run Tryz.prog w = .ok (.string D) w) (c : Int) (hi : ∀ w, (Instr.index 9 (.string b) (.int .i64 (a + 60 + s))).run Tryz.prog w = .ok (.int .u8 c) w) (h2 : ¬ s % 2 = 0) (h3 : a + 60 + s < b.size) (h4 : ¬ c = 10) :
    Calls Tryz.prog 67 #[.string b, .int .i64 a, .int .i64 k, .agg #[.int .i64 d, .int .i64 u, .int .i64 g, .int .i64 m, .string n, .int .i64 s, .int .i64 so, .int .i64 nu, .string fn, .string da, .int .i64 z, .int .i64 er]] w fun e w' => e = .returned (.agg #[.int .i64 d, .int .i64 u, .int .i64 g, .int .i64 m, .string n, .int .i64 s, .int .i64 so, .int .i64 nu, .string fn, .string D, .int .i64 (a + 60 + s), .int .i64 92]) ∧ Below w.heap.size w w' := by
  unfold maxLen at hm
  have HI : Hid (∀ w, Calls Tryz.prog 94 #[.int .i64 so] w fun e w' => e = .returned (.bool (!decide (ordS so))) ∧ w' = w) := fun w => rspecial_c so w
  have b0 : (k == 1) = false := by simp [hk]
  generalize (!decide (ordS so)) = O at HI
  have b1 : decide ((b.size : Int) - (a + 60) < s) = false := decide_eq_false hl
  have hw1 : wrap64 (a + 60 + s) = a + 60 + s := by unfold wrap64; omega
  have hw2 : IntKind.i64.wrap (a + 60 + s) = a + 60 + s := by rw [IntKind.wrap_i64]; omega
  clear hl
  have b2 : (s % 2 == 1) = true := by simp; omega
  have b3 : (Int.tmod s 2 == 1) = true := by rw [Int.tmod_eq_emod_of_nonneg hs0]; exact b2
  clear h2
  have b4 : decide ((b.size : Int) ≤ a + 60 + s) = false := by simp; omega
  have b5 : (c == 10) = false := by simp [h4]
  have b6 : (c != 10) = true := by simp [bne, b5]
  clear h3 h4
  clear hk
  go_enter Tryz.func67, Tryz.ntmps67
  go_wp2_with (go_at_call 94; refine (HI.out _).mono ?_; rintro e w1 ⟨rfl, hw1⟩; subst w1)
  refine bodyPost_ret (results_cell_row rfl _ _ (w.heap.size + 1) _ _ _ _ rfl (heap_new2 w _ _) Tryz.underlying133 rfl size12) rfl ?_
  exact ⟨rfl, bup (bup (Below.refl _ _) _) _⟩

set_option maxHeartbeats 2000000 in
theorem fil_wrong_s (b : ByteArray) (d u g m s a k so nu z er : Int) (n fn da : ByteArray) (w : World) (hm : b.size ≤ maxLen) (ha : 0 ≤ a) (hab : a + 60 ≤ b.size) (hs0 : 0 ≤ s) (hs1 : s ≤ 99999999999) (hk : k = 1) (ho : ¬ ordS so) (hl : ¬ (b.size : Int) - (a + 60) < s) (D : ByteArray) (hD : ∀ w, (Instr.slice 9 (.string b) (some (.int .i64 (a + 60))) (some (.int .i64 (a + 60 + s))) none).run Tryz.prog w = .ok (.string D) w) (c : Int) (hi : ∀ w, (Instr.index 9 (.string b) (.int .i64 (a + 60 + s))).run Tryz.prog w = .ok (.int .u8 c) w) (h2 : ¬ s % 2 = 0) (h3 : a + 60 + s < b.size) (h4 : ¬ c = 10) :
    Calls Tryz.prog 67 #[.string b, .int .i64 a, .int .i64 k, .agg #[.int .i64 d, .int .i64 u, .int .i64 g, .int .i64 m, .string n, .int .i64 s, .int .i64 so, .int .i64 nu, .string fn, .string da, .int .i64 z, .int .i64 er]] w fun e w' => e = .returned (.agg #[.int .i64 d, .int .i64 u, .int .i64 g, .int .i64 m, .string n, .int .i64 s, .int .i64 so, .int .i64 nu, .string fn, .string D, .int .i64 (a + 60 + s), .int .i64 92]) ∧ Below w.heap.size w w' := by
  unfold maxLen at hm
  have HI : Hid (∀ w, Calls Tryz.prog 94 #[.int .i64 so] w fun e w' => e = .returned (.bool (!decide (ordS so))) ∧ w' = w) := fun w => rspecial_c so w
  rw [decide_eq_false ho] at HI
  subst hk
  have b1 : decide ((b.size : Int) - (a + 60) < s) = false := decide_eq_false hl
  have hw1 : wrap64 (a + 60 + s) = a + 60 + s := by unfold wrap64; omega
  have hw2 : IntKind.i64.wrap (a + 60 + s) = a + 60 + s := by rw [IntKind.wrap_i64]; omega
  clear hl
  have b2 : (s % 2 == 1) = true := by simp; omega
  have b3 : (Int.tmod s 2 == 1) = true := by rw [Int.tmod_eq_emod_of_nonneg hs0]; exact b2
  clear h2
  have b4 : decide ((b.size : Int) ≤ a + 60 + s) = false := by simp; omega
  have b5 : (c == 10) = false := by simp [h4]
  have b6 : (c != 10) = true := by simp [bne, b5]
  clear h3 h4
  clear ho
  go_enter Tryz.func67, Tryz.ntmps67
  go_wp2_with (go_at_call 94; refine (HI.out _).mono ?_; rintro e w1 ⟨rfl, hw1⟩; subst w1)
  refine bodyPost_ret (results_cell_row rfl _ _ (w.heap.size + 1) _ _ _ _ rfl (heap_new2 w _ _) Tryz.underlying133 rfl size12) rfl ?_
  exact ⟨rfl, bup (bup (Below.refl _ _) _) _⟩

set_option maxHeartbeats 2000000 in
theorem fil_pad_k (b : ByteArray) (d u g m s a k so nu z er : Int) (n fn da : ByteArray) (w : World) (hm : b.size ≤ maxLen) (ha : 0 ≤ a) (hab : a + 60 ≤ b.size) (hs0 : 0 ≤ s) (hs1 : s ≤ 99999999999) (hk : ¬ k = 1) (hl : ¬ (b.size : Int) - (a + 60) < s) (D : ByteArray) (hD : ∀ w, (Instr.slice 9 (.string b) (some (.int .i64 (a + 60))) (some (.int .i64 (a + 60 + s))) none).run Tryz.prog w = .ok (.string D) w) (c : Int) (hi : ∀ w, (Instr.index 9 (.string b) (.int .i64 (a + 60 + s))).run Tryz.prog w = .ok (.int .u8 c) w) (h2 : ¬ s % 2 = 0) (h3 : a + 60 + s < b.size) (h4 : c = 10) :
    Calls Tryz.prog 67 #[.string b, .int .i64 a, .int .i64 k, .agg #[.int .i64 d, .int .i64 u, .int .i64 g, .int .i64 m, .string n, .int .i64 s, .int .i64 so, .int .i64 nu, .string fn, .string da, .int .i64 z, .int .i64 er]] w fun e w' => e = .returned (.agg #[.int .i64 d, .int .i64 u, .int .i64 g, .int .i64 m, .string n, .int .i64 s, .int .i64 so, .int .i64 nu, .string fn, .string D, .int .i64 (a + 60 + s + 1), .int .i64 er]) ∧ Below w.heap.size w w' := by
  unfold maxLen at hm
  have HI : Hid (∀ w, Calls Tryz.prog 94 #[.int .i64 so] w fun e w' => e = .returned (.bool (!decide (ordS so))) ∧ w' = w) := fun w => rspecial_c so w
  have b0 : (k == 1) = false := by simp [hk]
  generalize (!decide (ordS so)) = O at HI
  subst h4
  have b1 : decide ((b.size : Int) - (a + 60) < s) = false := decide_eq_false hl
  have hw1 : wrap64 (a + 60 + s) = a + 60 + s := by unfold wrap64; omega
  have hw2 : IntKind.i64.wrap (a + 60 + s) = a + 60 + s := by rw [IntKind.wrap_i64]; omega
  clear hl
  have b2 : (s % 2 == 1) = true := by simp; omega
  have b3 : (Int.tmod s 2 == 1) = true := by rw [Int.tmod_eq_emod_of_nonneg hs0]; exact b2
  clear h2
  have b4 : decide ((b.size : Int) ≤ a + 60 + s) = false := by simp; omega
  have hw3 : wrap64 (a + 60 + s + 1) = a + 60 + s + 1 := by unfold wrap64; omega
  have hw4 : IntKind.i64.wrap (a + 60 + s + 1) = a + 60 + s + 1 := by rw [IntKind.wrap_i64]; omega
  clear h3
  clear hk
  go_enter Tryz.func67, Tryz.ntmps67
  go_wp2_with (go_at_call 94; refine (HI.out _).mono ?_; rintro e w1 ⟨rfl, hw1⟩; subst w1)
  refine bodyPost_ret (results_cell_row rfl _ _ (w.heap.size + 1) _ _ _ _ rfl (heap_new2 w _ _) Tryz.underlying133 rfl size12) rfl ?_
  exact ⟨rfl, bup (bup (Below.refl _ _) _) _⟩

set_option maxHeartbeats 2000000 in
theorem fil_pad_s (b : ByteArray) (d u g m s a k so nu z er : Int) (n fn da : ByteArray) (w : World) (hm : b.size ≤ maxLen) (ha : 0 ≤ a) (hab : a + 60 ≤ b.size) (hs0 : 0 ≤ s) (hs1 : s ≤ 99999999999) (hk : k = 1) (ho : ¬ ordS so) (hl : ¬ (b.size : Int) - (a + 60) < s) (D : ByteArray) (hD : ∀ w, (Instr.slice 9 (.string b) (some (.int .i64 (a + 60))) (some (.int .i64 (a + 60 + s))) none).run Tryz.prog w = .ok (.string D) w) (c : Int) (hi : ∀ w, (Instr.index 9 (.string b) (.int .i64 (a + 60 + s))).run Tryz.prog w = .ok (.int .u8 c) w) (h2 : ¬ s % 2 = 0) (h3 : a + 60 + s < b.size) (h4 : c = 10) :
    Calls Tryz.prog 67 #[.string b, .int .i64 a, .int .i64 k, .agg #[.int .i64 d, .int .i64 u, .int .i64 g, .int .i64 m, .string n, .int .i64 s, .int .i64 so, .int .i64 nu, .string fn, .string da, .int .i64 z, .int .i64 er]] w fun e w' => e = .returned (.agg #[.int .i64 d, .int .i64 u, .int .i64 g, .int .i64 m, .string n, .int .i64 s, .int .i64 so, .int .i64 nu, .string fn, .string D, .int .i64 (a + 60 + s + 1), .int .i64 er]) ∧ Below w.heap.size w w' := by
  unfold maxLen at hm
  have HI : Hid (∀ w, Calls Tryz.prog 94 #[.int .i64 so] w fun e w' => e = .returned (.bool (!decide (ordS so))) ∧ w' = w) := fun w => rspecial_c so w
  rw [decide_eq_false ho] at HI
  subst hk
  subst h4
  have b1 : decide ((b.size : Int) - (a + 60) < s) = false := decide_eq_false hl
  have hw1 : wrap64 (a + 60 + s) = a + 60 + s := by unfold wrap64; omega
  have hw2 : IntKind.i64.wrap (a + 60 + s) = a + 60 + s := by rw [IntKind.wrap_i64]; omega
  clear hl
  have b2 : (s % 2 == 1) = true := by simp; omega
  have b3 : (Int.tmod s 2 == 1) = true := by rw [Int.tmod_eq_emod_of_nonneg hs0]; exact b2
  clear h2
  have b4 : decide ((b.size : Int) ≤ a + 60 + s) = false := by simp; omega
  have hw3 : wrap64 (a + 60 + s + 1) = a + 60 + s + 1 := by unfold wrap64; omega
  have hw4 : IntKind.i64.wrap (a + 60 + s + 1) = a + 60 + s + 1 := by rw [IntKind.wrap_i64]; omega
  clear h3
  clear ho
  go_enter Tryz.func67, Tryz.ntmps67
  go_wp2_with (go_at_call 94; refine (HI.out _).mono ?_; rintro e w1 ⟨rfl, hw1⟩; subst w1)
  refine bodyPost_ret (results_cell_row rfl _ _ (w.heap.size + 1) _ _ _ _ rfl (heap_new2 w _ _) Tryz.underlying133 rfl size12) rfl ?_
  exact ⟨rfl, bup (bup (Below.refl _ _) _) _⟩

end Go.Proofs.YtnfplepaejjmfaaGreatDoor

-- The document's arc: a part's member.
namespace Go.Proofs.YtnfplepaejjmfaaGreatDoor
open Go.ChangeShapes Go.WideShapes Go.ChangeAt Go.RowKit
set_option linter.unusedVariables false
set_option maxRecDepth 100000

theorem sizeM : (Tryz.prog.info? 54).map (·.size) = some 7 := by kernel_rfl
theorem heap_new3 (w : World) (o o' o'' : Obj) : (((w.alloc o).alloc o').alloc o'').heap[w.heap.size + 1]? = some o' := hup (heap_new2 w o o') o''

set_option maxHeartbeats 2000000 in
theorem rm_own4 (t : ByteArray) (d u g m s k so nu z er : Int) (n fn da : ByteArray) (w : World) (hs : so = 4) :
    Calls Tryz.prog 70 #[.int .i64 k, .string t, .agg #[.int .i64 d, .int .i64 u, .int .i64 g, .int .i64 m, .string n, .int .i64 s, .int .i64 so, .int .i64 nu, .string fn, .string da, .int .i64 z, .int .i64 er]] w fun e w' => e = .returned (.tuple #[.agg #[.int .i64 d, .int .i64 u, .int .i64 g, .int .i64 m, .string fn, .int .i64 s, .string da], .int .i64 0]) ∧ Below w.heap.size w w' := by
  subst hs
  go_enter Tryz.func70, Tryz.ntmps70
  go_wp2
  refine bodyPost_ret (results_cell_tmp_row rfl _ _ (w.heap.size + 1) _ _ _ _ _ rfl rfl (heap_new3 w _ _ _) Tryz.underlying54 rfl sizeM) rfl ?_
  exact ⟨rfl, bup (bup (bup (Below.refl _ _) _) _) _⟩

set_option maxHeartbeats 2000000 in
theorem rm_own6 (t : ByteArray) (d u g m s k so nu z er : Int) (n fn da : ByteArray) (w : World) (hs : so = 6) :
    Calls Tryz.prog 70 #[.int .i64 k, .string t, .agg #[.int .i64 d, .int .i64 u, .int .i64 g, .int .i64 m, .string n, .int .i64 s, .int .i64 so, .int .i64 nu, .string fn, .string da, .int .i64 z, .int .i64 er]] w fun e w' => e = .returned (.tuple #[.agg #[.int .i64 d, .int .i64 u, .int .i64 g, .int .i64 m, .string fn, .int .i64 s, .string da], .int .i64 0]) ∧ Below w.heap.size w w' := by
  subst hs
  go_enter Tryz.func70, Tryz.ntmps70
  go_wp2
  refine bodyPost_ret (results_cell_tmp_row rfl _ _ (w.heap.size + 1) _ _ _ _ _ rfl rfl (heap_new3 w _ _ _) Tryz.underlying54 rfl sizeM) rfl ?_
  exact ⟨rfl, bup (bup (bup (Below.refl _ _) _) _) _⟩

set_option maxHeartbeats 2000000 in
theorem rm_ref (t : ByteArray) (d u g m s k so nu z er : Int) (n fn da : ByteArray) (w : World) (R : ByteArray) (E : Int) (HL : Hid (∀ w, Calls Tryz.prog 95 #[.string t, .int .i64 nu] w fun e w' => e = .returned (.tuple #[.string R, .int .i64 E]) ∧ w' = w)) (hs : so = 5) :
    Calls Tryz.prog 70 #[.int .i64 k, .string t, .agg #[.int .i64 d, .int .i64 u, .int .i64 g, .int .i64 m, .string n, .int .i64 s, .int .i64 so, .int .i64 nu, .string fn, .string da, .int .i64 z, .int .i64 er]] w fun e w' => e = .returned (.tuple #[.agg #[.int .i64 d, .int .i64 u, .int .i64 g, .int .i64 m, .string R, .int .i64 s, .string da], .int .i64 E]) ∧ Below w.heap.size w w' := by
  subst hs
  go_enter Tryz.func70, Tryz.ntmps70
  go_wp2_with (go_at_call 95; refine (HL.out _).mono ?_; rintro e w1 ⟨rfl, hw1⟩; subst w1)
  refine bodyPost_ret (results_cell_tmp_row rfl _ _ (w.heap.size + 1) _ _ _ _ _ rfl rfl (heap_new3 w _ _ _) Tryz.underlying54 rfl sizeM) rfl ?_
  exact ⟨rfl, bup (bup (bup (Below.refl _ _) _) _) _⟩

set_option maxHeartbeats 2000000 in
theorem rm_long (t : ByteArray) (d u g m s k so nu z er : Int) (n fn da : ByteArray) (w : World) (R D : ByteArray) (E : Int) (HI : Hid (∀ w, Calls Tryz.prog 96 #[.string da, .int .i64 nu] w fun e w' => e = .returned (.tuple #[.string R, .string D, .int .i64 E]) ∧ Below w.heap.size w w')) (hs : so = 7) :
    Calls Tryz.prog 70 #[.int .i64 k, .string t, .agg #[.int .i64 d, .int .i64 u, .int .i64 g, .int .i64 m, .string n, .int .i64 s, .int .i64 so, .int .i64 nu, .string fn, .string da, .int .i64 z, .int .i64 er]] w fun e w' => e = .returned (.tuple #[.agg #[.int .i64 d, .int .i64 u, .int .i64 g, .int .i64 m, .string R, .int .i64 (D.size : Int), .string D], .int .i64 E]) ∧ Below w.heap.size w w' := by
  subst hs
  have hx0 : (((w.alloc (.cells #[.int .i64 d, .int .i64 u, .int .i64 g, .int .i64 m, .string n, .int .i64 s, .int .i64 7, .int .i64 nu, .string fn, .string da, .int .i64 z, .int .i64 er] 133)).alloc (.cells #[.int .i64 0, .int .i64 0, .int .i64 0, .int .i64 0, .string ⟨#[]⟩, .int .i64 0, .string ⟨#[]⟩] 54)).alloc (.cells #[.int .i64 d, .int .i64 u, .int .i64 g, .int .i64 m, .string fn, .int .i64 s, .string da] 54)).heap[w.heap.size + 1 + 1]? = some (.cells #[.int .i64 d, .int .i64 u, .int .i64 g, .int .i64 m, .string fn, .int .i64 s, .string da] 54 (0, 0)) := by
    have h := heap_new2 (w.alloc (.cells #[.int .i64 d, .int .i64 u, .int .i64 g, .int .i64 m, .string n, .int .i64 s, .int .i64 7, .int .i64 nu, .string fn, .string da, .int .i64 z, .int .i64 er] 133)) (.cells #[.int .i64 0, .int .i64 0, .int .i64 0, .int .i64 0, .string ⟨#[]⟩, .int .i64 0, .string ⟨#[]⟩] 54) (.cells #[.int .i64 d, .int .i64 u, .int .i64 g, .int .i64 m, .string fn, .int .i64 s, .string da] 54)
    rw [World.size_alloc] at h; exact h
  have hy0 : (((w.alloc (.cells #[.int .i64 d, .int .i64 u, .int .i64 g, .int .i64 m, .string n, .int .i64 s, .int .i64 7, .int .i64 nu, .string fn, .string da, .int .i64 z, .int .i64 er] 133)).alloc (.cells #[.int .i64 0, .int .i64 0, .int .i64 0, .int .i64 0, .string ⟨#[]⟩, .int .i64 0, .string ⟨#[]⟩] 54)).alloc (.cells #[.int .i64 d, .int .i64 u, .int .i64 g, .int .i64 m, .string fn, .int .i64 s, .string da] 54)).heap[w.heap.size + 1]? = some (.cells #[.int .i64 0, .int .i64 0, .int .i64 0, .int .i64 0, .string ⟨#[]⟩, .int .i64 0, .string ⟨#[]⟩] 54 (0, 0)) := heap_new3 w _ _ _
  go_enter Tryz.func70, Tryz.ntmps70
  go_wp2_with (go_at_call 96; refine (HI.out _).mono ?_; rintro e w1 ⟨rfl, hb1⟩; have hx1 := hkeep hb1 hx0; have hy1 := hkeep hb1 hy0; obtain ⟨c0, f0⟩ := one_row hx1 0 _ rfl; obtain ⟨c1, f1⟩ := one_row hx1 1 _ rfl; obtain ⟨c2, f2⟩ := one_row hx1 2 _ rfl; obtain ⟨c3, f3⟩ := one_row hx1 3 _ rfl; obtain ⟨c4, f4⟩ := one_row hx1 4 _ rfl; obtain ⟨c5, f5⟩ := one_row hx1 5 _ rfl; obtain ⟨c6, f6⟩ := one_row hx1 6 _ rfl; obtain ⟨y0, z0⟩ := one_row hy1 0 _ rfl; obtain ⟨y1, z1⟩ := one_row hy1 1 _ rfl; obtain ⟨y2, z2⟩ := one_row hy1 2 _ rfl; obtain ⟨y3, z3⟩ := one_row hy1 3 _ rfl; obtain ⟨y4, z4⟩ := one_row hy1 4 _ rfl; obtain ⟨y5, z5⟩ := one_row hy1 5 _ rfl; obtain ⟨y6, z6⟩ := one_row hy1 6 _ rfl)
  have hbb : Below w.heap.size w w1 := bel3 (bup (bup (bup (Below.refl _ _) _) _) _) hb1
  refine bodyPost_ret (results_cell_tmp_row rfl _ _ (w.heap.size + 1) _ _ _ _ _ rfl rfl (set_row (i := 6) (.string D) (set_row (i := 5) (.int .i64 (D.size : Int)) (set_row (i := 4) (.string R) (set_row (i := 3) (.int .i64 m) (set_row (i := 2) (.int .i64 g) (set_row (i := 1) (.int .i64 u) (set_row (i := 0) (.int .i64 d) (((heap_setCell_other _ ⟨w.heap.size + 1 + 1, 5, none⟩ (w.heap.size + 1) _ (by show w.heap.size + 1 ≠ w.heap.size + 1 + 1; omega)).trans ((heap_setCell_other _ ⟨w.heap.size + 1 + 1, 6, none⟩ (w.heap.size + 1) _ (by show w.heap.size + 1 ≠ w.heap.size + 1 + 1; omega)).trans ((heap_setCell_other _ ⟨w.heap.size + 1 + 1, 4, none⟩ (w.heap.size + 1) _ (by show w.heap.size + 1 ≠ w.heap.size + 1 + 1; omega)).trans hy1))))))))))) Tryz.underlying54 rfl sizeM) rfl ?_
  exact ⟨rfl, (Below.setCell (p := ⟨w.heap.size + 1, 6, none⟩) (Below.setCell (p := ⟨w.heap.size + 1, 5, none⟩) (Below.setCell (p := ⟨w.heap.size + 1, 4, none⟩) (Below.setCell (p := ⟨w.heap.size + 1, 3, none⟩) (Below.setCell (p := ⟨w.heap.size + 1, 2, none⟩) (Below.setCell (p := ⟨w.heap.size + 1, 1, none⟩) (Below.setCell (p := ⟨w.heap.size + 1, 0, none⟩) (Below.setCell (p := ⟨w.heap.size + 1 + 1, 5, none⟩) (Below.setCell (p := ⟨w.heap.size + 1 + 1, 6, none⟩) (Below.setCell (p := ⟨w.heap.size + 1 + 1, 4, none⟩) hbb (by show w.heap.size ≤ w.heap.size + 1 + 1; omega) _) (by show w.heap.size ≤ w.heap.size + 1 + 1; omega) _) (by show w.heap.size ≤ w.heap.size + 1 + 1; omega) _) (by show w.heap.size ≤ w.heap.size + 1; omega) _) (by show w.heap.size ≤ w.heap.size + 1; omega) _) (by show w.heap.size ≤ w.heap.size + 1; omega) _) (by show w.heap.size ≤ w.heap.size + 1; omega) _) (by show w.heap.size ≤ w.heap.size + 1; omega) _) (by show w.heap.size ≤ w.heap.size + 1; omega) _) (by show w.heap.size ≤ w.heap.size + 1; omega) _)⟩

theorem filled_c (b : ByteArray) (x : Pt) (he : x.e = 0) (w : World) (hm : b.size ≤ maxLen) (ha : 0 ≤ x.pos) (hab : x.pos + 60 ≤ b.size) (hs0 : 0 ≤ x.h.size) (hs1 : x.h.size ≤ 99999999999) :
    Calls Tryz.prog 67 #[.string b, .int .i64 x.pos, .int .i64 x.kind, .agg (rpRow x)] w fun e w' => e = .returned (.agg (rpRow (dataW b x))) ∧ Below w.heap.size w w' := by
  obtain ⟨⟨d, u, g, m, n, s⟩, a, z, k, ⟨so, nu, fn⟩, nm, da, e⟩ := x
  dsimp only at he ha hab hs0 hs1
  subst he
  unfold dataW
  dsimp only
  by_cases hk : k = 1 ∧ ordS so
  · rw [if_pos hk]; exact fil_thin b d u g m s a k so nu z 0 n fn da w hm ha hab hs0 hs1 hk.1 hk.2
  rw [if_neg hk]
  have hk' : ¬ k = 1 ∨ (k = 1 ∧ ¬ ordS so) := by
    by_cases q : k = 1
    · exact .inr ⟨q, fun h => hk ⟨q, h⟩⟩
    · exact .inl q
  by_cases hl : (b.size : Int) - (a + 60) < s
  · rw [if_pos hl]
    rcases hk' with q | ⟨q, q'⟩
    · exact fil_few_k b d u g m s a k so nu z 0 n fn da w hm ha hab hs0 hs1 q hl
    · exact fil_few_s b d u g m s a k so nu z 0 n fn da w hm ha hab hs0 hs1 q q' hl
  rw [if_neg hl]
  have hD := sl_data b (a + 60) s (by omega) hs0 (by omega)
  generalize b.extract (a + 60).toNat (a + 60 + s).toNat = D at hD ⊢
  by_cases h2 : s % 2 = 0
  · rw [if_pos h2]
    rcases hk' with q | ⟨q, q'⟩
    · exact fil_even_k b d u g m s a k so nu z 0 n fn da w hm ha hab hs0 hs1 q hl D hD h2
    · exact fil_even_s b d u g m s a k so nu z 0 n fn da w hm ha hab hs0 hs1 q q' hl D hD h2
  rw [if_neg h2]
  by_cases h3 : a + 60 + s = b.size
  · have hno : ¬ b.data.toList[(a + 60 + s).toNat]? = some 10 := by
      have hlen : b.data.toList.length = b.size := by simp
      rw [List.getElem?_eq_none (by omega)]; simp
    rw [if_neg hno]
    rcases hk' with q | ⟨q, q'⟩
    · exact fil_end_k b d u g m s a k so nu z 0 n fn da w hm ha hab hs0 hs1 q hl D hD h2 h3
    · exact fil_end_s b d u g m s a k so nu z 0 n fn da w hm ha hab hs0 hs1 q q' hl D hD h2 h3
  obtain ⟨c, hc, hi⟩ := idx_int b (a + 60 + s) (by omega) (by omega)
  rw [hc]
  by_cases h4 : c = 10
  · rw [if_pos (by rw [h4])]
    rcases hk' with q | ⟨q, q'⟩
    · exact fil_pad_k b d u g m s a k so nu z 0 n fn da w hm ha hab hs0 hs1 q hl D hD (c.toNat : Int) hi h2 (by omega) (by rw [h4]; rfl)
    · exact fil_pad_s b d u g m s a k so nu z 0 n fn da w hm ha hab hs0 hs1 q q' hl D hD (c.toNat : Int) hi h2 (by omega) (by rw [h4]; rfl)
  · have hn10 : ¬ (c.toNat : Int) = 10 := fun q => h4 (UInt8.toNat_inj.1 (by show c.toNat = 10; omega))
    rw [if_neg (fun q => h4 (by injection q))]
    rcases hk' with q | ⟨q, q'⟩
    · exact fil_wrong_k b d u g m s a k so nu z 0 n fn da w hm ha hab hs0 hs1 q hl D hD (c.toNat : Int) hi h2 (by omega) hn10
    · exact fil_wrong_s b d u g m s a k so nu z 0 n fn da w hm ha hab hs0 hs1 q q' hl D hD (c.toNat : Int) hi h2 (by omega) hn10
theorem rmember_c (t : ByteArray) (x : Pt) (he : x.e = 0) (k : Int) (w : World) (hs : x.f.sort = 4 ∨ x.f.sort = 5 ∨ x.f.sort = 6 ∨ x.f.sort = 7) (ht : t.size ≤ maxLen) (hd : x.data.size ≤ maxLen) :
    Calls Tryz.prog 70 #[.int .i64 k, .string t, .agg (rpRow x)] w fun e w' => e = .returned (.tuple #[mbV (mbOf (nameW t x)), .int .i64 (nameW t x).e]) ∧ Below w.heap.size w w' := by
  obtain ⟨⟨d, u, g, m, n, s⟩, a, z, kk, ⟨so, nu, fn⟩, nm, da, e⟩ := x
  dsimp only at he hs hd
  subst he
  rcases hs with h | h | h | h
  · subst h; exact rm_own4 t d u g m s k 4 nu z 0 n fn da w rfl
  · subst h; exact rm_ref t d u g m s k 5 nu z 0 n fn da w _ _ (fun w => rlook_c t nu w ht) rfl
  · subst h; exact rm_own6 t d u g m s k 6 nu z 0 n fn da w rfl
  · subst h; exact rm_long t d u g m s k 7 nu z 0 n fn da w _ _ _ (fun w => rinline_c da nu w hd) rfl

end Go.Proofs.YtnfplepaejjmfaaGreatDoor
