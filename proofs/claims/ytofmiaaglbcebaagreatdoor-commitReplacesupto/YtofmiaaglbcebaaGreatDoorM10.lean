import Derived.Test.YtofmiaaglbcebaaGreatDoorM9
import Derived.Test.YtofmiaaglbcebaaGreatDoorQ2
import Derived.Deep.RegionWith
import Derived.Deep.CutRange
import Derived.Test.YtofmiaaglbcebaaGreatDoorU16z
import Derived.Deep.DrawnRows

-- One step on both volumes.
namespace Go.Proofs.YtofmiaaglbcebaaGreatDoor
open Go.RowKit
set_option linter.unusedVariables false
set_option maxRecDepth 100000
variable {PS : (Nat → Prop) → Nat → St → World → Prop}
/-- Both volumes alike, behind k calls. -/
def Bk (PS : (Nat → Prop) → Nat → St → World → Prop) (B q r k : Nat) (w : World) : Prop := ∃ v L, Bs PS B q r v v (fun _ => False) L w ∧ Vf v k
theorem Bs.bk {B q r k L : Nat} {v : Vs} {S : Nat → Prop} {w : World} (h : Bs PS B q r v v S L w) (hv : Vf v k) : Bk PS B q r k w := ⟨v, L, h.sub (fun _ h' => h'.elim), hv⟩
theorem Bk.below (C : PC PS) {B q r k : Nat} {w w' : World} (h : Bk PS B q r k w) (hb : Below w.heap.size w w') : Bk PS B q r k w' := by
  obtain ⟨v, L, h1, h2⟩ := h
  exact ⟨v, L, h1.below C hb, h2⟩
theorem Bk.low {B q r k : Nat} {w : World} (h : Bk PS B q r k w) : B ≤ w.heap.size := by
  obtain ⟨v, L, h1, h2⟩ := h
  exact h1.low
theorem Bk.mono {B q r k k' : Nat} {w : World} (h : Bk PS B q r k w) (hk : k ≤ k') : Bk PS B q r k' w := by
  obtain ⟨v, L, h1, h2⟩ := h
  exact ⟨v, L, h1, h2.mono hk⟩
theorem fillN_at (x : Hd) (data : ByteArray) (n : Nat) : ∀ k v, 4 ≤ (Vs.fillN x data n k v).1.2 ∧ (Vs.fillN x data n k v).1.2 ≤ 5 := by
  induction n with
  | zero => intro k v; unfold Vs.fillN; simp
  | succ n ih =>
    intro k v
    unfold Vs.fillN
    split
    · simp
    · exact ih _ _
theorem repl_at (v : Vs) (a b : ByteArray) (m0 m1 m2 m3 : Int) : (v.replace a b m0 m1 m2 m3).1.2 ≤ 7 ∧ ((v.replace a b m0 m1 m2 m3).1.1 ≠ 0 → (v.replace a b m0 m1 m2 m3).1.2 ≠ 0) := by
  unfold Vs.replace
  split
  · simp
  · split
    · simp
    · split
      · simp
      · have hx := exch_at v.syncDir.2 a b m0 m1 m2 m3
        unfold Vs.lastly
        split
        · exact ⟨by omega, fun _ => by omega⟩
        · split <;> simp
set_option maxHeartbeats 8000000 in
theorem acts1 (C : PC PS) (B q r k : Nat) (n : Int) (a b : ByteArray) (m0 m1 m2 m3 : Int) (po : Option Addr) (pl pc : Nat) (co : Option Addr) (cl cc : Nat) (w : World) (h : Bk PS B q r k w) (hk : k < 2097151) :
    Calls Tryz.prog 9 #[.pointer (some ⟨q, 0, none⟩), .pointer (some ⟨r, 0, none⟩), .agg #[.int .i64 1, .int .i64 n, .string a, .string b, .int .i64 m0, .int .i64 m1, .int .i64 m2, .int .i64 m3, .slice po pl pc, .slice co cl cc]] w fun e w' => e = .returned (.bool true) ∧ Bk PS B q r (k + 1) w' ∧ Below B w w' := by
  obtain ⟨v, L, hb0, hv⟩ := h
  have hB := hb0.low
  obtain ⟨W0, hW0⟩ : ∃ W0, W0 = w.alloc (Obj.cells #[.int .i64 1, .int .i64 n, .string a, .string b, .int .i64 m0, .int .i64 m1, .int .i64 m2, .int .i64 m3, .slice po pl pc, .slice co cl cc] 34) := ⟨_, rfl⟩
  have hbA : Below w.heap.size w W0 := by rw [hW0]; exact (Below.refl _ w).alloc (Nat.le_refl _) _
  obtain ⟨S0, hS0⟩ : ∃ S0 : Nat → Prop, S0 = fun k => False ∨ (w.heap.size ≤ k ∧ k < W0.heap.size) := ⟨_, rfl⟩
  have hs0 : Bs PS B q r v v S0 L W0 := by rw [hS0]; exact hb0.grow C hbA
  have hx0 : W0.heap[w.heap.size]? = some (.cells #[.int .i64 1, .int .i64 n, .string a, .string b, .int .i64 m0, .int .i64 m1, .int .i64 m2, .int .i64 m3, .slice po pl pc, .slice co cl cc] 34 (0, 0)) := by rw [hW0]; exact heap_alloc_new _ _
  have hin : S0 w.heap.size := by rw [hS0]; exact .inr ⟨Nat.le_refl _, by rw [hW0]; simp⟩
  have HC : Hid (∀ W, Beside B S0 W0 W → W.cell? ⟨w.heap.size, 0, none⟩ = some (.int .i64 1) ∧ W.cell? ⟨w.heap.size, 2, none⟩ = some (.string a)) := fun W hW => by
    have hh := (hW.set _ hin).trans hx0
    refine ⟨?_, ?_⟩ <;> (rw [Lib.cell_of_heap hh]; rfl)
  have HW0 := hidK hW0
  have HB0 : Hid (Below B w W0) := hbA.mono hB
  have hcn : v.cnt ≤ 4194304 := by have := hv.cnt; omega
  obtain ⟨D, hD⟩ : ∃ x, x = (if (v.read a).1.2 = 0 then (v.read a).1.1 else ⟨#[]⟩) := ⟨_, rfl⟩
  obtain ⟨T, hT⟩ : ∃ x, x = decide ((v.read a).1.2 = 0) := ⟨_, rfl⟩
  obtain ⟨E, hE⟩ : ∃ x, x = (if (v.read a).1.2 = 30 then 0 else (v.read a).1.2) := ⟨_, rfl⟩
  obtain ⟨V, hV⟩ : ∃ x, x = (v.read a).2 := ⟨_, rfl⟩
  have hvV : Vf V (k + 1) := by rw [hV]; exact hv.read a
  have HP : Hid (Calls Tryz.prog 19 #[.pointer (some ⟨q, 0, none⟩), .string a] W0 fun e w' => ∃ ev, e = .returned (.tuple #[.string D, .bool T, ev]) ∧ ErrIs w' W0.heap.size ⟨#[114, 101, 97, 100]⟩ a E ev ∧ Bs PS B q r V v S0 W0.heap.size w' ∧ Beside B S0 W0 w') := by
    have := bs_load C B q r v v S0 L a W0 hs0 hv.wf hcn
    rw [← hD, ← hT, ← hE, ← hV] at this; exact this
  have HR : Hid (∀ w1, Bs PS B q r V v S0 W0.heap.size w1 → Calls Tryz.prog 20 #[.pointer (some ⟨r, 0, none⟩), .string a] w1 fun e w' => e = .returned (.tuple #[.string D, .bool T, .int .i64 (E : Int)]) ∧ Bs PS B q r V V S0 w'.heap.size w' ∧ Beside B S0 w1 w' ∧ ∀ op nm e ev, ErrIs w1 W0.heap.size op nm e ev → ErrIs w' W0.heap.size op nm e ev) := fun w1 h1 => by
    have := bs_rload C B q r V v S0 W0.heap.size a w1 h1 hv.wf hcn
    rw [← hD, ← hT, ← hE, ← hV] at this; exact this
  have HT : Hid (∀ ev W, ErrIs W W0.heap.size ⟨#[114, 101, 97, 100]⟩ a E ev → Calls Tryz.prog 21 #[ev, .string ⟨#[114, 101, 97, 100]⟩, .string a, .int .i64 (E : Int)] W fun r w' => r = .returned (.bool true) ∧ Alike W w') := fun ev W he => told16_c _ _ _ _ _ _ he
  have HF : Hid (∀ w2 w3 : World, Bs PS B q r V V S0 w2.heap.size w2 → Alike w2 w3 → Bk PS B q r (k + 1) w3) := fun w2 w3 h2 hA => (h2.below C hA.below).bk hvV
  have b1 : (D.toList == D.toList) = true := by simp
  have b2 : (T == T) = true := by simp
  clear hs0 hx0 hin hbA hb0 hv hvV hcn hD hT hE hV hW0 hS0
  go_enter Tryz.func9, Tryz.ntmps9
  go_upto_region 2 with fail
  rw [← HW0.out]
  obtain ⟨s0, s2⟩ := HC.out W0 (Beside.refl _ _ _)
  go_upto_region 3 with (go_at_call 19; refine HP.out.mono ?_; rintro e w1 ⟨ev, rfl, he1, hb1, hk1⟩)
  clear s0 s2
  obtain ⟨s0, s2⟩ := HC.out w1 hk1
  go_upto_region 4 with (go_at_call 20; refine (HR.out w1 hb1).mono ?_; rintro e w2 ⟨rfl, hb2, hk2, he2⟩)
  clear s0 s2
  obtain ⟨s0, s2⟩ := HC.out w2 (hk1.trans hk2)
  have he3 := he2 _ _ _ _ he1
  clear he2 he1
  go_wp2_with (go_at_call 21; refine (HT.out _ _ he3).mono ?_; rintro e w3 ⟨rfl, hA3⟩)
  go_returns
  exact ⟨rfl, HF.out w2 w3 hb2 hA3, (HB0.out.trans (hk1.trans hk2).below).trans (hA3.below.mono hb2.low)⟩
set_option maxHeartbeats 8000000 in
theorem acts2 (C : PC PS) (B q r k : Nat) (n : Int) (a b : ByteArray) (m0 m1 m2 m3 : Int) (po : Option Addr) (pl pc : Nat) (co : Option Addr) (cl cc : Nat) (w : World) (h : Bk PS B q r k w) (hk : k + nP b + 8 < 2097151) (hbs : b.size ≤ 140737488355328) (has : a.size ≤ 140737488355328) :
    Calls Tryz.prog 9 #[.pointer (some ⟨q, 0, none⟩), .pointer (some ⟨r, 0, none⟩), .agg #[.int .i64 2, .int .i64 n, .string a, .string b, .int .i64 m0, .int .i64 m1, .int .i64 m2, .int .i64 m3, .slice po pl pc, .slice co cl cc]] w fun e w' => e = .returned (.bool true) ∧ Bk PS B q r (k + nP b + 6) w' ∧ Below B w w' := by
  obtain ⟨v, L, hb0, hv⟩ := h
  have hB := hb0.low
  obtain ⟨W0, hW0⟩ : ∃ W0, W0 = w.alloc (Obj.cells #[.int .i64 2, .int .i64 n, .string a, .string b, .int .i64 m0, .int .i64 m1, .int .i64 m2, .int .i64 m3, .slice po pl pc, .slice co cl cc] 34) := ⟨_, rfl⟩
  have hbA : Below w.heap.size w W0 := by rw [hW0]; exact (Below.refl _ w).alloc (Nat.le_refl _) _
  obtain ⟨S0, hS0⟩ : ∃ S0 : Nat → Prop, S0 = fun k => False ∨ (w.heap.size ≤ k ∧ k < W0.heap.size) := ⟨_, rfl⟩
  have hs0 : Bs PS B q r v v S0 L W0 := by rw [hS0]; exact hb0.grow C hbA
  have hx0 : W0.heap[w.heap.size]? = some (.cells #[.int .i64 2, .int .i64 n, .string a, .string b, .int .i64 m0, .int .i64 m1, .int .i64 m2, .int .i64 m3, .slice po pl pc, .slice co cl cc] 34 (0, 0)) := by rw [hW0]; exact heap_alloc_new _ _
  have hin : S0 w.heap.size := by rw [hS0]; exact .inr ⟨Nat.le_refl _, by rw [hW0]; simp⟩
  have HC : Hid (∀ W, Beside B S0 W0 W → W.cell? ⟨w.heap.size, 0, none⟩ = some (.int .i64 2) ∧ W.cell? ⟨w.heap.size, 2, none⟩ = some (.string a) ∧ W.cell? ⟨w.heap.size, 3, none⟩ = some (.string b) ∧ W.cell? ⟨w.heap.size, 4, none⟩ = some (.int .i64 m0) ∧ W.cell? ⟨w.heap.size, 5, none⟩ = some (.int .i64 m1) ∧ W.cell? ⟨w.heap.size, 6, none⟩ = some (.int .i64 m2) ∧ W.cell? ⟨w.heap.size, 7, none⟩ = some (.int .i64 m3)) := fun W hW => by
    have hh := (hW.set _ hin).trans hx0
    refine ⟨?_, ?_, ?_, ?_, ?_, ?_, ?_⟩ <;> (rw [Lib.cell_of_heap hh]; rfl)
  have HW0 := hidK hW0
  have HB0 : Hid (Below B w W0) := hbA.mono hB
  have hcn : v.cnt ≤ 4194304 := by have := hv.cnt; omega
  obtain ⟨E, hE⟩ : ∃ x, x = (v.replace a b m0 m1 m2 m3).1.1 := ⟨_, rfl⟩
  obtain ⟨A, hA⟩ : ∃ x, x = (v.replace a b m0 m1 m2 m3).1.2 := ⟨_, rfl⟩
  obtain ⟨V, hV⟩ : ∃ x, x = (v.replace a b m0 m1 m2 m3).2 := ⟨_, rfl⟩
  have hvV : Vf V (k + nP b + 6) := by rw [hV]; exact hv.replace a b (by omega) m0 m1 m2 m3
  have hA7 : A ≤ 7 ∧ (E ≠ 0 → A ≠ 0) := by rw [hA, hE]; exact repl_at v a b m0 m1 m2 m3
  have HP : Hid (Calls Tryz.prog 22 #[.pointer (some ⟨q, 0, none⟩), .string a, .string b, .agg #[.int .i64 m0, .int .i64 m1, .int .i64 m2, .int .i64 m3]] W0 fun e w' => ∃ ev, e = .returned ev ∧ ErrIs w' W0.heap.size (opR A) (nmR A a) E ev ∧ Bs PS B q r V v S0 W0.heap.size w' ∧ Beside B S0 W0 w') := by
    have := bs_repl C B q r v v S0 L a b m0 m1 m2 m3 W0 k hs0 hv hk hbs
    rw [← hE, ← hA, ← hV] at this; exact this
  have HR : Hid (∀ w1, Bs PS B q r V v S0 W0.heap.size w1 → Calls Tryz.prog 23 #[.pointer (some ⟨r, 0, none⟩), .string a, .string b, .agg #[.int .i64 m0, .int .i64 m1, .int .i64 m2, .int .i64 m3]] w1 fun e w' => e = .returned (.tuple #[.int .i64 (E : Int), .int .i64 (A : Int)]) ∧ Bs PS B q r V V S0 w'.heap.size w' ∧ Beside B S0 w1 w' ∧ ∀ op nm e ev, ErrIs w1 W0.heap.size op nm e ev → ErrIs w' W0.heap.size op nm e ev) := fun w1 h1 => by
    have := bs_told C B q r V v S0 W0.heap.size a b m0 m1 m2 m3 w1 k h1 hv hk hbs has
    rw [← hE, ← hA, ← hV] at this; exact this
  have HI : Hid (∀ W, Calls Tryz.prog 24 #[.int .i64 (A : Int), .string a] W fun e w' => ∃ o nn, e = .returned (.tuple #[.string o, .string nn]) ∧ (∀ ev, ErrIs W W0.heap.size (opR A) (nmR A a) E ev → ErrIs w' W0.heap.size o nn E ev) ∧ Below W.heap.size W w') := fun W => by
    refine (inner_c A a W hA7.1).mono ?_
    rintro e w' ⟨o, nn, rfl, h1, h2⟩
    refine ⟨o, nn, rfl, fun ev he => ?_, h2⟩
    by_cases h0 : E = 0
    · rcases he with he | ⟨he, _⟩
      · exact .inl he
      · exact absurd h0 he
    · obtain ⟨rfl, rfl⟩ := h1 (hA7.2 h0)
      exact he.below h2
  have HT : Hid (∀ o nn ev W, ErrIs W W0.heap.size o nn E ev → Calls Tryz.prog 21 #[ev, .string o, .string nn, .int .i64 (E : Int)] W fun r w' => r = .returned (.bool true) ∧ Alike W w') := fun o nn ev W he => told16_c _ _ _ _ _ _ he
  have HF : Hid (∀ w2 w3 w4 : World, Bs PS B q r V V S0 w2.heap.size w2 → Below w2.heap.size w2 w3 → Alike w3 w4 → Bk PS B q r (k + nP b + 6) w4) := fun w2 w3 w4 h2 hb hA => ((h2.below C hb).below C hA.below).bk hvV
  clear hs0 hx0 hin hbA hb0 hv hvV hcn hE hA hV hW0 hS0 hA7
  go_enter Tryz.func9, Tryz.ntmps9
  go_upto_region 6 with fail
  rw [← HW0.out]
  obtain ⟨s0, s2, s3, s4, s5, s6, s7⟩ := HC.out W0 (Beside.refl _ _ _)
  go_upto_region 7 with (go_at_call 22; refine HP.out.mono ?_; rintro e w1 ⟨ev, rfl, he1, hb1, hk1⟩)
  clear s0 s2 s3 s4 s5 s6 s7
  obtain ⟨s0, s2, s3, s4, s5, s6, s7⟩ := HC.out w1 hk1
  go_upto_region 8 with (go_at_call 23; refine (HR.out w1 hb1).mono ?_; rintro e w2 ⟨rfl, hb2, hk2, he2⟩)
  clear s0 s2 s3 s4 s5 s6 s7
  obtain ⟨s0, s2, s3, s4, s5, s6, s7⟩ := HC.out w2 (hk1.trans hk2)
  have he3 := he2 _ _ _ _ he1
  clear he2 he1 s3 s4 s5 s6 s7
  go_upto_region 9 with (go_at_call 24; refine (HI.out w2).mono ?_; rintro e w3 ⟨o, nn, rfl, he4, hb3⟩)
  have he5 := he4 _ he3
  clear he4 he3
  go_wp2_with (go_at_call 21; refine (HT.out _ _ _ _ he5).mono ?_; rintro e w4 ⟨rfl, hA4⟩)
  go_returns
  have hl2 := hb2.low
  exact ⟨rfl, HF.out w2 w3 w4 hb2 hb3 hA4, ((HB0.out.trans (hk1.trans hk2).below).trans (hb3.mono hl2)).trans (hA4.below.mono (by have := hb3.size; omega))⟩
end Go.Proofs.YtofmiaaglbcebaaGreatDoor

-- What the volumes tell.
namespace Go.Proofs.YtofmiaaglbcebaaGreatDoor
open Go.RowKit
set_option linter.unusedVariables false
set_option maxRecDepth 100000
variable {PS : (Nat → Prop) → Nat → St → World → Prop}
set_option maxHeartbeats 8000000 in
theorem asks3 (C : PC PS) (B q r k : Nat) (n : Int) (a b : ByteArray) (m0 m1 m2 m3 : Int) (po : Option Addr) (pl pc : Nat) (co : Option Addr) (cl cc : Nat) (w : World) (h : Bk PS B q r k w) (hk : k < 2097151) :
    Calls Tryz.prog 10 #[.pointer (some ⟨q, 0, none⟩), .pointer (some ⟨r, 0, none⟩), .agg #[.int .i64 3, .int .i64 n, .string a, .string b, .int .i64 m0, .int .i64 m1, .int .i64 m2, .int .i64 m3, .slice po pl pc, .slice co cl cc]] w fun e w' => e = .returned (.bool true) ∧ Bk PS B q r (k + 1) w' ∧ Below B w w' := by
  obtain ⟨v, L, hb0, hv⟩ := h
  have hB := hb0.low
  obtain ⟨W0, hW0⟩ : ∃ W0, W0 = w.alloc (Obj.cells #[.int .i64 3, .int .i64 n, .string a, .string b, .int .i64 m0, .int .i64 m1, .int .i64 m2, .int .i64 m3, .slice po pl pc, .slice co cl cc] 34) := ⟨_, rfl⟩
  have hbA : Below w.heap.size w W0 := by rw [hW0]; exact (Below.refl _ w).alloc (Nat.le_refl _) _
  obtain ⟨S0, hS0⟩ : ∃ S0 : Nat → Prop, S0 = fun k => False ∨ (w.heap.size ≤ k ∧ k < W0.heap.size) := ⟨_, rfl⟩
  have hs0 : Bs PS B q r v v S0 L W0 := by rw [hS0]; exact hb0.grow C hbA
  have hx0 : W0.heap[w.heap.size]? = some (.cells #[.int .i64 3, .int .i64 n, .string a, .string b, .int .i64 m0, .int .i64 m1, .int .i64 m2, .int .i64 m3, .slice po pl pc, .slice co cl cc] 34 (0, 0)) := by rw [hW0]; exact heap_alloc_new _ _
  have hin : S0 w.heap.size := by rw [hS0]; exact .inr ⟨Nat.le_refl _, by rw [hW0]; simp⟩
  have HC : Hid (∀ W, Beside B S0 W0 W → W.cell? ⟨w.heap.size, 0, none⟩ = some (.int .i64 3) ∧ W.cell? ⟨w.heap.size, 2, none⟩ = some (.string a)) := fun W hW => by
    have hh := (hW.set _ hin).trans hx0
    refine ⟨?_, ?_⟩ <;> (rw [Lib.cell_of_heap hh]; rfl)
  have HW0 := hidK hW0
  have HB0 : Hid (Below B w W0) := hbA.mono hB
  have hcn : v.cnt ≤ 4194304 := by have := hv.cnt; omega
  obtain ⟨D, hD⟩ : ∃ x, x = (v.read a).1.1 := ⟨_, rfl⟩
  obtain ⟨E, hE⟩ : ∃ x, x = (v.read a).1.2 := ⟨_, rfl⟩
  obtain ⟨V, hV⟩ : ∃ x, x = (v.read a).2 := ⟨_, rfl⟩
  have hvV : Vf V (k + 1) := by rw [hV]; exact hv.read a
  have HP : Hid (Calls Tryz.prog 25 #[.pointer (some ⟨q, 0, none⟩), .string a] W0 fun e w' => ∃ ev, e = .returned (.tuple #[.string D, ev]) ∧ ErrIs w' W0.heap.size ⟨#[114, 101, 97, 100]⟩ a E ev ∧ Bs PS B q r V v S0 W0.heap.size w' ∧ Beside B S0 W0 w') := by
    have := bs_read C B q r v v S0 L a W0 hs0 hv.wf hcn
    rw [← hD, ← hE, ← hV] at this
    refine this.mono ?_
    rintro e w' ⟨ev, h1, h2, h3, h4⟩
    exact ⟨ev, h1, h2, h3, h4⟩
  have HR : Hid (∀ w1, Bs PS B q r V v S0 W0.heap.size w1 → Calls Tryz.prog 26 #[.pointer (some ⟨r, 0, none⟩), .string a] w1 fun e w' => e = .returned (.tuple #[.string D, .int .i64 (E : Int)]) ∧ Bs PS B q r V V S0 w'.heap.size w' ∧ Beside B S0 w1 w' ∧ ∀ op nm e ev, ErrIs w1 W0.heap.size op nm e ev → ErrIs w' W0.heap.size op nm e ev) := fun w1 h1 => by
    have := bs_rread C B q r V v S0 W0.heap.size a w1 h1 hv.wf hcn
    rw [← hD, ← hE, ← hV] at this; exact this
  have HT : Hid (∀ ev W, ErrIs W W0.heap.size ⟨#[114, 101, 97, 100]⟩ a E ev → Calls Tryz.prog 21 #[ev, .string ⟨#[114, 101, 97, 100]⟩, .string a, .int .i64 (E : Int)] W fun r w' => r = .returned (.bool true) ∧ Alike W w') := fun ev W he => told16_c _ _ _ _ _ _ he
  have HF : Hid (∀ w2 w3 : World, Bs PS B q r V V S0 w2.heap.size w2 → Alike w2 w3 → Bk PS B q r (k + 1) w3) := fun w2 w3 h2 hA => (h2.below C hA.below).bk hvV
  have b1 : (D.toList == D.toList) = true := by simp
  clear hs0 hx0 hin hbA hb0 hv hvV hcn hD hE hV hW0 hS0
  go_enter Tryz.func10, Tryz.ntmps10
  go_upto_region 3 with fail
  rw [← HW0.out]
  obtain ⟨s0, s2⟩ := HC.out W0 (Beside.refl _ _ _)
  go_upto_region 4 with (go_at_call 25; refine HP.out.mono ?_; rintro e w1 ⟨ev, rfl, he1, hb1, hk1⟩)
  clear s0 s2
  obtain ⟨s0, s2⟩ := HC.out w1 hk1
  go_upto_region 5 with (go_at_call 26; refine (HR.out w1 hb1).mono ?_; rintro e w2 ⟨rfl, hb2, hk2, he2⟩)
  clear s0 s2
  obtain ⟨s0, s2⟩ := HC.out w2 (hk1.trans hk2)
  have he3 := he2 _ _ _ _ he1
  clear he2 he1
  go_wp2_with (go_at_call 21; refine (HT.out _ _ he3).mono ?_; rintro e w3 ⟨rfl, hA3⟩)
  go_returns
  exact ⟨rfl, HF.out w2 w3 hb2 hA3, (HB0.out.trans (hk1.trans hk2).below).trans (hA3.below.mono hb2.low)⟩
theorem RowS.alike {W W' : World} {x : Value} {K : List ByteArray} (h : RowS W x K) (hA : Alike W W') : RowS W' x K := by
  rcases h with h | ⟨b, off, cap, h1, h2⟩
  · exact .inl h
  · exact .inr ⟨b, off, cap, h1, fun j hj => (World.cell?_of_block (a := ⟨b, off + j, none⟩) (by rw [hA.heap])).trans (h2 j hj)⟩
theorem list_len16 {v : Vs} (hw : Wf v.st) : v.list.1.1.length ≤ 64 := by
  unfold Vs.list
  split
  · simp
  · show v.st.names.length ≤ 64
    unfold St.names; rw [List.length_map]; exact now_len hw
set_option maxHeartbeats 8000000 in
theorem asks5 (C : PC PS) (B q r k : Nat) (n : Int) (a b : ByteArray) (m0 m1 m2 m3 : Int) (po : Option Addr) (pl pc : Nat) (co : Option Addr) (cl cc : Nat) (w : World) (h : Bk PS B q r k w) (hk : k < 2097151) :
    Calls Tryz.prog 10 #[.pointer (some ⟨q, 0, none⟩), .pointer (some ⟨r, 0, none⟩), .agg #[.int .i64 5, .int .i64 n, .string a, .string b, .int .i64 m0, .int .i64 m1, .int .i64 m2, .int .i64 m3, .slice po pl pc, .slice co cl cc]] w fun e w' => e = .returned (.bool true) ∧ Bk PS B q r (k + 1) w' ∧ Below B w w' := by
  obtain ⟨v, L, hb0, hv⟩ := h
  have hB := hb0.low
  obtain ⟨W0, hW0⟩ : ∃ W0, W0 = w.alloc (Obj.cells #[.int .i64 5, .int .i64 n, .string a, .string b, .int .i64 m0, .int .i64 m1, .int .i64 m2, .int .i64 m3, .slice po pl pc, .slice co cl cc] 34) := ⟨_, rfl⟩
  have hbA : Below w.heap.size w W0 := by rw [hW0]; exact (Below.refl _ w).alloc (Nat.le_refl _) _
  obtain ⟨S0, hS0⟩ : ∃ S0 : Nat → Prop, S0 = fun k => False ∨ (w.heap.size ≤ k ∧ k < W0.heap.size) := ⟨_, rfl⟩
  have hs0 : Bs PS B q r v v S0 L W0 := by rw [hS0]; exact hb0.grow C hbA
  have hx0 : W0.heap[w.heap.size]? = some (.cells #[.int .i64 5, .int .i64 n, .string a, .string b, .int .i64 m0, .int .i64 m1, .int .i64 m2, .int .i64 m3, .slice po pl pc, .slice co cl cc] 34 (0, 0)) := by rw [hW0]; exact heap_alloc_new _ _
  have hin : S0 w.heap.size := by rw [hS0]; exact .inr ⟨Nat.le_refl _, by rw [hW0]; simp⟩
  have HC : Hid (∀ W, Beside B S0 W0 W → W.cell? ⟨w.heap.size, 0, none⟩ = some (.int .i64 5) ∧ W.cell? ⟨w.heap.size, 2, none⟩ = some (.string a)) := fun W hW => by
    have hh := (hW.set _ hin).trans hx0
    refine ⟨?_, ?_⟩ <;> (rw [Lib.cell_of_heap hh]; rfl)
  have HW0 := hidK hW0
  have HB0 : Hid (Below B w W0) := hbA.mono hB
  have hcn : v.cnt ≤ 4194304 := by have := hv.cnt; omega
  obtain ⟨K, hK⟩ : ∃ x, x = v.list.1.1 := ⟨_, rfl⟩
  obtain ⟨E, hE⟩ : ∃ x, x = v.list.1.2 := ⟨_, rfl⟩
  obtain ⟨V, hV⟩ : ∃ x, x = v.list.2 := ⟨_, rfl⟩
  have hvV : Vf V (k + 1) := by rw [hV]; exact hv.list
  have hKl : K.length ≤ 64 := by rw [hK]; exact list_len16 hv.wf
  have HS : Hid (∀ va vb W, RowS W va K → RowS W vb K → Calls Tryz.prog 31 #[va, vb] W fun e w' => e = .returned (.bool true) ∧ Alike W w') := fun va vb W h1 h2 => (same16_c va vb K K W h1 h2 (by omega) (by omega)).mono (by
    rintro e w' ⟨rfl, n, rfl⟩
    exact ⟨by simp, Alike.drewN _ n⟩)
  have HP : Hid (Calls Tryz.prog 29 #[.pointer (some ⟨q, 0, none⟩)] W0 fun e w' => ∃ ao c ev, e = .returned (.tuple #[.slice ao K.length c, ev]) ∧ ErrIs w' W0.heap.size ⟨#[108, 105, 115, 116]⟩ ⟨#[]⟩ E ev ∧ w'.ownsRow W0.heap.size 9 1 (.slice ao K.length c) K.length (strV K) ∧ Bs PS B q r V v S0 W0.heap.size w' ∧ Beside B S0 W0 w') := by
    have := bs_list C B q r v v S0 L W0 hs0 hv.wf hcn
    rw [← hK, ← hE, ← hV] at this
    refine this.mono ?_
    rintro e w' ⟨x, ev, h1, h2, h2', h3, h4⟩
    obtain ⟨ao, c, rfl⟩ := own_shape h2
    exact ⟨ao, c, ev, h1, h2', h2, h3, h4⟩
  have HR : Hid (∀ w1, Bs PS B q r V v S0 W0.heap.size w1 → Calls Tryz.prog 30 #[.pointer (some ⟨r, 0, none⟩)] w1 fun e w' => ∃ ao c, e = .returned (.tuple #[.slice ao K.length c, .int .i64 (E : Int)]) ∧ RowS w' (.slice ao K.length c) K ∧ (∀ x, w1.ownsRow W0.heap.size 9 1 x K.length (strV K) → RowS w' x K) ∧ Bs PS B q r V V S0 w'.heap.size w' ∧ Beside B S0 w1 w' ∧ ∀ op nm e ev, ErrIs w1 W0.heap.size op nm e ev → ErrIs w' W0.heap.size op nm e ev) := fun w1 h1 => by
    have := bs_rlist C B q r V v S0 W0.heap.size w1 h1 hv.wf hcn
    rw [← hK, ← hE, ← hV] at this
    refine this.mono ?_
    rintro e w' ⟨⟨x, h1, h2⟩, h3, h4⟩
    obtain ⟨ao, c, rfl⟩ := own_shape h2
    exact ⟨ao, c, h1, RowS.of_own h2, fun y hy => RowS.of_own (h3 _ _ _ hy), h4⟩
  have HT : Hid (∀ ev W, ErrIs W W0.heap.size ⟨#[108, 105, 115, 116]⟩ ⟨#[]⟩ E ev → Calls Tryz.prog 21 #[ev, .string ⟨#[108, 105, 115, 116]⟩, .string ⟨#[]⟩, .int .i64 (E : Int)] W fun r w' => r = .returned (.bool true) ∧ Alike W w') := fun ev W he => told16_c _ _ _ _ _ _ he
  have HF : Hid (∀ w2 w3 w4 : World, Bs PS B q r V V S0 w2.heap.size w2 → Alike w2 w3 → Alike w3 w4 → Bk PS B q r (k + 1) w4) := fun w2 w3 w4 h2 hA hA2 => ((h2.below C hA.below).below C hA2.below).bk hvV
  have HRB : Hid (∀ x (W W' : World), RowS W x K → Alike W W' → RowS W' x K) := fun x W W' h hA => h.alike hA
  obtain ⟨LL, hLL⟩ : ∃ n, n = K.length := ⟨_, rfl⟩
  rw [← hLL] at HP HR
  clear hs0 hx0 hin hbA hb0 hv hvV hcn hE hV hW0 hS0 hKl hK hLL
  go_enter Tryz.func10, Tryz.ntmps10
  go_upto_region 13 with fail
  rw [← HW0.out]
  go_upto_region 14 with (go_at_call 29; refine HP.out.mono ?_; rintro e w1 ⟨ao, c, ev, rfl, he1, ho1, hb1, hk1⟩)
  go_upto_region 15 with (go_at_call 30; refine (HR.out w1 hb1).mono ?_; rintro e w2 ⟨ao2, c2, rfl, ho2, ho3, hb2, hk2, he2⟩)
  have he3 := he2 _ _ _ _ he1
  have ho3' := ho3 _ ho1
  clear he2 he1 ho3 ho1
  go_upto_region 16 with (go_at_call 21; refine (HT.out _ _ he3).mono ?_; rintro e w3 ⟨rfl, hA3⟩)
  have ho4 := HRB.out _ _ _ ho2 hA3
  have ho5 := HRB.out _ _ _ ho3' hA3
  clear ho2 ho3'
  go_wp2_with (go_at_call 31; refine (HS.out _ _ _ ho5 ho4).mono ?_; rintro e w4 ⟨rfl, hA4⟩)
  go_returns
  exact ⟨rfl, HF.out w2 w3 w4 hb2 hA3 hA4, ((HB0.out.trans (hk1.trans hk2).below).trans (hA3.below.mono hb2.low)).trans (hA4.below.mono (by have := hb2.low; have := hA3.below.size; omega))⟩
theorem asks6 (C : PC PS) (B q r k : Nat) (n : Int) (a b : ByteArray) (m0 m1 m2 m3 : Int) (po : Option Addr) (pl pc : Nat) (co : Option Addr) (cl cc : Nat) (w : World) (h : Bk PS B q r k w) (hk : k < 2097151) :
    Calls Tryz.prog 10 #[.pointer (some ⟨q, 0, none⟩), .pointer (some ⟨r, 0, none⟩), .agg #[.int .i64 6, .int .i64 n, .string a, .string b, .int .i64 m0, .int .i64 m1, .int .i64 m2, .int .i64 m3, .slice po pl pc, .slice co cl cc]] w fun e w' => e = .returned (.bool true) ∧ Bk PS B q r (k + 1) w' ∧ Below B w w' := by
  obtain ⟨v, L, hb0, hv⟩ := h
  have hB := hb0.low
  obtain ⟨W0, hW0⟩ : ∃ W0, W0 = w.alloc (Obj.cells #[.int .i64 6, .int .i64 n, .string a, .string b, .int .i64 m0, .int .i64 m1, .int .i64 m2, .int .i64 m3, .slice po pl pc, .slice co cl cc] 34) := ⟨_, rfl⟩
  have hbA : Below w.heap.size w W0 := by rw [hW0]; exact (Below.refl _ w).alloc (Nat.le_refl _) _
  obtain ⟨S0, hS0⟩ : ∃ S0 : Nat → Prop, S0 = fun k => False ∨ (w.heap.size ≤ k ∧ k < W0.heap.size) := ⟨_, rfl⟩
  have hs0 : Bs PS B q r v v S0 L W0 := by rw [hS0]; exact hb0.grow C hbA
  have hx0 : W0.heap[w.heap.size]? = some (.cells #[.int .i64 6, .int .i64 n, .string a, .string b, .int .i64 m0, .int .i64 m1, .int .i64 m2, .int .i64 m3, .slice po pl pc, .slice co cl cc] 34 (0, 0)) := by rw [hW0]; exact heap_alloc_new _ _
  have hin : S0 w.heap.size := by rw [hS0]; exact .inr ⟨Nat.le_refl _, by rw [hW0]; simp⟩
  have HC : Hid (∀ W, Beside B S0 W0 W → W.cell? ⟨w.heap.size, 0, none⟩ = some (.int .i64 6) ∧ W.cell? ⟨w.heap.size, 2, none⟩ = some (.string a)) := fun W hW => by
    have hh := (hW.set _ hin).trans hx0
    refine ⟨?_, ?_⟩ <;> (rw [Lib.cell_of_heap hh]; rfl)
  have HW0 := hidK hW0
  have HB0 : Hid (Below B w W0) := hbA.mono hB
  have hcn : v.cnt ≤ 4194304 := by have := hv.cnt; omega
  have HP : Hid (Calls Tryz.prog 32 #[.pointer (some ⟨q, 0, none⟩)] W0 fun e w' => e = .returned (.int .i64 v.cnt) ∧ w' = W0) := bs_calls C B q r v v S0 L W0 hs0
  have HR : Hid (Calls Tryz.prog 33 #[.pointer (some ⟨r, 0, none⟩)] W0 fun e w' => e = .returned (.int .i64 v.cnt) ∧ w' = W0) := bs_rcalls C B q r v v S0 L W0 hs0
  have HD : Hid (Calls Tryz.prog 34 #[.pointer (some ⟨q, 0, none⟩)] W0 fun e w' => e = .returned (.bool v.off) ∧ w' = W0) := bs_down C B q r v v S0 L W0 hs0
  have HE : Hid (Calls Tryz.prog 35 #[.pointer (some ⟨r, 0, none⟩)] W0 fun e w' => e = .returned (.bool v.off) ∧ w' = W0) := bs_rdown C B q r v v S0 L W0 hs0
  have HF : Hid (Bk PS B q r (k + 1) W0) := (hs0.bk hv).mono (by omega)
  have b1 : ((v.cnt : Int) == v.cnt) = true := by simp
  have b2 : (v.off == v.off) = true := by simp
  clear hs0 hx0 hin hbA hb0 hv hcn hW0 hS0
  go_enter Tryz.func10, Tryz.ntmps10
  go_upto_region 18 with fail
  rw [← HW0.out]
  go_wp2_with (first
    | (go_at_call 32; refine HP.out.mono ?_; rintro e w1 ⟨rfl, hw1⟩; rw [hw1]; clear hw1)
    | (go_at_call 33; refine HR.out.mono ?_; rintro e w1 ⟨rfl, hw1⟩; rw [hw1]; clear hw1)
    | (go_at_call 34; refine HD.out.mono ?_; rintro e w1 ⟨rfl, hw1⟩; rw [hw1]; clear hw1)
    | (go_at_call 35; refine HE.out.mono ?_; rintro e w1 ⟨rfl, hw1⟩; rw [hw1]; clear hw1))
  go_returns
  exact ⟨rfl, HF.out, HB0.out⟩
end Go.Proofs.YtofmiaaglbcebaaGreatDoor

-- Stat on both volumes.
namespace Go.Proofs.YtofmiaaglbcebaaGreatDoor
open Go.RowKit
set_option linter.unusedVariables false
set_option maxRecDepth 100000
variable {PS : (Nat → Prop) → Nat → St → World → Prop}
attribute [local go_sem ↓] Go.wp_at_zero Go.wp_at_succ
/-- Six cells of a block written. -/
def six (w : World) (r : Nat) (v0 v1 v2 v3 v4 v5 : Value) : World := (((((w.setCell ⟨r, 0, none⟩ v0).setCell ⟨r, 1, none⟩ v1).setCell ⟨r, 2, none⟩ v2).setCell ⟨r, 3, none⟩ v3).setCell ⟨r, 4, none⟩ v4).setCell ⟨r, 5, none⟩ v5
theorem six_other (w : World) (r : Nat) (v0 v1 v2 v3 v4 v5 : Value) {k : Nat} (h : k ≠ r) : (six w r v0 v1 v2 v3 v4 v5).heap[k]? = w.heap[k]? := by
  unfold six
  rw [Below.heap_setCell _ _ _ _ h, Below.heap_setCell _ _ _ _ h, Below.heap_setCell _ _ _ _ h, Below.heap_setCell _ _ _ _ h, Below.heap_setCell _ _ _ _ h, Below.heap_setCell _ _ _ _ h]
theorem six_size (w : World) (r : Nat) (v0 v1 v2 v3 v4 v5 : Value) : (six w r v0 v1 v2 v3 v4 v5).heap.size = w.heap.size := by simp [six, World.setCell]
theorem set_os (w : World) (a : Addr) (v : Value) : (w.setCell a v).os = w.os ∧ (w.setCell a v).tape = w.tape ∧ (w.setCell a v).output = w.output := ⟨rfl, rfl, rfl⟩
theorem six_rest (w : World) (r : Nat) (v0 v1 v2 v3 v4 v5 : Value) : (six w r v0 v1 v2 v3 v4 v5).os = w.os ∧ (six w r v0 v1 v2 v3 v4 v5).tape = w.tape ∧ (six w r v0 v1 v2 v3 v4 v5).output = w.output := by
  unfold six
  refine ⟨?_, ?_, ?_⟩
  · rw [(set_os _ _ _).1, (set_os _ _ _).1, (set_os _ _ _).1, (set_os _ _ _).1, (set_os _ _ _).1, (set_os _ _ _).1]
  · rw [(set_os _ _ _).2.1, (set_os _ _ _).2.1, (set_os _ _ _).2.1, (set_os _ _ _).2.1, (set_os _ _ _).2.1, (set_os _ _ _).2.1]
  · rw [(set_os _ _ _).2.2, (set_os _ _ _).2.2, (set_os _ _ _).2.2, (set_os _ _ _).2.2, (set_os _ _ _).2.2, (set_os _ _ _).2.2]
set_option maxHeartbeats 16000000 in
theorem asks4 (C : PC PS) (B q r k : Nat) (n : Int) (a b : ByteArray) (m0 m1 m2 m3 : Int) (po : Option Addr) (pl pc : Nat) (co : Option Addr) (cl cc : Nat) (w : World) (h : Bk PS B q r k w) (hk : k < 2097151) :
    Calls Tryz.prog 10 #[.pointer (some ⟨q, 0, none⟩), .pointer (some ⟨r, 0, none⟩), .agg #[.int .i64 4, .int .i64 n, .string a, .string b, .int .i64 m0, .int .i64 m1, .int .i64 m2, .int .i64 m3, .slice po pl pc, .slice co cl cc]] w fun e w' => e = .returned (.bool true) ∧ Bk PS B q r (k + 1) w' ∧ Below B w w' := by
  obtain ⟨v, L, hb0, hv⟩ := h
  have hB := hb0.low
  obtain ⟨W0, hW0⟩ : ∃ W0, W0 = w.alloc (Obj.cells #[.int .i64 4, .int .i64 n, .string a, .string b, .int .i64 m0, .int .i64 m1, .int .i64 m2, .int .i64 m3, .slice po pl pc, .slice co cl cc] 34) := ⟨_, rfl⟩
  have hbA : Below w.heap.size w W0 := by rw [hW0]; exact (Below.refl _ w).alloc (Nat.le_refl _) _
  obtain ⟨S0, hS0⟩ : ∃ S0 : Nat → Prop, S0 = fun k => False ∨ (w.heap.size ≤ k ∧ k < W0.heap.size) := ⟨_, rfl⟩
  have hs0 : Bs PS B q r v v S0 L W0 := by rw [hS0]; exact hb0.grow C hbA
  have hx0 : W0.heap[w.heap.size]? = some (.cells #[.int .i64 4, .int .i64 n, .string a, .string b, .int .i64 m0, .int .i64 m1, .int .i64 m2, .int .i64 m3, .slice po pl pc, .slice co cl cc] 34 (0, 0)) := by rw [hW0]; exact heap_alloc_new _ _
  have hin : S0 w.heap.size := by rw [hS0]; exact .inr ⟨Nat.le_refl _, by rw [hW0]; simp⟩
  have HC : Hid (∀ W, Beside B S0 W0 W → W.cell? ⟨w.heap.size, 0, none⟩ = some (.int .i64 4) ∧ W.cell? ⟨w.heap.size, 2, none⟩ = some (.string a)) := fun W hW => by
    have hh := (hW.set _ hin).trans hx0
    refine ⟨?_, ?_⟩ <;> (rw [Lib.cell_of_heap hh]; rfl)
  have HW0 := hidK hW0
  have HB0 : Hid (Below B w W0) := hbA.mono hB
  have hcn : v.cnt ≤ 4194304 := by have := hv.cnt; omega
  obtain ⟨E, hE⟩ : ∃ x, x = (v.stat a).1.2 := ⟨_, rfl⟩
  obtain ⟨V, hV⟩ : ∃ x, x = (v.stat a).2 := ⟨_, rfl⟩
  obtain ⟨F1, F2, F3, F4, F5, F6, hF⟩ : ∃ (F1 F2 F3 F4 : Int) (F5 : ByteArray) (F6 : Nat), Value.agg (stV v a) = .agg #[.int .i64 F1, .int .i64 F2, .int .i64 F3, .int .i64 F4, .string F5, .int .i64 (F6 : Nat)] := ⟨_, _, _, _, _, _, rfl⟩
  have hvV : Vf V (k + 1) := by rw [hV]; exact hv.stat a
  have hSB : ∀ k, S0 k → B ≤ k := fun k hk => by
    rw [hS0] at hk
    rcases hk with hk | hk
    · exact hk.elim
    · omega
  have HP : Hid (∀ W, Below W0.heap.size W0 W → Calls Tryz.prog 27 #[.pointer (some ⟨q, 0, none⟩), .string a] W fun e w' => ∃ ev, e = .returned (.tuple #[.agg #[.int .i64 F1, .int .i64 F2, .int .i64 F3, .int .i64 F4, .string F5, .int .i64 (F6 : Nat)], ev]) ∧ (∃ S1, Bs PS B q r V v S1 W.heap.size w' ∧ (∀ k, S1 k → B ≤ k) ∧ (∀ k, w.heap.size ≤ k → k < W.heap.size → S1 k) ∧ ErrIs w' W.heap.size ⟨#[115, 116, 97, 116]⟩ a E ev) ∧ (∀ k, w.heap.size ≤ k → k < W.heap.size → w'.heap[k]? = W.heap[k]?) ∧ Below B w w' ∧ W.heap.size ≤ w'.heap.size) := fun W hbW => by
    have hsW := hbW.size
    have hb1 := hs0.grow C hbW
    have := bs_stat C B q r v v _ L a W hb1 hv.wf hcn
    refine this.mono ?_
    rintro e w' ⟨ev, h1, h2, h3, h4⟩
    rw [← hV] at h3
    rw [← hE] at h2
    rw [hF] at h1
    have hin2 : ∀ k, w.heap.size ≤ k → k < W.heap.size → (S0 k ∨ (W0.heap.size ≤ k ∧ k < W.heap.size)) := fun k g1 g2 => by
      rcases Nat.lt_or_ge k W0.heap.size with g3 | g3
      · left; rw [hS0]; exact .inr ⟨g1, g3⟩
      · exact .inr ⟨g3, g2⟩
    refine ⟨ev, h1, ⟨_, h3, fun k hk => ?_, hin2, h2⟩, fun k g1 g2 => h4.set k (hin2 k g1 g2), (HB0.out.trans (hbW.mono hs0.low)).trans h4.below, ?_⟩
    · rcases hk with hk | hk
      · exact hSB k hk
      · have := hs0.low; omega
    · exact h4.below.size
  have HR : Hid (∀ S1 L1 wx, Bs PS B q r V v S1 L1 wx → (∀ k, S1 k → B ≤ k) → ∀ W, Below wx.heap.size wx W → Calls Tryz.prog 28 #[.pointer (some ⟨r, 0, none⟩), .string a] W fun e w' => e = .returned (.tuple #[.agg #[.int .i64 F1, .int .i64 F2, .int .i64 F3, .int .i64 F4, .string F5, .int .i64 (F6 : Nat)], .int .i64 (E : Int)]) ∧ (∃ S2, Bs PS B q r V V S2 w'.heap.size w' ∧ (∀ k, S2 k → B ≤ k) ∧ (∀ k, S1 k → S2 k) ∧ (∀ k, wx.heap.size ≤ k → k < W.heap.size → S2 k)) ∧ (∀ k, S1 k → w'.heap[k]? = wx.heap[k]?) ∧ (∀ k, wx.heap.size ≤ k → k < W.heap.size → w'.heap[k]? = W.heap[k]?) ∧ Below B wx w' ∧ W.heap.size ≤ w'.heap.size ∧ (∀ ev, ErrIs wx L1 ⟨#[115, 116, 97, 116]⟩ a E ev → ErrIs w' L1 ⟨#[115, 116, 97, 116]⟩ a E ev)) := fun S1 L1 wx h1 hS W hbW => by
    have hsW := hbW.size
    have hb1 := h1.grow C hbW
    have := bs_rstat C B q r V v _ L1 a W hb1 hv.wf hcn
    refine this.mono ?_
    rintro e w' ⟨h2, h3, h4, h5⟩
    rw [← hV] at h3
    rw [← hE, hF] at h2
    refine ⟨h2, ⟨_, h3, fun k hk => ?_, fun k hk => .inl hk, fun k g1 g2 => .inr ⟨g1, g2⟩⟩, fun k hk => ?_, fun k g1 g2 => h4.set k (.inr ⟨g1, g2⟩), (hbW.mono h1.low).trans h4.below, h4.below.size, fun ev he => h5 _ _ _ _ (he.below hbW)⟩
    · rcases hk with hk | hk
      · exact hS k hk
      · have := h1.low; omega
    · rw [h4.set k (.inl hk), hbW.block k (h1.lt hk)]
  have HT : Hid (∀ L1 ev W, ErrIs W L1 ⟨#[115, 116, 97, 116]⟩ a E ev → Calls Tryz.prog 21 #[ev, .string ⟨#[115, 116, 97, 116]⟩, .string a, .int .i64 (E : Int)] W fun r w' => r = .returned (.bool true) ∧ Alike W w') := fun L1 ev W he => told16_c _ _ _ _ _ _ he
  have HF : Hid (∀ S2 L2 (w2 w3 : World), Bs PS B q r V V S2 L2 w2 → Alike w2 w3 → Bk PS B q r (k + 1) w3) := fun S2 L2 w2 w3 h2 hA => (h2.below C hA.below).bk hvV
  have HX : Hid (∀ W : World, W.heap[w.heap.size]? = some (.cells #[.int .i64 4, .int .i64 n, .string a, .string b, .int .i64 m0, .int .i64 m1, .int .i64 m2, .int .i64 m3, .slice po pl pc, .slice co cl cc] 34 (0, 0)) → W.cell? ⟨w.heap.size, 2, none⟩ = some (.string a)) := fun W hh => by rw [Lib.cell_of_heap hh]; rfl
  have HX0 : Hid (W0.heap[w.heap.size]? = some (.cells #[.int .i64 4, .int .i64 n, .string a, .string b, .int .i64 m0, .int .i64 m1, .int .i64 m2, .int .i64 m3, .slice po pl pc, .slice co cl cc] 34 (0, 0)) ∧ w.heap.size < W0.heap.size) := ⟨hx0, by rw [hW0]; simp⟩
  have HOV : Hid (∀ V2 S1 L1 (wx W' : World) ib, Bs PS B q r V V2 S1 L1 wx → (∀ k, S1 k → B ≤ k) → S1 ib → wx.heap.size ≤ W'.heap.size → (∀ k, k ≠ ib → k < wx.heap.size → W'.heap[k]? = wx.heap[k]?) → Bs PS B q r V V2 S1 L1 W') := fun V2 S1 L1 wx W' ib g1 g2 g3 g4 g5 => g1.over C g4 (fun k g6 g7 => g5 k (fun e => g7 (e ▸ g3)) g6) g2
  have HGR : Hid (∀ V2 S1 L1 (wx W' : World), Bs PS B q r V V2 S1 L1 wx → (∀ k, S1 k → B ≤ k) → Below wx.heap.size wx W' → ∃ S2, Bs PS B q r V V2 S2 L1 W' ∧ (∀ k, S2 k → B ≤ k) ∧ (∀ k, S1 k → S2 k) ∧ (∀ k, wx.heap.size ≤ k → k < W'.heap.size → S2 k)) := fun V2 S1 L1 wx W' g1 g2 g3 => ⟨_, g1.grow C g3, fun k hk => by
    rcases hk with hk | hk
    · exact g2 k hk
    · have := g1.low; omega, fun k hk => .inl hk, fun k h1 h2 => .inr ⟨h1, h2⟩⟩
  have HW0B : Hid (B ≤ W0.heap.size) := hs0.low
  clear hs0 hx0 hin hbA hb0 hv hvV hcn hE hV hF hW0 hS0 hSB
  obtain ⟨RA, hRA⟩ : ∃ R : World → Value → Prop, R = fun w1 ev => (∃ S1, Bs PS B q r V v S1 W0.heap.size w1 ∧ (∀ k, S1 k → B ≤ k) ∧ S1 w.heap.size ∧ ErrIs w1 W0.heap.size ⟨#[115, 116, 97, 116]⟩ a E ev) ∧ w1.heap[w.heap.size]? = some (.cells #[.int .i64 4, .int .i64 n, .string a, .string b, .int .i64 m0, .int .i64 m1, .int .i64 m2, .int .i64 m3, .slice po pl pc, .slice co cl cc] 34 (0, 0)) ∧ Below B w w1 := ⟨_, rfl⟩
  obtain ⟨RB, hRB⟩ : ∃ R : World → Value → Prop, R = fun w1 ev => (∃ S1, Bs PS B q r V v S1 (W0.heap.size + 1) w1 ∧ (∀ k, S1 k → B ≤ k) ∧ S1 w.heap.size ∧ S1 W0.heap.size ∧ ErrIs w1 (W0.heap.size + 1) ⟨#[115, 116, 97, 116]⟩ a E ev) ∧ w1.heap[w.heap.size]? = some (.cells #[.int .i64 4, .int .i64 n, .string a, .string b, .int .i64 m0, .int .i64 m1, .int .i64 m2, .int .i64 m3, .slice po pl pc, .slice co cl cc] 34 (0, 0)) ∧ Below B w w1 := ⟨_, rfl⟩
  obtain ⟨R1, hR1⟩ : ∃ R : Nat → Value → World → Prop, R = fun ib ev wx => (∃ S1 L1, Bs PS B q r V v S1 L1 wx ∧ (∀ k, S1 k → B ≤ k) ∧ S1 w.heap.size ∧ S1 ib ∧ ErrIs wx L1 ⟨#[115, 116, 97, 116]⟩ a E ev) ∧ wx.heap[w.heap.size]? = some (.cells #[.int .i64 4, .int .i64 n, .string a, .string b, .int .i64 m0, .int .i64 m1, .int .i64 m2, .int .i64 m3, .slice po pl pc, .slice co cl cc] 34 (0, 0)) ∧ wx.heap[ib]? = some (.cells #[.int .i64 F1, .int .i64 F2, .int .i64 F3, .int .i64 F4, .string F5, .int .i64 (F6 : Nat)] 72 (0, 0)) ∧ Below B w wx := ⟨_, rfl⟩
  have HPa : Hid (∀ W, Alike W0 W → Calls Tryz.prog 27 #[.pointer (some ⟨q, 0, none⟩), .string a] W fun e w' => ∃ ev, e = .returned (.tuple #[.agg #[.int .i64 F1, .int .i64 F2, .int .i64 F3, .int .i64 F4, .string F5, .int .i64 (F6 : Nat)], ev]) ∧ RA w' ev) := fun W hA => by
    have hsz : W.heap.size = W0.heap.size := by rw [hA.heap]
    refine (HP.out W hA.below).mono ?_
    rintro e w' ⟨ev, rfl, ⟨S1, g1, g2, g3, g4⟩, g5, g6, g7⟩
    have hl := HX0.out.2
    rw [hsz] at g1 g4
    refine ⟨ev, rfl, ?_⟩
    rw [hRA]
    exact ⟨⟨S1, g1, g2, g3 _ (Nat.le_refl _) (by omega), g4⟩, (g5 _ (Nat.le_refl _) (by omega)).trans (by rw [hA.heap]; exact HX0.out.1), g6⟩
  have HPb : Hid (∀ W, Alike (W0.alloc (.cells #[.int .i64 0, .int .i64 0, .int .i64 0, .int .i64 0, .string ⟨#[]⟩, .int .i64 0] 72)) W → Calls Tryz.prog 27 #[.pointer (some ⟨q, 0, none⟩), .string a] W fun e w' => ∃ ev, e = .returned (.tuple #[.agg #[.int .i64 F1, .int .i64 F2, .int .i64 F3, .int .i64 F4, .string F5, .int .i64 (F6 : Nat)], ev]) ∧ RB w' ev ∧ w'.heap[W0.heap.size]? = some (.cells #[.int .i64 0, .int .i64 0, .int .i64 0, .int .i64 0, .string ⟨#[]⟩, .int .i64 0] 72 (0, 0))) := fun W hA => by
    have hba : Below W0.heap.size W0 (W0.alloc (.cells #[.int .i64 0, .int .i64 0, .int .i64 0, .int .i64 0, .string ⟨#[]⟩, .int .i64 0] 72)) := (Below.refl _ W0).alloc (Nat.le_refl _) _
    have hsz : W.heap.size = W0.heap.size + 1 := by rw [hA.heap]; simp
    refine (HP.out W (hba.trans (hA.below.mono (by simp)))).mono ?_
    rintro e w' ⟨ev, rfl, ⟨S1, g1, g2, g3, g4⟩, g5, g6, g7⟩
    have hl := HX0.out.2
    rw [hsz] at g1 g4
    refine ⟨ev, rfl, ?_, (g5 W0.heap.size (by omega) (by omega)).trans (by rw [hA.heap, heap_alloc_new])⟩
    rw [hRB]
    exact ⟨⟨S1, g1, g2, g3 _ (Nat.le_refl _) (by omega), g3 _ (by omega) (by omega), g4⟩, (g5 _ (Nat.le_refl _) (by omega)).trans (by rw [hA.heap, hba.block _ hl]; exact HX0.out.1), g6⟩
  have HRELA : Hid (∀ w1 ev, RA w1 ev → R1 w1.heap.size ev (w1.alloc (.cells #[.int .i64 F1, .int .i64 F2, .int .i64 F3, .int .i64 F4, .string F5, .int .i64 (F6 : Nat)] 72))) := fun w1 ev h1 => by
    rw [hRA] at h1
    rw [hR1]
    obtain ⟨⟨S1, g1, g2, g3, g4⟩, g5, g6⟩ := h1
    have hba : Below w1.heap.size w1 (w1.alloc (.cells #[.int .i64 F1, .int .i64 F2, .int .i64 F3, .int .i64 F4, .string F5, .int .i64 (F6 : Nat)] 72)) := (Below.refl _ w1).alloc (Nat.le_refl _) _
    obtain ⟨S2, k1, k2, k3, k4⟩ := HGR.out v S1 _ w1 _ g1 g2 hba
    exact ⟨⟨S2, _, k1, k2, k3 _ g3, k4 _ (Nat.le_refl _) (by simp), g4.below hba⟩, (hba.block _ (g1.lt g3)).trans g5, heap_alloc_new _ _, g6.trans (hba.mono g1.low)⟩
  have HRELB : Hid (∀ w1 ev, RB w1 ev → w1.heap[W0.heap.size]? = some (.cells #[.int .i64 0, .int .i64 0, .int .i64 0, .int .i64 0, .string ⟨#[]⟩, .int .i64 0] 72 (0, 0)) → R1 W0.heap.size ev (six w1 W0.heap.size (.int .i64 F1) (.int .i64 F2) (.int .i64 F3) (.int .i64 F4) (.string F5) (.int .i64 (F6 : Nat)))) := fun w1 ev h1 hz => by
    rw [hRB] at h1
    rw [hR1]
    obtain ⟨⟨S1, g1, g2, g3, g3', g4⟩, g5, g6⟩ := h1
    have hl := HX0.out.2
    have hB0 := HW0B.out
    have hs1 := six_size w1 W0.heap.size (.int .i64 F1) (.int .i64 F2) (.int .i64 F3) (.int .i64 F4) (.string F5) (.int .i64 (F6 : Nat))
    have oth : ∀ k, k ≠ W0.heap.size → (six w1 W0.heap.size (.int .i64 F1) (.int .i64 F2) (.int .i64 F3) (.int .i64 F4) (.string F5) (.int .i64 (F6 : Nat))).heap[k]? = w1.heap[k]? := fun k hk => six_other _ _ _ _ _ _ _ _ hk
    obtain ⟨o1, o2, o3⟩ := six_rest w1 W0.heap.size (.int .i64 F1) (.int .i64 F2) (.int .i64 F3) (.int .i64 F4) (.string F5) (.int .i64 (F6 : Nat))
    have hI : (six w1 W0.heap.size (.int .i64 F1) (.int .i64 F2) (.int .i64 F3) (.int .i64 F4) (.string F5) (.int .i64 (F6 : Nat))).heap[W0.heap.size]? = some (.cells #[.int .i64 F1, .int .i64 F2, .int .i64 F3, .int .i64 F4, .string F5, .int .i64 (F6 : Nat)] 72 (0, 0)) := by unfold six; exact six_set hz _ _ _ _ _ _
    generalize six w1 W0.heap.size (.int .i64 F1) (.int .i64 F2) (.int .i64 F3) (.int .i64 F4) (.string F5) (.int .i64 (F6 : Nat)) = W' at hs1 oth o1 o2 o3 hI ⊢
    refine ⟨⟨S1, _, HOV.out v S1 _ w1 W' _ g1 g2 g3' (by omega) (fun k hk _ => oth k hk), g2, g3, g3', ?_⟩, (oth _ (by omega)).trans g5, hI, ⟨o1.trans g6.os, o2.trans g6.tape, o3.trans g6.output, by have := g6.size; omega, fun k hk => (oth k (by omega)).trans (g6.block k hk)⟩⟩
    rcases g4 with g4 | ⟨h0, b, k1, k2, k3⟩
    · exact .inl g4
    · exact .inr ⟨h0, b, k1, k2, (oth b (by omega)).trans k3⟩
  clear HP HGR HOV hRA hRB
  go_enter Tryz.func10, Tryz.ntmps10
  go_upto_region 8 with fail
  rw [← HW0.out]
  have s2 := (HC.out W0 (Beside.refl _ _ _)).2
  have s2' : (W0.alloc (.cells #[.int .i64 0, .int .i64 0, .int .i64 0, .int .i64 0, .string ⟨#[]⟩, .int .i64 0] 72)).cell? ⟨w.heap.size, 2, none⟩ = some (.string a) := cell_below ((Below.refl W0.heap.size W0).alloc (Nat.le_refl _) _) s2
  go_cut [12, 13] from 54 to 60 (fun i e wx => ∃ ib, i = .pointer (some ⟨ib, 0, none⟩) ∧ R1 ib e wx)
  case first =>
    go_wp2_with (go_at_call 27; refine (HPa.out _ ⟨rfl, rfl, rfl, rfl⟩).mono ?_; rintro e w1 ⟨ev, rfl, t1⟩; obtain ⟨x0, x1, x2, x3, x4, x5, g0, g1, g2, g3, g4, g5⟩ := six_at (heap_alloc_new w1 (.cells #[.int .i64 0, .int .i64 0, .int .i64 0, .int .i64 0, .string ⟨#[]⟩, .int .i64 0] 72)))
    go_meet
    exact ⟨w1.heap.size, rfl, HRELA.out w1 ev t1⟩
  case rest =>
    obtain ⟨ib, rfl, t1⟩ := hcut
    rw [hR1] at t1
    obtain ⟨⟨S1, L1, g1, g2, g3, g3', g4⟩, g5, g6, g7⟩ := t1
    obtain ⟨RC, hRC⟩ : ∃ R : World → Prop, R = fun w2 => (∃ S2, Bs PS B q r V V S2 w2.heap.size w2 ∧ (∀ k, S2 k → B ≤ k)) ∧ ErrIs w2 L1 ⟨#[115, 116, 97, 116]⟩ a E u13 ∧ w2.heap[w.heap.size]? = some (.cells #[.int .i64 4, .int .i64 n, .string a, .string b, .int .i64 m0, .int .i64 m1, .int .i64 m2, .int .i64 m3, .slice po pl pc, .slice co cl cc] 34 (0, 0)) ∧ w2.heap[ib]? = some (.cells #[.int .i64 F1, .int .i64 F2, .int .i64 F3, .int .i64 F4, .string F5, .int .i64 (F6 : Nat)] 72 (0, 0)) ∧ Below B w w2 := ⟨_, rfl⟩
    obtain ⟨RD, hRD⟩ : ∃ R : World → Prop, R = fun w2 => (∃ S2, Bs PS B q r V V S2 w2.heap.size w2 ∧ (∀ k, S2 k → B ≤ k) ∧ S2 wc.heap.size) ∧ ErrIs w2 L1 ⟨#[115, 116, 97, 116]⟩ a E u13 ∧ w2.heap[w.heap.size]? = some (.cells #[.int .i64 4, .int .i64 n, .string a, .string b, .int .i64 m0, .int .i64 m1, .int .i64 m2, .int .i64 m3, .slice po pl pc, .slice co cl cc] 34 (0, 0)) ∧ w2.heap[ib]? = some (.cells #[.int .i64 F1, .int .i64 F2, .int .i64 F3, .int .i64 F4, .string F5, .int .i64 (F6 : Nat)] 72 (0, 0)) ∧ Below B w w2 := ⟨_, rfl⟩
    obtain ⟨R2, hR2⟩ : ∃ R : Nat → World → Prop, R = fun jb wx => (∃ S2 L2, Bs PS B q r V V S2 L2 wx) ∧ ErrIs wx L1 ⟨#[115, 116, 97, 116]⟩ a E u13 ∧ wx.heap[w.heap.size]? = some (.cells #[.int .i64 4, .int .i64 n, .string a, .string b, .int .i64 m0, .int .i64 m1, .int .i64 m2, .int .i64 m3, .slice po pl pc, .slice co cl cc] 34 (0, 0)) ∧ wx.heap[ib]? = some (.cells #[.int .i64 F1, .int .i64 F2, .int .i64 F3, .int .i64 F4, .string F5, .int .i64 (F6 : Nat)] 72 (0, 0)) ∧ wx.heap[jb]? = some (.cells #[.int .i64 F1, .int .i64 F2, .int .i64 F3, .int .i64 F4, .string F5, .int .i64 (F6 : Nat)] 72 (0, 0)) ∧ Below B w wx := ⟨_, rfl⟩
    have hwl : w.heap.size < wc.heap.size := g1.lt g3
    have hil : ib < wc.heap.size := g1.lt g3'
    have hBl : B ≤ wc.heap.size := g1.low
    have HRa : Hid (∀ W, Alike wc W → Calls Tryz.prog 28 #[.pointer (some ⟨r, 0, none⟩), .string a] W fun e w' => e = .returned (.tuple #[.agg #[.int .i64 F1, .int .i64 F2, .int .i64 F3, .int .i64 F4, .string F5, .int .i64 (F6 : Nat)], .int .i64 (E : Int)]) ∧ RC w') := fun W hA => by
      refine (HR.out S1 L1 wc g1 g2 W hA.below).mono ?_
      rintro e w' ⟨rfl, ⟨S2, k1, k2, k3, k4⟩, k5, k6, k7, k8, k9⟩
      refine ⟨rfl, ?_⟩
      rw [hRC]
      exact ⟨⟨S2, k1, k2⟩, k9 _ g4, (k5 _ g3).trans g5, (k5 _ g3').trans g6, g7.trans k7⟩
    have HRb : Hid (∀ W, Alike (wc.alloc (.cells #[.int .i64 0, .int .i64 0, .int .i64 0, .int .i64 0, .string ⟨#[]⟩, .int .i64 0] 72)) W → Calls Tryz.prog 28 #[.pointer (some ⟨r, 0, none⟩), .string a] W fun e w' => e = .returned (.tuple #[.agg #[.int .i64 F1, .int .i64 F2, .int .i64 F3, .int .i64 F4, .string F5, .int .i64 (F6 : Nat)], .int .i64 (E : Int)]) ∧ RD w' ∧ w'.heap[wc.heap.size]? = some (.cells #[.int .i64 0, .int .i64 0, .int .i64 0, .int .i64 0, .string ⟨#[]⟩, .int .i64 0] 72 (0, 0))) := fun W hA => by
      have hba : Below wc.heap.size wc (wc.alloc (.cells #[.int .i64 0, .int .i64 0, .int .i64 0, .int .i64 0, .string ⟨#[]⟩, .int .i64 0] 72)) := (Below.refl _ wc).alloc (Nat.le_refl _) _
      have hsz : W.heap.size = wc.heap.size + 1 := by rw [hA.heap]; simp
      refine (HR.out S1 L1 wc g1 g2 W (hba.trans (hA.below.mono (by simp)))).mono ?_
      rintro e w' ⟨rfl, ⟨S2, k1, k2, k3, k4⟩, k5, k6, k7, k8, k9⟩
      refine ⟨rfl, ?_, (k6 _ (Nat.le_refl _) (by omega)).trans (by rw [hA.heap, heap_alloc_new])⟩
      rw [hRD]
      exact ⟨⟨S2, k1, k2, k4 _ (Nat.le_refl _) (by omega)⟩, k9 _ g4, (k5 _ g3).trans g5, (k5 _ g3').trans g6, g7.trans k7⟩
    have HRELC : Hid (∀ w2, RC w2 → R2 w2.heap.size (w2.alloc (.cells #[.int .i64 F1, .int .i64 F2, .int .i64 F3, .int .i64 F4, .string F5, .int .i64 (F6 : Nat)] 72))) := fun w2 h1 => by
      rw [hRC] at h1
      rw [hR2]
      obtain ⟨⟨S2, k1, k2⟩, k3, k4, k5, k6⟩ := h1
      have hba : Below w2.heap.size w2 (w2.alloc (.cells #[.int .i64 F1, .int .i64 F2, .int .i64 F3, .int .i64 F4, .string F5, .int .i64 (F6 : Nat)] 72)) := (Below.refl _ w2).alloc (Nat.le_refl _) _
      exact ⟨⟨S2, _, k1.below C hba⟩, k3.below hba, (hba.block _ (Array.getElem?_eq_some_iff.1 k4).1).trans k4, (hba.block _ (Array.getElem?_eq_some_iff.1 k5).1).trans k5, heap_alloc_new _ _, k6.trans (hba.mono k1.low)⟩
    have HRELD : Hid (∀ w2, RD w2 → w2.heap[wc.heap.size]? = some (.cells #[.int .i64 0, .int .i64 0, .int .i64 0, .int .i64 0, .string ⟨#[]⟩, .int .i64 0] 72 (0, 0)) → R2 wc.heap.size (six w2 wc.heap.size (.int .i64 F1) (.int .i64 F2) (.int .i64 F3) (.int .i64 F4) (.string F5) (.int .i64 (F6 : Nat)))) := fun w2 h1 hz => by
      rw [hRD] at h1
      rw [hR2]
      obtain ⟨⟨S2, k1, k2, k2'⟩, k3, k4, k5, k6⟩ := h1
      have hs1 := six_size w2 wc.heap.size (.int .i64 F1) (.int .i64 F2) (.int .i64 F3) (.int .i64 F4) (.string F5) (.int .i64 (F6 : Nat))
      have oth : ∀ k, k ≠ wc.heap.size → (six w2 wc.heap.size (.int .i64 F1) (.int .i64 F2) (.int .i64 F3) (.int .i64 F4) (.string F5) (.int .i64 (F6 : Nat))).heap[k]? = w2.heap[k]? := fun k hk => six_other _ _ _ _ _ _ _ _ hk
      obtain ⟨o1, o2, o3⟩ := six_rest w2 wc.heap.size (.int .i64 F1) (.int .i64 F2) (.int .i64 F3) (.int .i64 F4) (.string F5) (.int .i64 (F6 : Nat))
      have hI : (six w2 wc.heap.size (.int .i64 F1) (.int .i64 F2) (.int .i64 F3) (.int .i64 F4) (.string F5) (.int .i64 (F6 : Nat))).heap[wc.heap.size]? = some (.cells #[.int .i64 F1, .int .i64 F2, .int .i64 F3, .int .i64 F4, .string F5, .int .i64 (F6 : Nat)] 72 (0, 0)) := by unfold six; exact six_set hz _ _ _ _ _ _
      generalize six w2 wc.heap.size (.int .i64 F1) (.int .i64 F2) (.int .i64 F3) (.int .i64 F4) (.string F5) (.int .i64 (F6 : Nat)) = W' at hs1 oth o1 o2 o3 hI ⊢
      refine ⟨⟨S2, _, k1.over C (by omega) (fun k h6 h7 => oth k (fun e => h7 (e ▸ k2'))) k2⟩, ?_, (oth _ (by omega)).trans k4, (oth _ (by omega)).trans k5, hI, ⟨o1.trans k6.os, o2.trans k6.tape, o3.trans k6.output, by have := k6.size; omega, fun k hk => (oth k (by omega)).trans (k6.block k hk)⟩⟩
      rcases k3 with k3 | ⟨h0, b, m1, m2, m3⟩
      · exact .inl k3
      · exact .inr ⟨h0, b, m1, m2, (oth b (typed_ne m3 hz (by decide))).trans m3⟩
    have s2w := HX.out wc g5
    have s2w' : (wc.alloc (.cells #[.int .i64 0, .int .i64 0, .int .i64 0, .int .i64 0, .string ⟨#[]⟩, .int .i64 0] 72)).cell? ⟨w.heap.size, 2, none⟩ = some (.string a) := cell_below ((Below.refl wc.heap.size wc).alloc (Nat.le_refl _) _) s2w
    clear g1 g2 g3 g3' g4 g5 g6 g7 hRC hRD hR1 HRELA HRELB HPa HPb s2 s2' hwl hil hBl HR
    go_upto_region 9 with fail
    go_cut [14, 15] from 61 to 67 (fun j e wx => ∃ jb, j = .pointer (some ⟨jb, 0, none⟩) ∧ e = .int .i64 (E : Int) ∧ R2 jb wx)
    case first =>
      go_wp2_with (go_at_call 28; refine (HRa.out _ ⟨rfl, rfl, rfl, rfl⟩).mono ?_; rintro e w2 ⟨rfl, t2⟩; obtain ⟨x0, x1, x2, x3, x4, x5, g0, g1, g2, g3, g4, g5⟩ := six_at (heap_alloc_new w2 (.cells #[.int .i64 0, .int .i64 0, .int .i64 0, .int .i64 0, .string ⟨#[]⟩, .int .i64 0] 72)))
      go_meet
      exact ⟨w2.heap.size, rfl, rfl, HRELC.out w2 t2⟩
    case rest =>
      obtain ⟨jb, rfl, rfl, t2⟩ := hcut
      rw [hR2] at t2
      obtain ⟨⟨S2, L2, k1⟩, k3, k4, k5, k6, k7⟩ := t2
      have s3 := HX.out _ k4
      have HE2 : Hid (Bs PS B q r V V S2 L2 wc ∧ Below B w wc ∧ wc.heap[ib]? = some (.cells #[.int .i64 F1, .int .i64 F2, .int .i64 F3, .int .i64 F4, .string F5, .int .i64 (F6 : Nat)] 72) ∧ wc.heap[jb]? = some (.cells #[.int .i64 F1, .int .i64 F2, .int .i64 F3, .int .i64 F4, .string F5, .int .i64 (F6 : Nat)] 72)) := ⟨k1, k7, k5, k6⟩
      clear k1 k4 k5 k6 k7 hR2 s2w s2w' HRELC HRELD HRa HRb
      go_upto_region 11 with (go_at_call 21; refine (HT.out _ _ _ k3).mono ?_; rintro e w3 ⟨rfl, hA3⟩)
      obtain ⟨x0, x1, x2, x3, x4, x5, -⟩ := six_at (show w3.heap[ib]? = some (.cells #[.int .i64 F1, .int .i64 F2, .int .i64 F3, .int .i64 F4, .string F5, .int .i64 (F6 : Nat)] 72) by rw [hA3.heap]; exact HE2.out.2.2.1)
      obtain ⟨y0, y1, y2, y3, y4, y5, -⟩ := six_at (show w3.heap[jb]? = some (.cells #[.int .i64 F1, .int .i64 F2, .int .i64 F3, .int .i64 F4, .string F5, .int .i64 (F6 : Nat)] 72) by rw [hA3.heap]; exact HE2.out.2.2.2)
      have HA3 : Hid (Bk PS B q r (k + 1) w3 ∧ Below B w w3) := ⟨HF.out _ _ _ _ HE2.out.1 hA3, HE2.out.2.1.trans (hA3.below.mono HE2.out.1.low)⟩
      clear s3 hA3 k3
      go_wp2_with fail
      go_returns
      exact ⟨rfl, HA3.out⟩
end Go.Proofs.YtofmiaaglbcebaaGreatDoor
