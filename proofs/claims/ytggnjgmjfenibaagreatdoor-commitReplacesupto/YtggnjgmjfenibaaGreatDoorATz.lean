import Derived.Test.YtggnjgmjfenibaaGreatDoorM9
import Derived.Test.YtggnjgmjfenibaaGreatDoorM2
import Derived.Test.YtggnjgmjfenibaaGreatDoorM8
import Derived.Deep.RegionWith
import Derived.Deep.CutRange
import Derived.Deep.DrawnRows

-- Stat on both volumes.
namespace Go.Proofs.YtggnjgmjfenibaaGreatDoor
open Go.RowKit
set_option linter.unusedVariables false
set_option maxRecDepth 100000
variable {PS : (Nat → Prop) → Nat → St → World → Prop}
attribute [local go_sem ↓] Go.wp_at_zero Go.wp_at_succ
/-- Six cells of a block written. -/
def six (w : World) (r : Nat) (v0 v1 v2 v3 v4 v5 : Value) : World := (((((w.setCell ⟨r, 0, none⟩ v0).setCell ⟨r, 1, none⟩ v1).setCell ⟨r, 2, none⟩ v2).setCell ⟨r, 3, none⟩ v3).setCell ⟨r, 4, none⟩ v4).setCell ⟨r, 5, none⟩ v5
theorem six_other (w : World) (r : Nat) (v0 v1 v2 v3 v4 v5 : Value) {k : Nat} (h : k ≠ r) : (six w r v0 v1 v2 v3 v4 v5).heap[k]? = w.heap[k]? := by
  unfold six
  rw [Below.heap_setCell _ _ _ _ h, Below.heap_setCell _ _ _ _ h, Below.heap_setCell _ _ _ _ h, Below.heap_setCell _ _ _ _ h, Below.heap_setCell _ _ _ _ h, Below.heap_setCell _ _ _ _ h]
theorem six_size (w : World) (r : Nat) (v0 v1 v2 v3 v4 v5 : Value) : (six w r v0 v1 v2 v3 v4 v5).heap.size = w.heap.size := by simp [six, World.setCell]
theorem set_os (w : World) (a : Addr) (v : Value) : (w.setCell a v).os = w.os ∧ (w.setCell a v).tape = w.tape ∧ (w.setCell a v).output = w.output := ⟨rfl, rfl, rfl⟩
theorem six_rest (w : World) (r : Nat) (v0 v1 v2 v3 v4 v5 : Value) : (six w r v0 v1 v2 v3 v4 v5).os = w.os ∧ (six w r v0 v1 v2 v3 v4 v5).tape = w.tape ∧ (six w r v0 v1 v2 v3 v4 v5).output = w.output := by
  unfold six
  refine ⟨?_, ?_, ?_⟩
  · rw [(set_os _ _ _).1, (set_os _ _ _).1, (set_os _ _ _).1, (set_os _ _ _).1, (set_os _ _ _).1, (set_os _ _ _).1]
  · rw [(set_os _ _ _).2.1, (set_os _ _ _).2.1, (set_os _ _ _).2.1, (set_os _ _ _).2.1, (set_os _ _ _).2.1, (set_os _ _ _).2.1]
  · rw [(set_os _ _ _).2.2, (set_os _ _ _).2.2, (set_os _ _ _).2.2, (set_os _ _ _).2.2, (set_os _ _ _).2.2, (set_os _ _ _).2.2]
set_option maxHeartbeats 16000000 in
theorem asks4 (C : PC PS) (B q r k : Nat) (n : Int) (a b : ByteArray) (m0 m1 m2 m3 : Int) (po : Option Addr) (pl pc : Nat) (co : Option Addr) (cl cc : Nat) (w : World) (h : Bk PS B q r k w) (hk : k < 2097151) :
    Calls Tryz.prog 10 #[.pointer (some ⟨q, 0, none⟩), .pointer (some ⟨r, 0, none⟩), .agg #[.int .i64 4, .int .i64 n, .string a, .string b, .int .i64 m0, .int .i64 m1, .int .i64 m2, .int .i64 m3, .slice po pl pc, .slice co cl cc]] w fun e w' => e = .returned (.bool true) ∧ Bk PS B q r (k + 1) w' ∧ Below B w w' := by
  obtain ⟨v, L, hb0, hv⟩ := h
  have hB := hb0.low
  obtain ⟨W0, hW0⟩ : ∃ W0, W0 = w.alloc (Obj.cells #[.int .i64 4, .int .i64 n, .string a, .string b, .int .i64 m0, .int .i64 m1, .int .i64 m2, .int .i64 m3, .slice po pl pc, .slice co cl cc] 34) := ⟨_, rfl⟩
  have hbA : Below w.heap.size w W0 := by rw [hW0]; exact (Below.refl _ w).alloc (Nat.le_refl _) _
  obtain ⟨S0, hS0⟩ : ∃ S0 : Nat → Prop, S0 = fun k => False ∨ (w.heap.size ≤ k ∧ k < W0.heap.size) := ⟨_, rfl⟩
  have hs0 : Bs PS B q r v v S0 L W0 := by rw [hS0]; exact hb0.grow C hbA
  have hx0 : W0.heap[w.heap.size]? = some (.cells #[.int .i64 4, .int .i64 n, .string a, .string b, .int .i64 m0, .int .i64 m1, .int .i64 m2, .int .i64 m3, .slice po pl pc, .slice co cl cc] 34 (0, 0)) := by rw [hW0]; exact heap_alloc_new _ _
  have hin : S0 w.heap.size := by rw [hS0]; exact .inr ⟨Nat.le_refl _, by rw [hW0]; simp⟩
  have HC : Hid (∀ W, Beside B S0 W0 W → W.cell? ⟨w.heap.size, 0, none⟩ = some (.int .i64 4) ∧ W.cell? ⟨w.heap.size, 2, none⟩ = some (.string a)) := fun W hW => by
    have hh := (hW.set _ hin).trans hx0
    refine ⟨?_, ?_⟩ <;> (rw [Lib.cell_of_heap hh]; rfl)
  have HW0 := hidK hW0
  have HB0 : Hid (Below B w W0) := hbA.mono hB
  have hcn : v.cnt ≤ 4194304 := by have := hv.cnt; omega
  obtain ⟨E, hE⟩ : ∃ x, x = (v.stat a).1.2 := ⟨_, rfl⟩
  obtain ⟨V, hV⟩ : ∃ x, x = (v.stat a).2 := ⟨_, rfl⟩
  obtain ⟨F1, F2, F3, F4, F5, F6, hF⟩ : ∃ (F1 F2 F3 F4 : Int) (F5 : ByteArray) (F6 : Nat), Value.agg (stV v a) = .agg #[.int .i64 F1, .int .i64 F2, .int .i64 F3, .int .i64 F4, .string F5, .int .i64 (F6 : Nat)] := ⟨_, _, _, _, _, _, rfl⟩
  have hvV : Vf V (k + 1) := by rw [hV]; exact hv.stat a
  have hSB : ∀ k, S0 k → B ≤ k := fun k hk => by
    rw [hS0] at hk
    rcases hk with hk | hk
    · exact hk.elim
    · omega
  have HP : Hid (∀ W, Below W0.heap.size W0 W → Calls Tryz.prog 27 #[.pointer (some ⟨q, 0, none⟩), .string a] W fun e w' => ∃ ev, e = .returned (.tuple #[.agg #[.int .i64 F1, .int .i64 F2, .int .i64 F3, .int .i64 F4, .string F5, .int .i64 (F6 : Nat)], ev]) ∧ (∃ S1, Bs PS B q r V v S1 W.heap.size w' ∧ (∀ k, S1 k → B ≤ k) ∧ (∀ k, w.heap.size ≤ k → k < W.heap.size → S1 k) ∧ ErrIs w' W.heap.size ⟨#[115, 116, 97, 116]⟩ a E ev) ∧ (∀ k, w.heap.size ≤ k → k < W.heap.size → w'.heap[k]? = W.heap[k]?) ∧ Below B w w' ∧ W.heap.size ≤ w'.heap.size) := fun W hbW => by
    have hsW := hbW.size
    have hb1 := hs0.grow C hbW
    have := bs_stat C B q r v v _ L a W hb1 hv.wf hcn
    refine this.mono ?_
    rintro e w' ⟨ev, h1, h2, h3, h4⟩
    rw [← hV] at h3
    rw [← hE] at h2
    rw [hF] at h1
    have hin2 : ∀ k, w.heap.size ≤ k → k < W.heap.size → (S0 k ∨ (W0.heap.size ≤ k ∧ k < W.heap.size)) := fun k g1 g2 => by
      rcases Nat.lt_or_ge k W0.heap.size with g3 | g3
      · left; rw [hS0]; exact .inr ⟨g1, g3⟩
      · exact .inr ⟨g3, g2⟩
    refine ⟨ev, h1, ⟨_, h3, fun k hk => ?_, hin2, h2⟩, fun k g1 g2 => h4.set k (hin2 k g1 g2), (HB0.out.trans (hbW.mono hs0.low)).trans h4.below, ?_⟩
    · rcases hk with hk | hk
      · exact hSB k hk
      · have := hs0.low; omega
    · exact h4.below.size
  have HR : Hid (∀ S1 L1 wx, Bs PS B q r V v S1 L1 wx → (∀ k, S1 k → B ≤ k) → ∀ W, Below wx.heap.size wx W → Calls Tryz.prog 28 #[.pointer (some ⟨r, 0, none⟩), .string a] W fun e w' => e = .returned (.tuple #[.agg #[.int .i64 F1, .int .i64 F2, .int .i64 F3, .int .i64 F4, .string F5, .int .i64 (F6 : Nat)], .int .i64 (E : Int)]) ∧ (∃ S2, Bs PS B q r V V S2 w'.heap.size w' ∧ (∀ k, S2 k → B ≤ k) ∧ (∀ k, S1 k → S2 k) ∧ (∀ k, wx.heap.size ≤ k → k < W.heap.size → S2 k)) ∧ (∀ k, S1 k → w'.heap[k]? = wx.heap[k]?) ∧ (∀ k, wx.heap.size ≤ k → k < W.heap.size → w'.heap[k]? = W.heap[k]?) ∧ Below B wx w' ∧ W.heap.size ≤ w'.heap.size ∧ (∀ ev, ErrIs wx L1 ⟨#[115, 116, 97, 116]⟩ a E ev → ErrIs w' L1 ⟨#[115, 116, 97, 116]⟩ a E ev)) := fun S1 L1 wx h1 hS W hbW => by
    have hsW := hbW.size
    have hb1 := h1.grow C hbW
    have := bs_rstat C B q r V v _ L1 a W hb1 hv.wf hcn
    refine this.mono ?_
    rintro e w' ⟨h2, h3, h4, h5⟩
    rw [← hV] at h3
    rw [← hE, hF] at h2
    refine ⟨h2, ⟨_, h3, fun k hk => ?_, fun k hk => .inl hk, fun k g1 g2 => .inr ⟨g1, g2⟩⟩, fun k hk => ?_, fun k g1 g2 => h4.set k (.inr ⟨g1, g2⟩), (hbW.mono h1.low).trans h4.below, h4.below.size, fun ev he => h5 _ _ _ _ (he.below hbW)⟩
    · rcases hk with hk | hk
      · exact hS k hk
      · have := h1.low; omega
    · rw [h4.set k (.inl hk), hbW.block k (h1.lt hk)]
  have HT : Hid (∀ L1 ev W, ErrIs W L1 ⟨#[115, 116, 97, 116]⟩ a E ev → Calls Tryz.prog 21 #[ev, .string ⟨#[115, 116, 97, 116]⟩, .string a, .int .i64 (E : Int)] W fun r w' => r = .returned (.bool true) ∧ Alike W w') := fun L1 ev W he => told16_c _ _ _ _ _ _ he
  have HF : Hid (∀ S2 L2 (w2 w3 : World), Bs PS B q r V V S2 L2 w2 → Alike w2 w3 → Bk PS B q r (k + 1) w3) := fun S2 L2 w2 w3 h2 hA => (h2.below C hA.below).bk hvV
  have HX : Hid (∀ W : World, W.heap[w.heap.size]? = some (.cells #[.int .i64 4, .int .i64 n, .string a, .string b, .int .i64 m0, .int .i64 m1, .int .i64 m2, .int .i64 m3, .slice po pl pc, .slice co cl cc] 34 (0, 0)) → W.cell? ⟨w.heap.size, 2, none⟩ = some (.string a)) := fun W hh => by rw [Lib.cell_of_heap hh]; rfl
  have HX0 : Hid (W0.heap[w.heap.size]? = some (.cells #[.int .i64 4, .int .i64 n, .string a, .string b, .int .i64 m0, .int .i64 m1, .int .i64 m2, .int .i64 m3, .slice po pl pc, .slice co cl cc] 34 (0, 0)) ∧ w.heap.size < W0.heap.size) := ⟨hx0, by rw [hW0]; simp⟩
  have HOV : Hid (∀ V2 S1 L1 (wx W' : World) ib, Bs PS B q r V V2 S1 L1 wx → (∀ k, S1 k → B ≤ k) → S1 ib → wx.heap.size ≤ W'.heap.size → (∀ k, k ≠ ib → k < wx.heap.size → W'.heap[k]? = wx.heap[k]?) → Bs PS B q r V V2 S1 L1 W') := fun V2 S1 L1 wx W' ib g1 g2 g3 g4 g5 => g1.over C g4 (fun k g6 g7 => g5 k (fun e => g7 (e ▸ g3)) g6) g2
  have HGR : Hid (∀ V2 S1 L1 (wx W' : World), Bs PS B q r V V2 S1 L1 wx → (∀ k, S1 k → B ≤ k) → Below wx.heap.size wx W' → ∃ S2, Bs PS B q r V V2 S2 L1 W' ∧ (∀ k, S2 k → B ≤ k) ∧ (∀ k, S1 k → S2 k) ∧ (∀ k, wx.heap.size ≤ k → k < W'.heap.size → S2 k)) := fun V2 S1 L1 wx W' g1 g2 g3 => ⟨_, g1.grow C g3, fun k hk => by
    rcases hk with hk | hk
    · exact g2 k hk
    · have := g1.low; omega, fun k hk => .inl hk, fun k h1 h2 => .inr ⟨h1, h2⟩⟩
  have HW0B : Hid (B ≤ W0.heap.size) := hs0.low
  clear hs0 hx0 hin hbA hb0 hv hvV hcn hE hV hF hW0 hS0 hSB
  obtain ⟨RA, hRA⟩ : ∃ R : World → Value → Prop, R = fun w1 ev => (∃ S1, Bs PS B q r V v S1 W0.heap.size w1 ∧ (∀ k, S1 k → B ≤ k) ∧ S1 w.heap.size ∧ ErrIs w1 W0.heap.size ⟨#[115, 116, 97, 116]⟩ a E ev) ∧ w1.heap[w.heap.size]? = some (.cells #[.int .i64 4, .int .i64 n, .string a, .string b, .int .i64 m0, .int .i64 m1, .int .i64 m2, .int .i64 m3, .slice po pl pc, .slice co cl cc] 34 (0, 0)) ∧ Below B w w1 := ⟨_, rfl⟩
  obtain ⟨RB, hRB⟩ : ∃ R : World → Value → Prop, R = fun w1 ev => (∃ S1, Bs PS B q r V v S1 (W0.heap.size + 1) w1 ∧ (∀ k, S1 k → B ≤ k) ∧ S1 w.heap.size ∧ S1 W0.heap.size ∧ ErrIs w1 (W0.heap.size + 1) ⟨#[115, 116, 97, 116]⟩ a E ev) ∧ w1.heap[w.heap.size]? = some (.cells #[.int .i64 4, .int .i64 n, .string a, .string b, .int .i64 m0, .int .i64 m1, .int .i64 m2, .int .i64 m3, .slice po pl pc, .slice co cl cc] 34 (0, 0)) ∧ Below B w w1 := ⟨_, rfl⟩
  obtain ⟨R1, hR1⟩ : ∃ R : Nat → Value → World → Prop, R = fun ib ev wx => (∃ S1 L1, Bs PS B q r V v S1 L1 wx ∧ (∀ k, S1 k → B ≤ k) ∧ S1 w.heap.size ∧ S1 ib ∧ ErrIs wx L1 ⟨#[115, 116, 97, 116]⟩ a E ev) ∧ wx.heap[w.heap.size]? = some (.cells #[.int .i64 4, .int .i64 n, .string a, .string b, .int .i64 m0, .int .i64 m1, .int .i64 m2, .int .i64 m3, .slice po pl pc, .slice co cl cc] 34 (0, 0)) ∧ wx.heap[ib]? = some (.cells #[.int .i64 F1, .int .i64 F2, .int .i64 F3, .int .i64 F4, .string F5, .int .i64 (F6 : Nat)] 72 (0, 0)) ∧ Below B w wx := ⟨_, rfl⟩
  have HPa : Hid (∀ W, Alike W0 W → Calls Tryz.prog 27 #[.pointer (some ⟨q, 0, none⟩), .string a] W fun e w' => ∃ ev, e = .returned (.tuple #[.agg #[.int .i64 F1, .int .i64 F2, .int .i64 F3, .int .i64 F4, .string F5, .int .i64 (F6 : Nat)], ev]) ∧ RA w' ev) := fun W hA => by
    have hsz : W.heap.size = W0.heap.size := by rw [hA.heap]
    refine (HP.out W hA.below).mono ?_
    rintro e w' ⟨ev, rfl, ⟨S1, g1, g2, g3, g4⟩, g5, g6, g7⟩
    have hl := HX0.out.2
    rw [hsz] at g1 g4
    refine ⟨ev, rfl, ?_⟩
    rw [hRA]
    exact ⟨⟨S1, g1, g2, g3 _ (Nat.le_refl _) (by omega), g4⟩, (g5 _ (Nat.le_refl _) (by omega)).trans (by rw [hA.heap]; exact HX0.out.1), g6⟩
  have HPb : Hid (∀ W, Alike (W0.alloc (.cells #[.int .i64 0, .int .i64 0, .int .i64 0, .int .i64 0, .string ⟨#[]⟩, .int .i64 0] 72)) W → Calls Tryz.prog 27 #[.pointer (some ⟨q, 0, none⟩), .string a] W fun e w' => ∃ ev, e = .returned (.tuple #[.agg #[.int .i64 F1, .int .i64 F2, .int .i64 F3, .int .i64 F4, .string F5, .int .i64 (F6 : Nat)], ev]) ∧ RB w' ev ∧ w'.heap[W0.heap.size]? = some (.cells #[.int .i64 0, .int .i64 0, .int .i64 0, .int .i64 0, .string ⟨#[]⟩, .int .i64 0] 72 (0, 0))) := fun W hA => by
    have hba : Below W0.heap.size W0 (W0.alloc (.cells #[.int .i64 0, .int .i64 0, .int .i64 0, .int .i64 0, .string ⟨#[]⟩, .int .i64 0] 72)) := (Below.refl _ W0).alloc (Nat.le_refl _) _
    have hsz : W.heap.size = W0.heap.size + 1 := by rw [hA.heap]; simp
    refine (HP.out W (hba.trans (hA.below.mono (by simp)))).mono ?_
    rintro e w' ⟨ev, rfl, ⟨S1, g1, g2, g3, g4⟩, g5, g6, g7⟩
    have hl := HX0.out.2
    rw [hsz] at g1 g4
    refine ⟨ev, rfl, ?_, (g5 W0.heap.size (by omega) (by omega)).trans (by rw [hA.heap, heap_alloc_new])⟩
    rw [hRB]
    exact ⟨⟨S1, g1, g2, g3 _ (Nat.le_refl _) (by omega), g3 _ (by omega) (by omega), g4⟩, (g5 _ (Nat.le_refl _) (by omega)).trans (by rw [hA.heap, hba.block _ hl]; exact HX0.out.1), g6⟩
  have HRELA : Hid (∀ w1 ev, RA w1 ev → R1 w1.heap.size ev (w1.alloc (.cells #[.int .i64 F1, .int .i64 F2, .int .i64 F3, .int .i64 F4, .string F5, .int .i64 (F6 : Nat)] 72))) := fun w1 ev h1 => by
    rw [hRA] at h1
    rw [hR1]
    obtain ⟨⟨S1, g1, g2, g3, g4⟩, g5, g6⟩ := h1
    have hba : Below w1.heap.size w1 (w1.alloc (.cells #[.int .i64 F1, .int .i64 F2, .int .i64 F3, .int .i64 F4, .string F5, .int .i64 (F6 : Nat)] 72)) := (Below.refl _ w1).alloc (Nat.le_refl _) _
    obtain ⟨S2, k1, k2, k3, k4⟩ := HGR.out v S1 _ w1 _ g1 g2 hba
    exact ⟨⟨S2, _, k1, k2, k3 _ g3, k4 _ (Nat.le_refl _) (by simp), g4.below hba⟩, (hba.block _ (g1.lt g3)).trans g5, heap_alloc_new _ _, g6.trans (hba.mono g1.low)⟩
  have HRELB : Hid (∀ w1 ev, RB w1 ev → w1.heap[W0.heap.size]? = some (.cells #[.int .i64 0, .int .i64 0, .int .i64 0, .int .i64 0, .string ⟨#[]⟩, .int .i64 0] 72 (0, 0)) → R1 W0.heap.size ev (six w1 W0.heap.size (.int .i64 F1) (.int .i64 F2) (.int .i64 F3) (.int .i64 F4) (.string F5) (.int .i64 (F6 : Nat)))) := fun w1 ev h1 hz => by
    rw [hRB] at h1
    rw [hR1]
    obtain ⟨⟨S1, g1, g2, g3, g3', g4⟩, g5, g6⟩ := h1
    have hl := HX0.out.2
    have hB0 := HW0B.out
    have hs1 := six_size w1 W0.heap.size (.int .i64 F1) (.int .i64 F2) (.int .i64 F3) (.int .i64 F4) (.string F5) (.int .i64 (F6 : Nat))
    have oth : ∀ k, k ≠ W0.heap.size → (six w1 W0.heap.size (.int .i64 F1) (.int .i64 F2) (.int .i64 F3) (.int .i64 F4) (.string F5) (.int .i64 (F6 : Nat))).heap[k]? = w1.heap[k]? := fun k hk => six_other _ _ _ _ _ _ _ _ hk
    obtain ⟨o1, o2, o3⟩ := six_rest w1 W0.heap.size (.int .i64 F1) (.int .i64 F2) (.int .i64 F3) (.int .i64 F4) (.string F5) (.int .i64 (F6 : Nat))
    have hI : (six w1 W0.heap.size (.int .i64 F1) (.int .i64 F2) (.int .i64 F3) (.int .i64 F4) (.string F5) (.int .i64 (F6 : Nat))).heap[W0.heap.size]? = some (.cells #[.int .i64 F1, .int .i64 F2, .int .i64 F3, .int .i64 F4, .string F5, .int .i64 (F6 : Nat)] 72 (0, 0)) := by unfold six; exact six_set hz _ _ _ _ _ _
    generalize six w1 W0.heap.size (.int .i64 F1) (.int .i64 F2) (.int .i64 F3) (.int .i64 F4) (.string F5) (.int .i64 (F6 : Nat)) = W' at hs1 oth o1 o2 o3 hI ⊢
    refine ⟨⟨S1, _, HOV.out v S1 _ w1 W' _ g1 g2 g3' (by omega) (fun k hk _ => oth k hk), g2, g3, g3', ?_⟩, (oth _ (by omega)).trans g5, hI, ⟨o1.trans g6.os, o2.trans g6.tape, o3.trans g6.output, by have := g6.size; omega, fun k hk => (oth k (by omega)).trans (g6.block k hk)⟩⟩
    rcases g4 with g4 | ⟨h0, b, k1, k2, k3⟩
    · exact .inl g4
    · exact .inr ⟨h0, b, k1, k2, (oth b (by omega)).trans k3⟩
  clear HP HGR HOV hRA hRB
  go_enter Tryz.func10, Tryz.ntmps10
  go_upto_region 8 with fail
  rw [← HW0.out]
  have s2 := (HC.out W0 (Beside.refl _ _ _)).2
  have s2' : (W0.alloc (.cells #[.int .i64 0, .int .i64 0, .int .i64 0, .int .i64 0, .string ⟨#[]⟩, .int .i64 0] 72)).cell? ⟨w.heap.size, 2, none⟩ = some (.string a) := cell_below ((Below.refl W0.heap.size W0).alloc (Nat.le_refl _) _) s2
  go_cut [12, 13] from 54 to 60 (fun i e wx => ∃ ib, i = .pointer (some ⟨ib, 0, none⟩) ∧ R1 ib e wx)
  case first =>
    go_wp2_with (go_at_call 27; refine (HPa.out _ ⟨rfl, rfl, rfl, rfl⟩).mono ?_; rintro e w1 ⟨ev, rfl, t1⟩; obtain ⟨x0, x1, x2, x3, x4, x5, g0, g1, g2, g3, g4, g5⟩ := six_at (heap_alloc_new w1 (.cells #[.int .i64 0, .int .i64 0, .int .i64 0, .int .i64 0, .string ⟨#[]⟩, .int .i64 0] 72)))
    go_meet
    exact ⟨w1.heap.size, rfl, HRELA.out w1 ev t1⟩
  case rest =>
    obtain ⟨ib, rfl, t1⟩ := hcut
    rw [hR1] at t1
    obtain ⟨⟨S1, L1, g1, g2, g3, g3', g4⟩, g5, g6, g7⟩ := t1
    obtain ⟨RC, hRC⟩ : ∃ R : World → Prop, R = fun w2 => (∃ S2, Bs PS B q r V V S2 w2.heap.size w2 ∧ (∀ k, S2 k → B ≤ k)) ∧ ErrIs w2 L1 ⟨#[115, 116, 97, 116]⟩ a E u13 ∧ w2.heap[w.heap.size]? = some (.cells #[.int .i64 4, .int .i64 n, .string a, .string b, .int .i64 m0, .int .i64 m1, .int .i64 m2, .int .i64 m3, .slice po pl pc, .slice co cl cc] 34 (0, 0)) ∧ w2.heap[ib]? = some (.cells #[.int .i64 F1, .int .i64 F2, .int .i64 F3, .int .i64 F4, .string F5, .int .i64 (F6 : Nat)] 72 (0, 0)) ∧ Below B w w2 := ⟨_, rfl⟩
    obtain ⟨RD, hRD⟩ : ∃ R : World → Prop, R = fun w2 => (∃ S2, Bs PS B q r V V S2 w2.heap.size w2 ∧ (∀ k, S2 k → B ≤ k) ∧ S2 wc.heap.size) ∧ ErrIs w2 L1 ⟨#[115, 116, 97, 116]⟩ a E u13 ∧ w2.heap[w.heap.size]? = some (.cells #[.int .i64 4, .int .i64 n, .string a, .string b, .int .i64 m0, .int .i64 m1, .int .i64 m2, .int .i64 m3, .slice po pl pc, .slice co cl cc] 34 (0, 0)) ∧ w2.heap[ib]? = some (.cells #[.int .i64 F1, .int .i64 F2, .int .i64 F3, .int .i64 F4, .string F5, .int .i64 (F6 : Nat)] 72 (0, 0)) ∧ Below B w w2 := ⟨_, rfl⟩
    obtain ⟨R2, hR2⟩ : ∃ R : Nat → World → Prop, R = fun jb wx => (∃ S2 L2, Bs PS B q r V V S2 L2 wx) ∧ ErrIs wx L1 ⟨#[115, 116, 97, 116]⟩ a E u13 ∧ wx.heap[w.heap.size]? = some (.cells #[.int .i64 4, .int .i64 n, .string a, .string b, .int .i64 m0, .int .i64 m1, .int .i64 m2, .int .i64 m3, .slice po pl pc, .slice co cl cc] 34 (0, 0)) ∧ wx.heap[ib]? = some (.cells #[.int .i64 F1, .int .i64 F2, .int .i64 F3, .int .i64 F4, .string F5, .int .i64 (F6 : Nat)] 72 (0, 0)) ∧ wx.heap[jb]? = some (.cells #[.int .i64 F1, .int .i64 F2, .int .i64 F3, .int .i64 F4, .string F5, .int .i64 (F6 : Nat)] 72 (0, 0)) ∧ Below B w wx := ⟨_, rfl⟩
    have hwl : w.heap.size < wc.heap.size := g1.lt g3
    have hil : ib < wc.heap.size := g1.lt g3'
    have hBl : B ≤ wc.heap.size := g1.low
    have HRa : Hid (∀ W, Alike wc W → Calls Tryz.prog 28 #[.pointer (some ⟨r, 0, none⟩), .string a] W fun e w' => e = .returned (.tuple #[.agg #[.int .i64 F1, .int .i64 F2, .int .i64 F3, .int .i64 F4, .string F5, .int .i64 (F6 : Nat)], .int .i64 (E : Int)]) ∧ RC w') := fun W hA => by
      refine (HR.out S1 L1 wc g1 g2 W hA.below).mono ?_
      rintro e w' ⟨rfl, ⟨S2, k1, k2, k3, k4⟩, k5, k6, k7, k8, k9⟩
      refine ⟨rfl, ?_⟩
      rw [hRC]
      exact ⟨⟨S2, k1, k2⟩, k9 _ g4, (k5 _ g3).trans g5, (k5 _ g3').trans g6, g7.trans k7⟩
    have HRb : Hid (∀ W, Alike (wc.alloc (.cells #[.int .i64 0, .int .i64 0, .int .i64 0, .int .i64 0, .string ⟨#[]⟩, .int .i64 0] 72)) W → Calls Tryz.prog 28 #[.pointer (some ⟨r, 0, none⟩), .string a] W fun e w' => e = .returned (.tuple #[.agg #[.int .i64 F1, .int .i64 F2, .int .i64 F3, .int .i64 F4, .string F5, .int .i64 (F6 : Nat)], .int .i64 (E : Int)]) ∧ RD w' ∧ w'.heap[wc.heap.size]? = some (.cells #[.int .i64 0, .int .i64 0, .int .i64 0, .int .i64 0, .string ⟨#[]⟩, .int .i64 0] 72 (0, 0))) := fun W hA => by
      have hba : Below wc.heap.size wc (wc.alloc (.cells #[.int .i64 0, .int .i64 0, .int .i64 0, .int .i64 0, .string ⟨#[]⟩, .int .i64 0] 72)) := (Below.refl _ wc).alloc (Nat.le_refl _) _
      have hsz : W.heap.size = wc.heap.size + 1 := by rw [hA.heap]; simp
      refine (HR.out S1 L1 wc g1 g2 W (hba.trans (hA.below.mono (by simp)))).mono ?_
      rintro e w' ⟨rfl, ⟨S2, k1, k2, k3, k4⟩, k5, k6, k7, k8, k9⟩
      refine ⟨rfl, ?_, (k6 _ (Nat.le_refl _) (by omega)).trans (by rw [hA.heap, heap_alloc_new])⟩
      rw [hRD]
      exact ⟨⟨S2, k1, k2, k4 _ (Nat.le_refl _) (by omega)⟩, k9 _ g4, (k5 _ g3).trans g5, (k5 _ g3').trans g6, g7.trans k7⟩
    have HRELC : Hid (∀ w2, RC w2 → R2 w2.heap.size (w2.alloc (.cells #[.int .i64 F1, .int .i64 F2, .int .i64 F3, .int .i64 F4, .string F5, .int .i64 (F6 : Nat)] 72))) := fun w2 h1 => by
      rw [hRC] at h1
      rw [hR2]
      obtain ⟨⟨S2, k1, k2⟩, k3, k4, k5, k6⟩ := h1
      have hba : Below w2.heap.size w2 (w2.alloc (.cells #[.int .i64 F1, .int .i64 F2, .int .i64 F3, .int .i64 F4, .string F5, .int .i64 (F6 : Nat)] 72)) := (Below.refl _ w2).alloc (Nat.le_refl _) _
      exact ⟨⟨S2, _, k1.below C hba⟩, k3.below hba, (hba.block _ (Array.getElem?_eq_some_iff.1 k4).1).trans k4, (hba.block _ (Array.getElem?_eq_some_iff.1 k5).1).trans k5, heap_alloc_new _ _, k6.trans (hba.mono k1.low)⟩
    have HRELD : Hid (∀ w2, RD w2 → w2.heap[wc.heap.size]? = some (.cells #[.int .i64 0, .int .i64 0, .int .i64 0, .int .i64 0, .string ⟨#[]⟩, .int .i64 0] 72 (0, 0)) → R2 wc.heap.size (six w2 wc.heap.size (.int .i64 F1) (.int .i64 F2) (.int .i64 F3) (.int .i64 F4) (.string F5) (.int .i64 (F6 : Nat)))) := fun w2 h1 hz => by
      rw [hRD] at h1
      rw [hR2]
      obtain ⟨⟨S2, k1, k2, k2'⟩, k3, k4, k5, k6⟩ := h1
      have hs1 := six_size w2 wc.heap.size (.int .i64 F1) (.int .i64 F2) (.int .i64 F3) (.int .i64 F4) (.string F5) (.int .i64 (F6 : Nat))
      have oth : ∀ k, k ≠ wc.heap.size → (six w2 wc.heap.size (.int .i64 F1) (.int .i64 F2) (.int .i64 F3) (.int .i64 F4) (.string F5) (.int .i64 (F6 : Nat))).heap[k]? = w2.heap[k]? := fun k hk => six_other _ _ _ _ _ _ _ _ hk
      obtain ⟨o1, o2, o3⟩ := six_rest w2 wc.heap.size (.int .i64 F1) (.int .i64 F2) (.int .i64 F3) (.int .i64 F4) (.string F5) (.int .i64 (F6 : Nat))
      have hI : (six w2 wc.heap.size (.int .i64 F1) (.int .i64 F2) (.int .i64 F3) (.int .i64 F4) (.string F5) (.int .i64 (F6 : Nat))).heap[wc.heap.size]? = some (.cells #[.int .i64 F1, .int .i64 F2, .int .i64 F3, .int .i64 F4, .string F5, .int .i64 (F6 : Nat)] 72 (0, 0)) := by unfold six; exact six_set hz _ _ _ _ _ _
      generalize six w2 wc.heap.size (.int .i64 F1) (.int .i64 F2) (.int .i64 F3) (.int .i64 F4) (.string F5) (.int .i64 (F6 : Nat)) = W' at hs1 oth o1 o2 o3 hI ⊢
      refine ⟨⟨S2, _, k1.over C (by omega) (fun k h6 h7 => oth k (fun e => h7 (e ▸ k2'))) k2⟩, ?_, (oth _ (by omega)).trans k4, (oth _ (by omega)).trans k5, hI, ⟨o1.trans k6.os, o2.trans k6.tape, o3.trans k6.output, by have := k6.size; omega, fun k hk => (oth k (by omega)).trans (k6.block k hk)⟩⟩
      rcases k3 with k3 | ⟨h0, b, m1, m2, m3⟩
      · exact .inl k3
      · exact .inr ⟨h0, b, m1, m2, (oth b (typed_ne m3 hz (by decide))).trans m3⟩
    have s2w := HX.out wc g5
    have s2w' : (wc.alloc (.cells #[.int .i64 0, .int .i64 0, .int .i64 0, .int .i64 0, .string ⟨#[]⟩, .int .i64 0] 72)).cell? ⟨w.heap.size, 2, none⟩ = some (.string a) := cell_below ((Below.refl wc.heap.size wc).alloc (Nat.le_refl _) _) s2w
    clear g1 g2 g3 g3' g4 g5 g6 g7 hRC hRD hR1 HRELA HRELB HPa HPb s2 s2' hwl hil hBl HR
    go_upto_region 9 with fail
    go_cut [14, 15] from 61 to 67 (fun j e wx => ∃ jb, j = .pointer (some ⟨jb, 0, none⟩) ∧ e = .int .i64 (E : Int) ∧ R2 jb wx)
    case first =>
      go_wp2_with (go_at_call 28; refine (HRa.out _ ⟨rfl, rfl, rfl, rfl⟩).mono ?_; rintro e w2 ⟨rfl, t2⟩; obtain ⟨x0, x1, x2, x3, x4, x5, g0, g1, g2, g3, g4, g5⟩ := six_at (heap_alloc_new w2 (.cells #[.int .i64 0, .int .i64 0, .int .i64 0, .int .i64 0, .string ⟨#[]⟩, .int .i64 0] 72)))
      go_meet
      exact ⟨w2.heap.size, rfl, rfl, HRELC.out w2 t2⟩
    case rest =>
      obtain ⟨jb, rfl, rfl, t2⟩ := hcut
      rw [hR2] at t2
      obtain ⟨⟨S2, L2, k1⟩, k3, k4, k5, k6, k7⟩ := t2
      have s3 := HX.out _ k4
      have HE2 : Hid (Bs PS B q r V V S2 L2 wc ∧ Below B w wc ∧ wc.heap[ib]? = some (.cells #[.int .i64 F1, .int .i64 F2, .int .i64 F3, .int .i64 F4, .string F5, .int .i64 (F6 : Nat)] 72) ∧ wc.heap[jb]? = some (.cells #[.int .i64 F1, .int .i64 F2, .int .i64 F3, .int .i64 F4, .string F5, .int .i64 (F6 : Nat)] 72)) := ⟨k1, k7, k5, k6⟩
      clear k1 k4 k5 k6 k7 hR2 s2w s2w' HRELC HRELD HRa HRb
      go_upto_region 11 with (go_at_call 21; refine (HT.out _ _ _ k3).mono ?_; rintro e w3 ⟨rfl, hA3⟩)
      obtain ⟨x0, x1, x2, x3, x4, x5, -⟩ := six_at (show w3.heap[ib]? = some (.cells #[.int .i64 F1, .int .i64 F2, .int .i64 F3, .int .i64 F4, .string F5, .int .i64 (F6 : Nat)] 72) by rw [hA3.heap]; exact HE2.out.2.2.1)
      obtain ⟨y0, y1, y2, y3, y4, y5, -⟩ := six_at (show w3.heap[jb]? = some (.cells #[.int .i64 F1, .int .i64 F2, .int .i64 F3, .int .i64 F4, .string F5, .int .i64 (F6 : Nat)] 72) by rw [hA3.heap]; exact HE2.out.2.2.2)
      have HA3 : Hid (Bk PS B q r (k + 1) w3 ∧ Below B w w3) := ⟨HF.out _ _ _ _ HE2.out.1 hA3, HE2.out.2.1.trans (hA3.below.mono HE2.out.1.low)⟩
      clear s3 hA3 k3
      go_wp2_with fail
      go_returns
      exact ⟨rfl, HA3.out⟩
end Go.Proofs.YtggnjgmjfenibaaGreatDoor
