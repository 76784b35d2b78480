import Derived.Test.YtofmiaaglbcebaaGreatDoorM10
import Derived.Test.YtofmiaaglbcebaaGreatDoorM9
import Derived.Test.YtofmiaaglbcebaaGreatDoorQ2
import Derived.Deep.RegionWith
import Derived.Deep.CutRange

-- A file put on one volume, on the other.
namespace Go.Proofs.YtofmiaaglbcebaaGreatDoor
open Go.RowKit
set_option linter.unusedVariables false
set_option maxRecDepth 100000
variable {PS : (Nat → Prop) → Nat → St → World → Prop}
def Vs.putO (v : Vs) (n : Int) (a b : ByteArray) (m0 m1 m2 m3 : Int) : Vs :=
  if (v.create a m0 m1 m2 m3).1.2 ≠ 0 then (v.create a m0 m1 m2 m3).2
  else if Int.tmod n 2 ≠ 0 then (((v.create a m0 m1 m2 m3).2.write ⟨a, (v.create a m0 m1 m2 m3).1.1, v.round, false⟩ b).2.sync ⟨a, (v.create a m0 m1 m2 m3).1.1, v.round, false⟩).2
  else if n ≠ 0 then ((v.create a m0 m1 m2 m3).2.write ⟨a, (v.create a m0 m1 m2 m3).1.1, v.round, false⟩ b).2.syncDir.2
  else ((v.create a m0 m1 m2 m3).2.write ⟨a, (v.create a m0 m1 m2 m3).1.1, v.round, false⟩ b).2
theorem Vf.putO {v : Vs} {k : Nat} (h : Vf v k) (hk : k < 2097151) (n : Int) (a b : ByteArray) (m0 m1 m2 m3 : Int) : Vf (v.putO n a b m0 m1 m2 m3) (k + 3) := by
  have h1 := h.create hk a m0 m1 m2 m3
  unfold Vs.putO
  split
  · exact h1.mono (by omega)
  · split
    · exact ((h1.write _ b).sync _).mono (by omega)
    · split
      · exact (h1.write _ b).syncDir.mono (by omega)
      · exact (h1.write _ b).mono (by omega)
theorem tmod_two (n : Int) : -1 ≤ Int.tmod n 2 ∧ Int.tmod n 2 ≤ 1 := by
  rcases Int.lt_or_le n 0 with h | h
  · have e : Int.tmod n 2 = -Int.tmod (-n) 2 := by rw [Int.neg_tmod, Int.neg_neg]
    have h1 := Int.tmod_nonneg 2 (show 0 ≤ -n by omega)
    have h2 := Int.tmod_lt_of_pos (-n) (show (0 : Int) < 2 by decide)
    omega
  · have h1 := Int.tmod_nonneg 2 h
    have h2 := Int.tmod_lt_of_pos n (show (0 : Int) < 2 by decide)
    omega
set_option maxHeartbeats 8000000 in
theorem put_c (C : PC PS) (B q r k : Nat) (kind : Int) (n : Int) (a b : ByteArray) (m0 m1 m2 m3 : Int) (po : Option Addr) (pl pc : Nat) (co : Option Addr) (cl cc : Nat) (v u : Vs) (S : Nat → Prop) (L : Nat) (w : World) (hb0 : Bs PS B q r v u S L w) (hv : Vf v k) (hk : k + 3 < 2097151) (hbs : b.size ≤ 140737488355328) :
    Calls Tryz.prog 15 #[.pointer (some ⟨q, 0, none⟩), .agg #[.int .i64 kind, .int .i64 n, .string a, .string b, .int .i64 m0, .int .i64 m1, .int .i64 m2, .int .i64 m3, .slice po pl pc, .slice co cl cc]] w fun e w' => e = .returned (.tuple #[]) ∧ (∃ L', Bs PS B q r (v.putO n a b m0 m1 m2 m3) u S L' w') ∧ Beside B S w w' := by
  have hB := hb0.low
  obtain ⟨W0, hW0⟩ : ∃ W0, W0 = w.alloc (Obj.cells #[.int .i64 kind, .int .i64 n, .string a, .string b, .int .i64 m0, .int .i64 m1, .int .i64 m2, .int .i64 m3, .slice po pl pc, .slice co cl cc] 34) := ⟨_, rfl⟩
  have hbA : Below w.heap.size w W0 := by rw [hW0]; exact (Below.refl _ w).alloc (Nat.le_refl _) _
  obtain ⟨S0, hS0⟩ : ∃ S0 : Nat → Prop, S0 = fun k => S k ∨ (w.heap.size ≤ k ∧ k < W0.heap.size) := ⟨_, rfl⟩
  have hs0 : Bs PS B q r v u S0 L W0 := by rw [hS0]; exact hb0.grow C hbA
  have hx0 : W0.heap[w.heap.size]? = some (.cells #[.int .i64 kind, .int .i64 n, .string a, .string b, .int .i64 m0, .int .i64 m1, .int .i64 m2, .int .i64 m3, .slice po pl pc, .slice co cl cc] 34 (0, 0)) := by rw [hW0]; exact heap_alloc_new _ _
  have hin : S0 w.heap.size := by rw [hS0]; exact .inr ⟨Nat.le_refl _, by rw [hW0]; simp⟩
  have HC : Hid (∀ W, Beside B S0 W0 W → W.cell? ⟨w.heap.size, 1, none⟩ = some (.int .i64 n) ∧ W.cell? ⟨w.heap.size, 2, none⟩ = some (.string a) ∧ W.cell? ⟨w.heap.size, 3, none⟩ = some (.string b) ∧ W.cell? ⟨w.heap.size, 4, none⟩ = some (.int .i64 m0) ∧ W.cell? ⟨w.heap.size, 5, none⟩ = some (.int .i64 m1) ∧ W.cell? ⟨w.heap.size, 6, none⟩ = some (.int .i64 m2) ∧ W.cell? ⟨w.heap.size, 7, none⟩ = some (.int .i64 m3)) := fun W hW => by
    have hh := (hW.set _ hin).trans hx0
    refine ⟨?_, ?_, ?_, ?_, ?_, ?_, ?_⟩ <;> (rw [Lib.cell_of_heap hh]; rfl)
  have HW0 := hidK hW0
  have HB0 : Hid (Beside B S w W0) := Beside.of hbA hB (fun k hk => hb0.lt hk)
  have hsub : ∀ k, S k → S0 k := fun k hk => by rw [hS0]; exact .inl hk
  have hcn : v.cnt ≤ 4194304 := by have := hv.cnt; omega
  obtain ⟨E, hE⟩ : ∃ x, x = (v.create a m0 m1 m2 m3).1.2 := ⟨_, rfl⟩
  obtain ⟨V1, hV1⟩ : ∃ x, x = (v.create a m0 m1 m2 m3).2 := ⟨_, rfl⟩
  obtain ⟨x, hx⟩ : ∃ x : Hd, x = ⟨a, (v.create a m0 m1 m2 m3).1.1, v.round, false⟩ := ⟨_, rfl⟩
  have hv1 : Vf V1 (k + 1) := by rw [hV1]; exact hv.create (by omega) a m0 m1 m2 m3
  have hc1 : V1.cnt ≤ 4194304 := by have := hv1.cnt; omega
  obtain ⟨V2, hV2⟩ : ∃ y, y = (V1.write x b).2 := ⟨_, rfl⟩
  have hv2 : Vf V2 (k + 2) := by rw [hV2]; exact hv1.write x b
  have hc2 : V2.cnt ≤ 4194304 := by have := hv2.cnt; omega
  have HCR : Hid (Calls Tryz.prog 39 #[.pointer (some ⟨q, 0, none⟩), .string a, .agg #[.int .i64 m0, .int .i64 m1, .int .i64 m2, .int .i64 m3]] W0 fun e w' => ∃ hv ev, e = .returned (.tuple #[hv, ev]) ∧ Beside B S0 W0 w' ∧ ((E ≠ 0 ∧ hv = .pointer none ∧ Bs PS B q r V1 u S0 W0.heap.size w') ∨ (E = 0 ∧ ∃ b, hv = .pointer (some ⟨b, 0, none⟩) ∧ FileAt w' b q x ∧ Bs PS B q r V1 u (fun k => S0 k ∨ k = b) W0.heap.size w'))) := by
    have := bs_create C B q r v u S0 L a m0 m1 m2 m3 W0 hs0 hv.wf hcn
    rw [← hE, ← hV1, ← hx] at this
    refine this.mono ?_
    rintro e w' ⟨hv, ev, h1, h2, h3, h4⟩
    exact ⟨hv, ev, h1, h3, h4⟩
  have HWR : Hid (∀ (W : World) (L1 h0 : Nat), Bs PS B q r V1 u (fun k => S0 k ∨ k = h0) L1 W → FileAt W h0 q x → Calls Tryz.prog 40 #[.pointer (some ⟨h0, 0, none⟩), .string b] W fun e w' => ∃ (z1 : Int) (z2 : Value), e = .returned (.tuple #[.int .i64 z1, z2]) ∧ (∃ L2, Bs PS B q r V2 u (fun k => S0 k ∨ k = h0) L2 w') ∧ Beside B (fun k => S0 k ∨ k = h0) W w') := fun W L1 h0 g1 g2 => by
    have := bs_hwrite C B q r V1 u _ L1 h0 x b W g1 g2 (.inr rfl) hv1.wf hc1 hbs
    refine this.mono ?_
    rw [← hV2]
    rintro e w' ⟨ev, rfl, _, h1, h2⟩
    exact ⟨_, _, rfl, ⟨_, h1⟩, h2⟩
  have HSY : Hid (∀ (W : World) (L1 h0 : Nat), Bs PS B q r V2 u (fun k => S0 k ∨ k = h0) L1 W → FileAt W h0 q x → Calls Tryz.prog 41 #[.pointer (some ⟨h0, 0, none⟩)] W fun e w' => (∃ z : Value, e = .returned z) ∧ (∃ L2, Bs PS B q r (V2.sync x).2 u S L2 w') ∧ Beside B S W w') := fun W L1 h0 g1 g2 => by
    have := bs_hsync C B q r V2 u _ L1 h0 x W g1 g2 (.inr rfl) hv2.wf hc2
    refine this.mono ?_
    rintro e w' ⟨ev, rfl, _, h1, h2⟩
    exact ⟨⟨_, rfl⟩, ⟨_, h1.sub (fun _ h' => .inl (hsub _ h'))⟩, h2.sub (fun _ h' => .inl (hsub _ h'))⟩
  have HSD : Hid (∀ (W : World) (L1 h0 : Nat), Bs PS B q r V2 u (fun k => S0 k ∨ k = h0) L1 W → Calls Tryz.prog 42 #[.pointer (some ⟨q, 0, none⟩)] W fun e w' => (∃ z : Value, e = .returned z) ∧ (∃ L2, Bs PS B q r V2.syncDir.2 u S L2 w') ∧ Beside B S W w') := fun W L1 h0 g1 => by
    have := bs_sd C B q r V2 u _ L1 W g1 hv2.wf hc2
    refine this.mono ?_
    rintro e w' ⟨ev, rfl, _, h1, h2⟩
    exact ⟨⟨_, rfl⟩, ⟨_, h1.sub (fun _ h' => .inl (hsub _ h'))⟩, h2.sub (fun _ h' => .inl (hsub _ h'))⟩
  have HFK : Hid (∀ (h0 : Nat) (W W' : World), FileAt W h0 q x → Beside B (fun k => S0 k ∨ k = h0) W W' → FileAt W' h0 q x) := fun h0 W W' g1 g2 => (g2.set h0 (.inr rfl)).trans g1
  have hput : v.putO n a b m0 m1 m2 m3 = if E ≠ 0 then V1 else if Int.tmod n 2 ≠ 0 then (V2.sync x).2 else if n ≠ 0 then V2.syncDir.2 else V2 := by
    unfold Vs.putO; rw [hE, hV2, hV1, hx]
  rw [hput]
  clear hput hs0 hx0 hin hbA hb0 hv hcn hE hV1 hx hv1 hc1 hV2 hv2 hc2 hW0 hS0
  by_cases h0 : E = 0
  case neg =>
    rw [if_pos h0]
    have HC1 : Hid (Calls Tryz.prog 39 #[.pointer (some ⟨q, 0, none⟩), .string a, .agg #[.int .i64 m0, .int .i64 m1, .int .i64 m2, .int .i64 m3]] W0 fun e w' => ∃ z, e = .returned (.tuple #[.pointer none, z]) ∧ Beside B S0 W0 w' ∧ ∃ L', Bs PS B q r V1 u S L' w') := by
      refine HCR.out.mono ?_
      rintro e w' ⟨hv, ev, rfl, h1, h2⟩
      rcases h2 with ⟨_, rfl, h2⟩ | ⟨h2, _⟩
      · exact ⟨_, rfl, h1, _, h2.sub (fun _ h' => hsub _ h')⟩
      · exact absurd h2 h0
    clear HCR HWR HSY HSD HFK h0
    go_enter Tryz.func15, Tryz.ntmps15
    go_upto_region 1 with fail
    rw [← HW0.out]
    obtain ⟨s1, s2, s3, s4, s5, s6, s7⟩ := HC.out W0 (Beside.refl _ _ _)
    go_wp2_with (go_at_call 39; refine HC1.out.mono ?_; rintro e w1 ⟨z, rfl, hk1, hb1⟩)
    go_returns
    exact ⟨rfl, hb1, HB0.out.trans (hk1.sub hsub)⟩
  case pos =>
    subst h0
    rw [if_neg (by simp)]
    have HC1 : Hid (Calls Tryz.prog 39 #[.pointer (some ⟨q, 0, none⟩), .string a, .agg #[.int .i64 m0, .int .i64 m1, .int .i64 m2, .int .i64 m3]] W0 fun e w' => ∃ z h0, e = .returned (.tuple #[.pointer (some ⟨h0, 0, none⟩), z]) ∧ Beside B S0 W0 w' ∧ (∃ L', Bs PS B q r V1 u (fun k => S0 k ∨ k = h0) L' w') ∧ FileAt w' h0 q x) := by
      refine HCR.out.mono ?_
      rintro e w' ⟨hv, ev, rfl, h1, h2⟩
      rcases h2 with ⟨h2, _⟩ | ⟨_, h0, rfl, h2, h3⟩
      · exact absurd rfl h2
      · exact ⟨_, _, rfl, h1, ⟨_, h3⟩, h2⟩
    clear HCR
    have hm2 : -1 ≤ Int.tmod n 2 ∧ Int.tmod n 2 ≤ 1 := tmod_two n
    by_cases ho : Int.tmod n 2 = 0
    case neg =>
      rw [if_pos ho]
      go_enter Tryz.func15, Tryz.ntmps15
      go_upto_region 1 with fail
      rw [← HW0.out]
      obtain ⟨s1, s2, s3, s4, s5, s6, s7⟩ := HC.out W0 (Beside.refl _ _ _)
      go_upto_region 3 with (go_at_call 39; refine HC1.out.mono ?_; rintro e w1 ⟨z, h0, rfl, hk1, ⟨L1, hb1⟩, hf1⟩)
      clear s1 s2 s3 s4 s5 s6 s7
      obtain ⟨s1, s2, s3, s4, s5, s6, s7⟩ := HC.out w1 hk1
      clear s4 s5 s6 s7
      go_upto_region 4 with (go_at_call 40; refine (HWR.out w1 L1 h0 hb1 hf1).mono ?_; rintro e w2 ⟨z1, z2, rfl, ⟨L2, hb2⟩, hk2⟩)
      have hf2 := HFK.out _ _ _ hf1 hk2
      clear s1 s2 s3
      obtain ⟨s1, s2, s3, s4, s5, s6, s7⟩ := HC.out w2 (hk1.trans (hk2.sub fun _ h' => .inl h'))
      clear s2 s3 s4 s5 s6 s7
      go_wp2_with (go_at_call 41; refine (HSY.out w2 L2 h0 hb2 hf2).mono ?_; rintro e w3 ⟨⟨z3, rfl⟩, hb3, hl3⟩)
      go_returns
      exact ⟨rfl, hb3, (HB0.out.trans ((hk1.sub hsub).trans (hk2.sub fun _ h' => .inl (hsub _ h')))).trans hl3⟩
    case pos =>
      rw [if_neg (by simpa using ho)]
      by_cases hn : n = 0
      case neg =>
        rw [if_pos hn]
        go_enter Tryz.func15, Tryz.ntmps15
        go_upto_region 1 with fail
        rw [← HW0.out]
        obtain ⟨s1, s2, s3, s4, s5, s6, s7⟩ := HC.out W0 (Beside.refl _ _ _)
        go_upto_region 3 with (go_at_call 39; refine HC1.out.mono ?_; rintro e w1 ⟨z, h0, rfl, hk1, ⟨L1, hb1⟩, hf1⟩)
        clear s1 s2 s3 s4 s5 s6 s7
        obtain ⟨s1, s2, s3, s4, s5, s6, s7⟩ := HC.out w1 hk1
        clear s4 s5 s6 s7
        go_upto_region 4 with (go_at_call 40; refine (HWR.out w1 L1 h0 hb1 hf1).mono ?_; rintro e w2 ⟨z1, z2, rfl, ⟨L2, hb2⟩, hk2⟩)
        have hf2 := HFK.out _ _ _ hf1 hk2
        clear s1 s2 s3
        obtain ⟨s1, s2, s3, s4, s5, s6, s7⟩ := HC.out w2 (hk1.trans (hk2.sub fun _ h' => .inl h'))
        clear s2 s3 s4 s5 s6 s7
        go_wp2_with (go_at_call 42; refine (HSD.out w2 L2 h0 hb2).mono ?_; rintro e w3 ⟨⟨z3, rfl⟩, hb3, hl3⟩)
        go_returns
        exact ⟨rfl, hb3, (HB0.out.trans ((hk1.sub hsub).trans (hk2.sub fun _ h' => .inl (hsub _ h')))).trans hl3⟩
      case pos =>
        subst hn
        rw [if_neg (by simp)]
        go_enter Tryz.func15, Tryz.ntmps15
        go_upto_region 1 with fail
        rw [← HW0.out]
        obtain ⟨s1, s2, s3, s4, s5, s6, s7⟩ := HC.out W0 (Beside.refl _ _ _)
        go_upto_region 3 with (go_at_call 39; refine HC1.out.mono ?_; rintro e w1 ⟨z, h0, rfl, hk1, ⟨L1, hb1⟩, hf1⟩)
        clear s1 s2 s3 s4 s5 s6 s7
        obtain ⟨s1, s2, s3, s4, s5, s6, s7⟩ := HC.out w1 hk1
        clear s4 s5 s6 s7
        go_upto_region 4 with (go_at_call 40; refine (HWR.out w1 L1 h0 hb1 hf1).mono ?_; rintro e w2 ⟨z1, z2, rfl, ⟨L2, hb2⟩, hk2⟩)
        have hf2 := HFK.out _ _ _ hf1 hk2
        clear s1 s2 s3
        obtain ⟨s1, s2, s3, s4, s5, s6, s7⟩ := HC.out w2 (hk1.trans (hk2.sub fun _ h' => .inl h'))
        clear s2 s3 s4 s5 s6 s7
        go_wp2
        go_returns
        exact ⟨rfl, ⟨_, hb2.sub (fun _ h' => .inl (hsub _ h'))⟩, HB0.out.trans ((hk1.sub hsub).trans (hk2.sub fun _ h' => .inl (hsub _ h')))⟩
set_option maxHeartbeats 8000000 in
theorem putDoc_c (C : PC PS) (B q r k : Nat) (kind : Int) (n : Int) (a b : ByteArray) (m0 m1 m2 m3 : Int) (po : Option Addr) (pl pc : Nat) (co : Option Addr) (cl cc : Nat) (v u : Vs) (S : Nat → Prop) (L : Nat) (w : World) (hb0 : Bs PS B q r v u S L w) (hv : Vf u k) (hk : k + 3 < 2097151) (hbs : b.size ≤ 140737488355328) :
    Calls Tryz.prog 16 #[.pointer (some ⟨r, 0, none⟩), .agg #[.int .i64 kind, .int .i64 n, .string a, .string b, .int .i64 m0, .int .i64 m1, .int .i64 m2, .int .i64 m3, .slice po pl pc, .slice co cl cc]] w fun e w' => e = .returned (.tuple #[]) ∧ (∃ L', Bs PS B q r v (u.putO n a b m0 m1 m2 m3) S L' w') ∧ Beside B S w w' := by
  have hB := hb0.low
  obtain ⟨W0, hW0⟩ : ∃ W0, W0 = w.alloc (Obj.cells #[.int .i64 kind, .int .i64 n, .string a, .string b, .int .i64 m0, .int .i64 m1, .int .i64 m2, .int .i64 m3, .slice po pl pc, .slice co cl cc] 34) := ⟨_, rfl⟩
  have hbA : Below w.heap.size w W0 := by rw [hW0]; exact (Below.refl _ w).alloc (Nat.le_refl _) _
  obtain ⟨S0, hS0⟩ : ∃ S0 : Nat → Prop, S0 = fun k => S k ∨ (w.heap.size ≤ k ∧ k < W0.heap.size) := ⟨_, rfl⟩
  have hs0 : Bs PS B q r v u S0 L W0 := by rw [hS0]; exact hb0.grow C hbA
  have hx0 : W0.heap[w.heap.size]? = some (.cells #[.int .i64 kind, .int .i64 n, .string a, .string b, .int .i64 m0, .int .i64 m1, .int .i64 m2, .int .i64 m3, .slice po pl pc, .slice co cl cc] 34 (0, 0)) := by rw [hW0]; exact heap_alloc_new _ _
  have hin : S0 w.heap.size := by rw [hS0]; exact .inr ⟨Nat.le_refl _, by rw [hW0]; simp⟩
  have HC : Hid (∀ W, Beside B S0 W0 W → W.cell? ⟨w.heap.size, 1, none⟩ = some (.int .i64 n) ∧ W.cell? ⟨w.heap.size, 2, none⟩ = some (.string a) ∧ W.cell? ⟨w.heap.size, 3, none⟩ = some (.string b) ∧ W.cell? ⟨w.heap.size, 4, none⟩ = some (.int .i64 m0) ∧ W.cell? ⟨w.heap.size, 5, none⟩ = some (.int .i64 m1) ∧ W.cell? ⟨w.heap.size, 6, none⟩ = some (.int .i64 m2) ∧ W.cell? ⟨w.heap.size, 7, none⟩ = some (.int .i64 m3)) := fun W hW => by
    have hh := (hW.set _ hin).trans hx0
    refine ⟨?_, ?_, ?_, ?_, ?_, ?_, ?_⟩ <;> (rw [Lib.cell_of_heap hh]; rfl)
  have HW0 := hidK hW0
  have HB0 : Hid (Beside B S w W0) := Beside.of hbA hB (fun k hk => hb0.lt hk)
  have hsub : ∀ k, S k → S0 k := fun k hk => by rw [hS0]; exact .inl hk
  have hcn : u.cnt ≤ 4194304 := by have := hv.cnt; omega
  obtain ⟨E, hE⟩ : ∃ x, x = (u.create a m0 m1 m2 m3).1.2 := ⟨_, rfl⟩
  obtain ⟨V1, hV1⟩ : ∃ x, x = (u.create a m0 m1 m2 m3).2 := ⟨_, rfl⟩
  obtain ⟨x, hx⟩ : ∃ x : Hd, x = ⟨a, (u.create a m0 m1 m2 m3).1.1, u.round, false⟩ := ⟨_, rfl⟩
  have hv1 : Vf V1 (k + 1) := by rw [hV1]; exact hv.create (by omega) a m0 m1 m2 m3
  have hc1 : V1.cnt ≤ 4194304 := by have := hv1.cnt; omega
  obtain ⟨V2, hV2⟩ : ∃ y, y = (V1.write x b).2 := ⟨_, rfl⟩
  have hv2 : Vf V2 (k + 2) := by rw [hV2]; exact hv1.write x b
  have hc2 : V2.cnt ≤ 4194304 := by have := hv2.cnt; omega
  have HCR : Hid (Calls Tryz.prog 43 #[.pointer (some ⟨r, 0, none⟩), .string a, .agg #[.int .i64 m0, .int .i64 m1, .int .i64 m2, .int .i64 m3]] W0 fun e w' => ∃ hv, e = .returned (.tuple #[hv, .int .i64 (E : Int)]) ∧ Beside B S0 W0 w' ∧ ((E ≠ 0 ∧ hv = .pointer none ∧ Bs PS B q r v V1 S0 w'.heap.size w') ∨ (E = 0 ∧ ∃ b, hv = .pointer (some ⟨b, 0, none⟩) ∧ RFileAt w' b r x ∧ Bs PS B q r v V1 (fun k => S0 k ∨ k = b) w'.heap.size w'))) := by
    have := bs_rcreate C B q r v u S0 L a m0 m1 m2 m3 W0 hs0 hv.wf hcn
    rw [← hE, ← hV1, ← hx] at this
    refine this.mono ?_
    rintro e w' ⟨hv, h1, h2, h3, h4⟩
    exact ⟨hv, h1, h2, h4⟩
  have HWR : Hid (∀ (W : World) (L1 h0 : Nat), Bs PS B q r v V1 (fun k => S0 k ∨ k = h0) L1 W → RFileAt W h0 r x → Calls Tryz.prog 44 #[.pointer (some ⟨h0, 0, none⟩), .string b] W fun e w' => ∃ (z1 z2 : Int), e = .returned (.tuple #[.int .i64 z1, .int .i64 z2]) ∧ (∃ L2, Bs PS B q r v V2 (fun k => S0 k ∨ k = h0) L2 w') ∧ Beside B (fun k => S0 k ∨ k = h0) W w') := fun W L1 h0 g1 g2 => by
    have := bs_rwrite C B q r v V1 _ L1 h0 x b W g1 g2 (.inr rfl) hv1.wf hc1 hbs
    refine this.mono ?_
    rw [← hV2]
    rintro e w' ⟨rfl, h1, h2, _⟩
    exact ⟨_, _, rfl, ⟨_, h1⟩, h2⟩
  have HSY : Hid (∀ (W : World) (L1 h0 : Nat), Bs PS B q r v V2 (fun k => S0 k ∨ k = h0) L1 W → RFileAt W h0 r x → Calls Tryz.prog 45 #[.pointer (some ⟨h0, 0, none⟩)] W fun e w' => (∃ z : Int, e = .returned (.int .i64 z)) ∧ (∃ L2, Bs PS B q r v (V2.sync x).2 S L2 w') ∧ Beside B S W w') := fun W L1 h0 g1 g2 => by
    have := bs_rsync C B q r v V2 _ L1 h0 x W g1 g2 (.inr rfl) hv2.wf hc2
    refine this.mono ?_
    rintro e w' ⟨rfl, h1, h2, _⟩
    exact ⟨⟨_, rfl⟩, ⟨_, h1.sub (fun _ h' => .inl (hsub _ h'))⟩, h2.sub (fun _ h' => .inl (hsub _ h'))⟩
  have HSD : Hid (∀ (W : World) (L1 h0 : Nat), Bs PS B q r v V2 (fun k => S0 k ∨ k = h0) L1 W → Calls Tryz.prog 46 #[.pointer (some ⟨r, 0, none⟩)] W fun e w' => (∃ z : Int, e = .returned (.int .i64 z)) ∧ (∃ L2, Bs PS B q r v V2.syncDir.2 S L2 w') ∧ Beside B S W w') := fun W L1 h0 g1 => by
    have := bs_rsd C B q r v V2 _ L1 W g1 hv2.wf hc2
    refine this.mono ?_
    rintro e w' ⟨rfl, h1, h2, _⟩
    exact ⟨⟨_, rfl⟩, ⟨_, h1.sub (fun _ h' => .inl (hsub _ h'))⟩, h2.sub (fun _ h' => .inl (hsub _ h'))⟩
  have HFK : Hid (∀ (h0 : Nat) (W W' : World), RFileAt W h0 r x → Beside B (fun k => S0 k ∨ k = h0) W W' → RFileAt W' h0 r x) := fun h0 W W' g1 g2 => (g2.set h0 (.inr rfl)).trans g1
  have hput : u.putO n a b m0 m1 m2 m3 = if E ≠ 0 then V1 else if Int.tmod n 2 ≠ 0 then (V2.sync x).2 else if n ≠ 0 then V2.syncDir.2 else V2 := by
    unfold Vs.putO; rw [hE, hV2, hV1, hx]
  rw [hput]
  clear hput hs0 hx0 hin hbA hb0 hv hcn hE hV1 hx hv1 hc1 hV2 hv2 hc2 hW0 hS0
  by_cases h0 : E = 0
  case neg =>
    rw [if_pos h0]
    have HC1 : Hid (Calls Tryz.prog 43 #[.pointer (some ⟨r, 0, none⟩), .string a, .agg #[.int .i64 m0, .int .i64 m1, .int .i64 m2, .int .i64 m3]] W0 fun e w' => ∃ z, e = .returned (.tuple #[.pointer none, z]) ∧ Beside B S0 W0 w' ∧ ∃ L', Bs PS B q r v V1 S L' w') := by
      refine HCR.out.mono ?_
      rintro e w' ⟨hv, rfl, h1, h2⟩
      rcases h2 with ⟨_, rfl, h2⟩ | ⟨h2, _⟩
      · exact ⟨_, rfl, h1, _, h2.sub (fun _ h' => hsub _ h')⟩
      · exact absurd h2 h0
    clear HCR HWR HSY HSD HFK h0
    go_enter Tryz.func16, Tryz.ntmps16
    go_upto_region 1 with fail
    rw [← HW0.out]
    obtain ⟨s1, s2, s3, s4, s5, s6, s7⟩ := HC.out W0 (Beside.refl _ _ _)
    go_wp2_with (go_at_call 43; refine HC1.out.mono ?_; rintro e w1 ⟨z, rfl, hk1, hb1⟩)
    go_returns
    exact ⟨rfl, hb1, HB0.out.trans (hk1.sub hsub)⟩
  case pos =>
    subst h0
    rw [if_neg (by simp)]
    have HC1 : Hid (Calls Tryz.prog 43 #[.pointer (some ⟨r, 0, none⟩), .string a, .agg #[.int .i64 m0, .int .i64 m1, .int .i64 m2, .int .i64 m3]] W0 fun e w' => ∃ z h0, e = .returned (.tuple #[.pointer (some ⟨h0, 0, none⟩), z]) ∧ Beside B S0 W0 w' ∧ (∃ L', Bs PS B q r v V1 (fun k => S0 k ∨ k = h0) L' w') ∧ RFileAt w' h0 r x) := by
      refine HCR.out.mono ?_
      rintro e w' ⟨hv, rfl, h1, h2⟩
      rcases h2 with ⟨h2, _⟩ | ⟨_, h0, rfl, h2, h3⟩
      · exact absurd rfl h2
      · exact ⟨_, _, rfl, h1, ⟨_, h3⟩, h2⟩
    clear HCR
    have hm2 : -1 ≤ Int.tmod n 2 ∧ Int.tmod n 2 ≤ 1 := tmod_two n
    by_cases ho : Int.tmod n 2 = 0
    case neg =>
      rw [if_pos ho]
      go_enter Tryz.func16, Tryz.ntmps16
      go_upto_region 1 with fail
      rw [← HW0.out]
      obtain ⟨s1, s2, s3, s4, s5, s6, s7⟩ := HC.out W0 (Beside.refl _ _ _)
      go_upto_region 3 with (go_at_call 43; refine HC1.out.mono ?_; rintro e w1 ⟨z, h0, rfl, hk1, ⟨L1, hb1⟩, hf1⟩)
      clear s1 s2 s3 s4 s5 s6 s7
      obtain ⟨s1, s2, s3, s4, s5, s6, s7⟩ := HC.out w1 hk1
      clear s4 s5 s6 s7
      go_upto_region 4 with (go_at_call 44; refine (HWR.out w1 L1 h0 hb1 hf1).mono ?_; rintro e w2 ⟨z1, z2, rfl, ⟨L2, hb2⟩, hk2⟩)
      have hf2 := HFK.out _ _ _ hf1 hk2
      clear s1 s2 s3
      obtain ⟨s1, s2, s3, s4, s5, s6, s7⟩ := HC.out w2 (hk1.trans (hk2.sub fun _ h' => .inl h'))
      clear s2 s3 s4 s5 s6 s7
      go_wp2_with (go_at_call 45; refine (HSY.out w2 L2 h0 hb2 hf2).mono ?_; rintro e w3 ⟨⟨z3, rfl⟩, hb3, hl3⟩)
      go_returns
      exact ⟨rfl, hb3, (HB0.out.trans ((hk1.sub hsub).trans (hk2.sub fun _ h' => .inl (hsub _ h')))).trans hl3⟩
    case pos =>
      rw [if_neg (by simpa using ho)]
      by_cases hn : n = 0
      case neg =>
        rw [if_pos hn]
        go_enter Tryz.func16, Tryz.ntmps16
        go_upto_region 1 with fail
        rw [← HW0.out]
        obtain ⟨s1, s2, s3, s4, s5, s6, s7⟩ := HC.out W0 (Beside.refl _ _ _)
        go_upto_region 3 with (go_at_call 43; refine HC1.out.mono ?_; rintro e w1 ⟨z, h0, rfl, hk1, ⟨L1, hb1⟩, hf1⟩)
        clear s1 s2 s3 s4 s5 s6 s7
        obtain ⟨s1, s2, s3, s4, s5, s6, s7⟩ := HC.out w1 hk1
        clear s4 s5 s6 s7
        go_upto_region 4 with (go_at_call 44; refine (HWR.out w1 L1 h0 hb1 hf1).mono ?_; rintro e w2 ⟨z1, z2, rfl, ⟨L2, hb2⟩, hk2⟩)
        have hf2 := HFK.out _ _ _ hf1 hk2
        clear s1 s2 s3
        obtain ⟨s1, s2, s3, s4, s5, s6, s7⟩ := HC.out w2 (hk1.trans (hk2.sub fun _ h' => .inl h'))
        clear s2 s3 s4 s5 s6 s7
        go_wp2_with (go_at_call 46; refine (HSD.out w2 L2 h0 hb2).mono ?_; rintro e w3 ⟨⟨z3, rfl⟩, hb3, hl3⟩)
        go_returns
        exact ⟨rfl, hb3, (HB0.out.trans ((hk1.sub hsub).trans (hk2.sub fun _ h' => .inl (hsub _ h')))).trans hl3⟩
      case pos =>
        subst hn
        rw [if_neg (by simp)]
        go_enter Tryz.func16, Tryz.ntmps16
        go_upto_region 1 with fail
        rw [← HW0.out]
        obtain ⟨s1, s2, s3, s4, s5, s6, s7⟩ := HC.out W0 (Beside.refl _ _ _)
        go_upto_region 3 with (go_at_call 43; refine HC1.out.mono ?_; rintro e w1 ⟨z, h0, rfl, hk1, ⟨L1, hb1⟩, hf1⟩)
        clear s1 s2 s3 s4 s5 s6 s7
        obtain ⟨s1, s2, s3, s4, s5, s6, s7⟩ := HC.out w1 hk1
        clear s4 s5 s6 s7
        go_upto_region 4 with (go_at_call 44; refine (HWR.out w1 L1 h0 hb1 hf1).mono ?_; rintro e w2 ⟨z1, z2, rfl, ⟨L2, hb2⟩, hk2⟩)
        have hf2 := HFK.out _ _ _ hf1 hk2
        clear s1 s2 s3
        obtain ⟨s1, s2, s3, s4, s5, s6, s7⟩ := HC.out w2 (hk1.trans (hk2.sub fun _ h' => .inl h'))
        clear s2 s3 s4 s5 s6 s7
        go_wp2
        go_returns
        exact ⟨rfl, ⟨_, hb2.sub (fun _ h' => .inl (hsub _ h'))⟩, HB0.out.trans ((hk1.sub hsub).trans (hk2.sub fun _ h' => .inl (hsub _ h')))⟩
end Go.Proofs.YtofmiaaglbcebaaGreatDoor
