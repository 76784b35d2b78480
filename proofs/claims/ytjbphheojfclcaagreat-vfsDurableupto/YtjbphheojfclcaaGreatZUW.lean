
-- VfsDurable's walk.
import Derived.Test.YtjbphheojfclcaaGreatZUC
import Derived.Test.YtjbphheojfclcaaGreatZS
import Derived.Deep.CutRange
namespace Go.Proofs.YtjbphheojfclcaaGreat
open Go.ChangeShapes Go.WideShapes Go.ChangeAt Go.RowKit
set_option linter.unusedVariables false
set_option maxRecDepth 100000
variable {PS : (Nat → Prop) → Nat → St → World → Prop} {w0 : World}
attribute [local go_sem ↓] Go.wp_at_zero Go.wp_at_succ
set_option maxHeartbeats 8000000 in
theorem dur_no (C : PC PS) (c : Int) (hc : c < 0 ∨ 1073741824 < c) (K n : Int) (nm b : ByteArray) (hnm : nm.size ≤ 140737488355328) (m0 m1 m2 m3 : Int) (po : Option Addr) (pl pc : Nat) (co : Option Addr) (cl cc : Nat) (da : ByteArray) (v3 : Value) (d : Int) (cv : Value) (w : World) :
    Calls Tryz.prog 5 #[.int .i64 c, .agg #[.int .i64 K, .int .i64 n, .string nm, .string b, .int .i64 m0, .int .i64 m1, .int .i64 m2, .int .i64 m3, .slice po pl pc, .slice co cl cc], .string da, v3, .int .i64 d, cv] w fun e w' => e = .returned (.bool true) ∧ Below w.heap.size w w' := by
  have HN : Hid (∀ W, Calls Tryz.prog 10 #[.int .i64 c] W fun e w' => e = .returned (.pointer none) ∧ Below W.heap.size W w') := fun W => open_no C c W hc
  have HFN : Hid (∀ W, Calls Tryz.prog 12 #[.string nm] W fun e w' => e = .returned (.bool (okName nm)) ∧ w' = W) := fun W => lawName_c nm W hnm
  have HG : Hid (∀ W, Calls Tryz.prog 9 #[.int .i64 c] W fun e w' => e = .returned (.bool false) ∧ w' = W) := fun W => by
    have h := good_c c W
    have e : (decide (0 ≤ c) && decide (c ≤ 1073741824)) = false := by
      rcases hc with h | h
      · have : decide (0 ≤ c) = false := by simp; omega
        rw [this]; rfl
      · have : decide (c ≤ 1073741824) = false := by simp; omega
        rw [this, Bool.and_false]
    rw [e] at h; exact h
  obtain ⟨W0, hW0⟩ : ∃ W0, W0 = w.alloc (.cells #[.int .i64 K, .int .i64 n, .string nm, .string b, .int .i64 m0, .int .i64 m1, .int .i64 m2, .int .i64 m3, .slice po pl pc, .slice co cl cc] 39) := ⟨_, rfl⟩
  have HW0 : Hid (W0 = w.alloc (.cells #[.int .i64 K, .int .i64 n, .string nm, .string b, .int .i64 m0, .int .i64 m1, .int .i64 m2, .int .i64 m3, .slice po pl pc, .slice co cl cc] 39) ∧ Below w.heap.size w W0) := ⟨hW0, by rw [hW0]; exact (Below.refl _ w).alloc (Nat.le_refl _) _⟩
  have hx0 : W0.cell? ⟨w.heap.size, 2, none⟩ = some (.string nm) := by rw [hW0, Lib.cell_of_heap (heap_alloc_new _ _)]; rfl
  clear hc hW0 hnm
  go_enter Tryz.func5, Tryz.ntmps5
  go_upto_region 1 with fail
  rw [← HW0.out.1]
  go_wp2_with fail
  go_at_call 10
  refine (HN.out _).mono ?_
  rintro e w1 ⟨rfl, hb1⟩
  have hx1 := cell_below hb1 hx0
  have HB1 : Hid (Below w.heap.size w w1) := HW0.out.2.trans (hb1.mono HW0.out.2.size)
  clear hb1 hx0
  go_wp2_with (first
    | (go_at_call 12; refine (HFN.out _).mono ?_; rintro e w3 ⟨rfl, hw3⟩; subst w3)
    | (go_at_call 9; refine (HG.out _).mono ?_; rintro e w4 ⟨rfl, hw4⟩; subst w4))
  go_returns
  exact ⟨rfl, HB1.out⟩
def DurS (PS : (Nat → Prop) → Nat → St → World → Prop) (va : Nat) (nm : ByteArray) (B : Bd) (Z : Obj) (k : Nat) (w W : World) : Prop := ∃ x, DurV nm B x ∧ Vlf x k ∧ OneS PS va x w [w.heap.size] W ∧ W.heap[w.heap.size]? = some Z
theorem OneS.sub {vb : Nat} {x : Vl} {w W : World} {rs rs' : List Nat} (h : OneS PS vb x w rs W) (hs : ∀ r ∈ rs', r ∈ rs) : OneS PS vb x w rs' W := by
  obtain ⟨S, h1, h2, h3, h4⟩ := h
  exact ⟨S, h1, h2, fun r hr => h3 r (hs r hr), h4⟩
theorem at10f {W : World} {r : Nat} {c0 c1 c2 c3 c4 c5 c6 c7 c8 c9 : Value} {t : TypeId} (h : W.heap[r]? = some (.cells #[c0, c1, c2, c3, c4, c5, c6, c7, c8, c9] t (0, 0))) : W.cell? ⟨r, 0, none⟩ = some c0 ∧ W.cell? ⟨r, 1, none⟩ = some c1 ∧ W.cell? ⟨r, 2, none⟩ = some c2 ∧ W.cell? ⟨r, 3, none⟩ = some c3 ∧ W.cell? ⟨r, 4, none⟩ = some c4 ∧ W.cell? ⟨r, 5, none⟩ = some c5 ∧ W.cell? ⟨r, 6, none⟩ = some c6 ∧ W.cell? ⟨r, 7, none⟩ = some c7 ∧ W.cell? ⟨r, 8, none⟩ = some c8 ∧ W.cell? ⟨r, 9, none⟩ = some c9 := by
  refine ⟨?_, ?_, ?_, ?_, ?_, ?_, ?_, ?_, ?_, ?_⟩ <;> (rw [Lib.cell_of_heap h]; rfl)
set_option maxHeartbeats 8000000 in
theorem dur_skip (C : PC PS) (c : Nat) (hc : c ≤ 1073741824) (K n : Int) (nm b : ByteArray) (hnm : nm.size ≤ 2097152) (m0 m1 m2 m3 : Int) (po : Option Addr) (pl pc : Nat) (co : Option Addr) (cl cc : Nat) (da : ByteArray) (hs : okName nm = false ∨ c < da.size) (v3 : Value) (d : Int) (cv : Value) (w : World) :
    Calls Tryz.prog 5 #[.int .i64 (c : Int), .agg #[.int .i64 K, .int .i64 n, .string nm, .string b, .int .i64 m0, .int .i64 m1, .int .i64 m2, .int .i64 m3, .slice po pl pc, .slice co cl cc], .string da, v3, .int .i64 d, cv] w fun e w' => e = .returned (.bool true) ∧ Below w.heap.size w w' := by
  have HN : Hid (∀ W, Calls Tryz.prog 10 #[.int .i64 (c : Int)] W fun e w' => ∃ vb, e = .returned (.pointer (some ⟨vb, 0, none⟩)) ∧ Below W.heap.size W w') := fun W => (open_c C c W hc).mono (by
    rintro e w' ⟨vb, rfl, -, h2⟩
    exact ⟨vb, rfl, h2⟩)
  have HG : Hid (∀ W, Calls Tryz.prog 9 #[.int .i64 (c : Int)] W fun e w' => e = .returned (.bool true) ∧ w' = W) := fun W => good_yes c hc W
  obtain ⟨ok, hok⟩ : ∃ k, k = okName nm := ⟨_, rfl⟩
  have HFN : Hid (∀ W, Calls Tryz.prog 12 #[.string nm] W fun e w' => e = .returned (.bool ok) ∧ w' = W) := fun W => by rw [hok]; exact lawName_c nm W (by omega)
  obtain ⟨W0, hW0⟩ : ∃ W0, W0 = w.alloc (.cells #[.int .i64 K, .int .i64 n, .string nm, .string b, .int .i64 m0, .int .i64 m1, .int .i64 m2, .int .i64 m3, .slice po pl pc, .slice co cl cc] 39) := ⟨_, rfl⟩
  have HW0 : Hid (W0 = w.alloc (.cells #[.int .i64 K, .int .i64 n, .string nm, .string b, .int .i64 m0, .int .i64 m1, .int .i64 m2, .int .i64 m3, .slice po pl pc, .slice co cl cc] 39) ∧ Below w.heap.size w W0 ∧ W0.heap.size = w.heap.size + 1 ∧ W0.heap[w.heap.size]? = some (.cells #[.int .i64 K, .int .i64 n, .string nm, .string b, .int .i64 m0, .int .i64 m1, .int .i64 m2, .int .i64 m3, .slice po pl pc, .slice co cl cc] 39 (0, 0))) := ⟨hW0, by rw [hW0]; exact (Below.refl _ w).alloc (Nat.le_refl _) _, by rw [hW0]; simp, by rw [hW0]; exact heap_alloc_new _ _⟩
  have hx0 : W0.cell? ⟨w.heap.size, 2, none⟩ = some (.string nm) := (at10f HW0.out.2.2.2).2.2.1
  rw [← hok] at hs
  clear hc hW0 hnm hok
  go_enter Tryz.func5, Tryz.ntmps5
  go_upto_region 1 with fail
  rw [← HW0.out.1]
  go_wp2_with fail
  go_at_call 10
  refine (HN.out _).mono ?_
  rintro e w1 ⟨vb, rfl, hb1⟩
  have hx1 := cell_below hb1 hx0
  have HB1 : Hid (Below w.heap.size w w1) := HW0.out.2.1.trans (hb1.mono HW0.out.2.1.size)
  clear hb1 hx0
  cases ok
  · clear hs
    go_wp2_with (first
      | (go_at_call 12; refine (HFN.out _).mono ?_; rintro e w3 ⟨rfl, hw3⟩; subst w3)
      | (go_at_call 9; refine (HG.out _).mono ?_; rintro e w4 ⟨rfl, hw4⟩; subst w4))
    go_returns
    exact ⟨rfl, HB1.out⟩
  · have b1 : decide ((da.size : Int) > (c : Int)) = true := by
      rcases hs with h | h
      · cases h
      · simp; omega
    have b2 : decide (c < da.size) = true := by simpa using b1
    have i2 : c < da.size := by simpa using b1
    clear hs
    go_wp2_with (first
      | (go_at_call 12; refine (HFN.out _).mono ?_; rintro e w3 ⟨rfl, hw3⟩; subst w3)
      | (go_at_call 9; refine (HG.out _).mono ?_; rintro e w4 ⟨rfl, hw4⟩; subst w4))
    go_returns
    exact ⟨rfl, HB1.out⟩
set_option maxRecDepth 20000 in
set_option maxHeartbeats 16000000 in
theorem dur_w (C : PC PS) (c : Nat) (hc : c ≤ 1073741824) (K n : Int) (nm b : ByteArray) (hnm : nm.size ≤ 2097152) (m0 m1 m2 m3 : Int) (po : Option Addr) (pl pc : Nat) (co : Option Addr) (cl cc : Nat) (da : ByteArray) (hda : da.size ≤ 1048576) (hok : okName nm = true) (hle : da.size ≤ c) (w : World) (v3 : Value) (ops : List Opv) (ro : RowV w v3 ops) (oks : ∀ (i : Nat) (o : Opv), ops[i]? = some o → OpvOk w.heap.size o w) (ll : ops.length ≤ 1048576) (d : Int) (cv : Value) (cuts : List Int) (ri : RowI w cv cuts) (cb : cuts ≠ [] → ∀ k, cv.ownBlock = some k → k < w.heap.size) (cl2 : cuts.length ≤ 1048576) :
    Calls Tryz.prog 5 #[.int .i64 (c : Int), .agg #[.int .i64 K, .int .i64 n, .string nm, .string b, .int .i64 m0, .int .i64 m1, .int .i64 m2, .int .i64 m3, .slice po pl pc, .slice co cl cc], .string da, v3, .int .i64 d, cv] w fun e w' => e = .returned (.bool true) ∧ Below w.heap.size w w' := by
  obtain ⟨W0, hW0⟩ : ∃ W0, W0 = w.alloc (.cells #[.int .i64 K, .int .i64 n, .string nm, .string b, .int .i64 m0, .int .i64 m1, .int .i64 m2, .int .i64 m3, .slice po pl pc, .slice co cl cc] 39) := ⟨_, rfl⟩
  have HW0 : Hid (W0 = w.alloc (.cells #[.int .i64 K, .int .i64 n, .string nm, .string b, .int .i64 m0, .int .i64 m1, .int .i64 m2, .int .i64 m3, .slice po pl pc, .slice co cl cc] 39) ∧ Below w.heap.size w W0 ∧ W0.heap.size = w.heap.size + 1 ∧ W0.heap[w.heap.size]? = some (.cells #[.int .i64 K, .int .i64 n, .string nm, .string b, .int .i64 m0, .int .i64 m1, .int .i64 m2, .int .i64 m3, .slice po pl pc, .slice co cl cc] 39 (0, 0))) := ⟨hW0, by rw [hW0]; exact (Below.refl _ w).alloc (Nat.le_refl _) _, by rw [hW0]; simp, by rw [hW0]; exact heap_alloc_new _ _⟩
  have HN : Hid (Calls Tryz.prog 10 #[.int .i64 (c : Int)] W0 fun e w' => ∃ vb, e = .returned (.pointer (some ⟨vb, 0, none⟩)) ∧ OneS PS vb (Vl.new c) w [w.heap.size] w' ∧ w'.heap[w.heap.size]? = some (.cells #[.int .i64 K, .int .i64 n, .string nm, .string b, .int .i64 m0, .int .i64 m1, .int .i64 m2, .int .i64 m3, .slice po pl pc, .slice co cl cc] 39 (0, 0))) := by
    refine (open_c C c W0 hc).mono ?_
    rintro e w' ⟨vb, rfl, h1, h2⟩
    have hs0 := HW0.out.2.2.1
    have hs2 := h2.size
    refine ⟨vb, rfl, ⟨_, h1, fun k hk => by have := hk.1; omega, fun r hr => ?_, HW0.out.2.1.trans (h2.mono (by omega))⟩, (h2.block _ (by omega)).trans HW0.out.2.2.2⟩
    simp only [List.mem_singleton] at hr
    subst hr
    exact ⟨fun h => by have := h.1; omega, by omega⟩
  have HFN : Hid (∀ W, Calls Tryz.prog 12 #[.string nm] W fun e w' => e = .returned (.bool true) ∧ w' = W) := fun W => by rw [← hok]; exact lawName_c nm W (by omega)
  have HVF : Hid (Vlf (Vl.new c) 0) := Vlf.new c hc
  have HP : Hid (okName nm = true ∧ da.size ≤ c ∧ nm.size ≤ 2097152 ∧ da.size ≤ 1048576 ∧ ops.length ≤ 1048576) := ⟨hok, hle, hnm, hda, ll⟩
  have HRV : Hid (RowV w v3 ops ∧ ∀ (i : Nat) (o : Opv), ops[i]? = some o → OpvOk w.heap.size o w) := ⟨ro, oks⟩
  have HRC : Hid (RowI w cv cuts ∧ (cuts ≠ [] → ∀ k, cv.ownBlock = some k → k < w.heap.size) ∧ cuts.length ≤ 1048576) := ⟨ri, cb, cl2⟩
  obtain ⟨ao, L, cp, hv3⟩ : ∃ ao L cp, v3 = .slice ao L cp ∧ L = ops.length := by
    rcases ro with ⟨h0, ao, c, h⟩ | ⟨b, off, cap, h, _⟩
    · exact ⟨_, _, _, h, by rw [h0]; rfl⟩
    · exact ⟨_, _, _, h, rfl⟩
  obtain ⟨rfl, hL⟩ := hv3
  have HL : Hid (L = ops.length) := hL
  have hL2 : L ≤ 1048576 := by omega
  have bz : decide ((da.size : Int) > (c : Int)) = false := by simp; omega
  have bz2 : decide (c < da.size) = false := by simp; omega
  have iz : ¬ c < da.size := by omega
  clear hc hok hle hnm hda ll ro oks ri cb cl2 hW0 hL
  go_enter Tryz.func5, Tryz.ntmps5
  go_upto_region 1 with fail
  rw [← HW0.out.1]
  go_wp2_with fail
  go_at_call 10
  refine HN.out.mono ?_
  rintro e w1 ⟨va, rfl, ho1, hm1⟩
  have HO1 : Hid (OneS PS va (Vl.new c) w [w.heap.size] w1 ∧ w1.heap[w.heap.size]? = some (.cells #[.int .i64 K, .int .i64 n, .string nm, .string b, .int .i64 m0, .int .i64 m1, .int .i64 m2, .int .i64 m3, .slice po pl pc, .slice co cl cc] 39 (0, 0))) := ⟨ho1, hm1⟩
  obtain ⟨x0, x1, x2, x3, x4, x5, x6, x7, x8, x9⟩ := at10f hm1
  clear ho1 hm1 HN
  have HC1 : Hid (Calls Tryz.prog 11 #[.pointer (some ⟨va, 0, none⟩), .agg #[.int .i64 4, .int .i64 0, .string nm, .string ⟨#[]⟩, .int .i64 m0, .int .i64 m1, .int .i64 m2, .int .i64 m3, .slice none 0 0, .slice none 0 0]] w1 fun e w' => ∃ ao c', e = .returned (.agg #[.string ⟨#[]⟩, .int .i64 1, .int .i64 0, .int .i64 0, .int .i64 0, .int .i64 0, .string ⟨#[]⟩, .int .i64 0, .slice ao 0 c', .bool false, .bool false, .string ⟨#[]⟩, .string ⟨#[]⟩, .int .i64 0]) ∧ OneS PS va (oneVl c 1 nm ⟨#[]⟩ m0 m1 m2 m3) w [w.heap.size] w' ∧ Vlf (oneVl c 1 nm ⟨#[]⟩ m0 m1 m2 m3) 1 ∧ w'.heap[w.heap.size]? = some (.cells #[.int .i64 K, .int .i64 n, .string nm, .string b, .int .i64 m0, .int .i64 m1, .int .i64 m2, .int .i64 m3, .slice po pl pc, .slice co cl cc] 39 (0, 0))) := by
    refine (HO1.out.1.step C HVF.out (by omega) (opm nm m0 m1 m2 m3) ⟨⟨_, _, _, rfl⟩, ⟨_, _, _, rfl⟩, by show nm.size ≤ _; have := HP.out.2.2.1; omega⟩ (one_create c nm HP.out.1 m0 m1 m2 m3)).mono ?_
    rintro e w' ⟨ao, c', rfl, g1, g2, g3, -⟩
    exact ⟨ao, c', rfl, g1, g2, (g3 _ (by simp)).trans HO1.out.2⟩
  go_wp2_with (first
      | (go_at_call 12; refine (HFN.out _).mono ?_; rintro e w3 ⟨rfl, hw3⟩; subst w3))
  have HWR : Hid ((oneVl c 1 nm ⟨#[]⟩ m0 m1 m2 m3).call (opk 8 da).c = ({ an0 with n := da.size }, oneVl c 2 nm da m0 m1 m2 m3)) := by
    have h := one_write c 1 nm ⟨#[]⟩ da m0 m1 m2 m3 (by have := HP.out.2.1; show 0 + da.size ≤ c; omega)
    rw [show (⟨#[]⟩ : ByteArray) ++ da = da from ByteArray.empty_append] at h
    exact h
  go_at_call 11
  refine Calls.mono HC1.out ?_
  rintro r w2 ⟨a2, c2, rfl, ho2, hv2, hf2⟩
  clear HC1 x0 x1 x2 x3 x4 x5 x6 x7 x8 x9
  obtain ⟨W2, hW2⟩ : ∃ W2, W2 = w2.alloc (.cells #[.string ⟨#[]⟩, .int .i64 1, .int .i64 0, .int .i64 0, .int .i64 0, .int .i64 0, .string ⟨#[]⟩, .int .i64 0, .slice a2 0 c2, .bool false, .bool false, .string ⟨#[]⟩, .string ⟨#[]⟩, .int .i64 0] 34) := ⟨_, rfl⟩
  have HW2 : Hid (W2 = w2.alloc (.cells #[.string ⟨#[]⟩, .int .i64 1, .int .i64 0, .int .i64 0, .int .i64 0, .int .i64 0, .string ⟨#[]⟩, .int .i64 0, .slice a2 0 c2, .bool false, .bool false, .string ⟨#[]⟩, .string ⟨#[]⟩, .int .i64 0] 34)) := hW2
  have HF2 : Hid (OneS PS va (oneVl c 1 nm ⟨#[]⟩ m0 m1 m2 m3) w [w2.heap.size, w.heap.size] W2 ∧ Vlf (oneVl c 1 nm ⟨#[]⟩ m0 m1 m2 m3) 1 ∧ W2.heap[w.heap.size]? = some (.cells #[.int .i64 K, .int .i64 n, .string nm, .string b, .int .i64 m0, .int .i64 m1, .int .i64 m2, .int .i64 m3, .slice po pl pc, .slice co cl cc] 39 (0, 0)) ∧ W2.heap[w2.heap.size]? = some (.cells #[.string ⟨#[]⟩, .int .i64 1, .int .i64 0, .int .i64 0, .int .i64 0, .int .i64 0, .string ⟨#[]⟩, .int .i64 0, .slice a2 0 c2, .bool false, .bool false, .string ⟨#[]⟩, .string ⟨#[]⟩, .int .i64 0] 34 (0, 0))) := by
    have hb : Below w2.heap.size w2 W2 := by rw [hW2]; exact (Below.refl _ w2).alloc (Nat.le_refl _) _
    have hbox := ho2.box C (.cells #[.string ⟨#[]⟩, .int .i64 1, .int .i64 0, .int .i64 0, .int .i64 0, .int .i64 0, .string ⟨#[]⟩, .int .i64 0, .slice a2 0 c2, .bool false, .bool false, .string ⟨#[]⟩, .string ⟨#[]⟩, .int .i64 0] 34)
    rw [← hW2] at hbox
    have q0 := hf2
    exact ⟨hbox, hv2, (hb.block _ (Array.getElem?_eq_some_iff.1 q0).1).trans q0, by rw [hW2]; exact new_at rfl⟩
  have HC2 : Hid (Calls Tryz.prog 11 #[.pointer (some ⟨va, 0, none⟩), .agg #[.int .i64 8, .int .i64 0, .string da, .string ⟨#[]⟩, .int .i64 0, .int .i64 0, .int .i64 0, .int .i64 0, .slice none 0 0, .slice none 0 0]] W2 fun e w' => ∃ ao c', e = .returned (.agg #[.string ⟨#[]⟩, .int .i64 (da.size : Int), .int .i64 0, .int .i64 0, .int .i64 0, .int .i64 0, .string ⟨#[]⟩, .int .i64 0, .slice ao 0 c', .bool false, .bool false, .string ⟨#[]⟩, .string ⟨#[]⟩, .int .i64 0]) ∧ OneS PS va (oneVl c 2 nm da m0 m1 m2 m3) w [w2.heap.size, w.heap.size] w' ∧ Vlf (oneVl c 2 nm da m0 m1 m2 m3) 2 ∧ w'.heap[w.heap.size]? = some (.cells #[.int .i64 K, .int .i64 n, .string nm, .string b, .int .i64 m0, .int .i64 m1, .int .i64 m2, .int .i64 m3, .slice po pl pc, .slice co cl cc] 39 (0, 0)) ∧ w'.heap[w2.heap.size]? = some (.cells #[.string ⟨#[]⟩, .int .i64 1, .int .i64 0, .int .i64 0, .int .i64 0, .int .i64 0, .string ⟨#[]⟩, .int .i64 0, .slice a2 0 c2, .bool false, .bool false, .string ⟨#[]⟩, .string ⟨#[]⟩, .int .i64 0] 34 (0, 0))) := by
    obtain ⟨h1, h2, q0, q1⟩ := HF2.out
    refine (h1.step C h2 (by omega) (opk 8 da) (opk_ok _ _ (by first | decide | (have := HP.out.2.2.2.1; omega))) HWR.out).mono ?_
    rintro e w' ⟨ao, c', rfl, g1, g2, g3, -⟩
    exact ⟨ao, c', rfl, g1, g2, (g3 _ (by simp)).trans q0, (g3 _ (by simp)).trans q1⟩
  clear ho2 hv2 hf2 hW2
  go_upto_region 7 with fail
  rw [← HW2.out]
  go_wp2_with fail
  go_at_call 11
  refine Calls.mono HC2.out ?_
  rintro r w3 ⟨a3, c3, rfl, ho3, hv3, hf3⟩
  clear HC2
  obtain ⟨W3, hW3⟩ : ∃ W3, W3 = w3.alloc (.cells #[.string ⟨#[]⟩, .int .i64 (da.size : Int), .int .i64 0, .int .i64 0, .int .i64 0, .int .i64 0, .string ⟨#[]⟩, .int .i64 0, .slice a3 0 c3, .bool false, .bool false, .string ⟨#[]⟩, .string ⟨#[]⟩, .int .i64 0] 34) := ⟨_, rfl⟩
  have HW3 : Hid (W3 = w3.alloc (.cells #[.string ⟨#[]⟩, .int .i64 (da.size : Int), .int .i64 0, .int .i64 0, .int .i64 0, .int .i64 0, .string ⟨#[]⟩, .int .i64 0, .slice a3 0 c3, .bool false, .bool false, .string ⟨#[]⟩, .string ⟨#[]⟩, .int .i64 0] 34)) := hW3
  have HF3 : Hid (OneS PS va (oneVl c 2 nm da m0 m1 m2 m3) w [w3.heap.size, w2.heap.size, w.heap.size] W3 ∧ Vlf (oneVl c 2 nm da m0 m1 m2 m3) 2 ∧ W3.heap[w.heap.size]? = some (.cells #[.int .i64 K, .int .i64 n, .string nm, .string b, .int .i64 m0, .int .i64 m1, .int .i64 m2, .int .i64 m3, .slice po pl pc, .slice co cl cc] 39 (0, 0)) ∧ W3.heap[w2.heap.size]? = some (.cells #[.string ⟨#[]⟩, .int .i64 1, .int .i64 0, .int .i64 0, .int .i64 0, .int .i64 0, .string ⟨#[]⟩, .int .i64 0, .slice a2 0 c2, .bool false, .bool false, .string ⟨#[]⟩, .string ⟨#[]⟩, .int .i64 0] 34 (0, 0)) ∧ W3.heap[w3.heap.size]? = some (.cells #[.string ⟨#[]⟩, .int .i64 (da.size : Int), .int .i64 0, .int .i64 0, .int .i64 0, .int .i64 0, .string ⟨#[]⟩, .int .i64 0, .slice a3 0 c3, .bool false, .bool false, .string ⟨#[]⟩, .string ⟨#[]⟩, .int .i64 0] 34 (0, 0))) := by
    have hb : Below w3.heap.size w3 W3 := by rw [hW3]; exact (Below.refl _ w3).alloc (Nat.le_refl _) _
    have hbox := ho3.box C (.cells #[.string ⟨#[]⟩, .int .i64 (da.size : Int), .int .i64 0, .int .i64 0, .int .i64 0, .int .i64 0, .string ⟨#[]⟩, .int .i64 0, .slice a3 0 c3, .bool false, .bool false, .string ⟨#[]⟩, .string ⟨#[]⟩, .int .i64 0] 34)
    rw [← hW3] at hbox
    obtain ⟨q0, q1⟩ := hf3
    exact ⟨hbox, hv3, (hb.block _ (Array.getElem?_eq_some_iff.1 q0).1).trans q0, (hb.block _ (Array.getElem?_eq_some_iff.1 q1).1).trans q1, by rw [hW3]; exact new_at rfl⟩
  have HC3 : Hid (Calls Tryz.prog 11 #[.pointer (some ⟨va, 0, none⟩), .agg #[.int .i64 9, .int .i64 0, .string ⟨#[]⟩, .string ⟨#[]⟩, .int .i64 0, .int .i64 0, .int .i64 0, .int .i64 0, .slice none 0 0, .slice none 0 0]] W3 fun e w' => ∃ ao c', e = .returned (.agg #[.string ⟨#[]⟩, .int .i64 0, .int .i64 0, .int .i64 0, .int .i64 0, .int .i64 0, .string ⟨#[]⟩, .int .i64 0, .slice ao 0 c', .bool false, .bool false, .string ⟨#[]⟩, .string ⟨#[]⟩, .int .i64 0]) ∧ OneS PS va (Vl.mk ⟨durSt c nm da m0 m1 m2 m3, [], 2 + 1, false, 0⟩ [⟨nm, 1, 0, false⟩]) w [w3.heap.size, w2.heap.size, w.heap.size] w' ∧ Vlf (Vl.mk ⟨durSt c nm da m0 m1 m2 m3, [], 2 + 1, false, 0⟩ [⟨nm, 1, 0, false⟩]) 3 ∧ w'.heap[w.heap.size]? = some (.cells #[.int .i64 K, .int .i64 n, .string nm, .string b, .int .i64 m0, .int .i64 m1, .int .i64 m2, .int .i64 m3, .slice po pl pc, .slice co cl cc] 39 (0, 0)) ∧ w'.heap[w2.heap.size]? = some (.cells #[.string ⟨#[]⟩, .int .i64 1, .int .i64 0, .int .i64 0, .int .i64 0, .int .i64 0, .string ⟨#[]⟩, .int .i64 0, .slice a2 0 c2, .bool false, .bool false, .string ⟨#[]⟩, .string ⟨#[]⟩, .int .i64 0] 34 (0, 0)) ∧ w'.heap[w3.heap.size]? = some (.cells #[.string ⟨#[]⟩, .int .i64 (da.size : Int), .int .i64 0, .int .i64 0, .int .i64 0, .int .i64 0, .string ⟨#[]⟩, .int .i64 0, .slice a3 0 c3, .bool false, .bool false, .string ⟨#[]⟩, .string ⟨#[]⟩, .int .i64 0] 34 (0, 0))) := by
    obtain ⟨h1, h2, q0, q1, q2⟩ := HF3.out
    refine (h1.step C h2 (by omega) (opk 9 ⟨#[]⟩) (opk_ok _ _ (by first | decide | (have := HP.out.2.2.2.1; omega))) (one_sync c 2 nm da m0 m1 m2 m3)).mono ?_
    rintro e w' ⟨ao, c', rfl, g1, g2, g3, -⟩
    exact ⟨ao, c', rfl, g1, g2, (g3 _ (by simp)).trans q0, (g3 _ (by simp)).trans q1, (g3 _ (by simp)).trans q2⟩
  clear ho3 hv3 hf3 hW3
  go_upto_region 8 with fail
  rw [← HW3.out]
  go_wp2_with fail
  go_at_call 11
  refine Calls.mono HC3.out ?_
  rintro r w4 ⟨a4, c4, rfl, ho4, hv4, hf4⟩
  clear HC3
  obtain ⟨W4, hW4⟩ : ∃ W4, W4 = w4.alloc (.cells #[.string ⟨#[]⟩, .int .i64 0, .int .i64 0, .int .i64 0, .int .i64 0, .int .i64 0, .string ⟨#[]⟩, .int .i64 0, .slice a4 0 c4, .bool false, .bool false, .string ⟨#[]⟩, .string ⟨#[]⟩, .int .i64 0] 34) := ⟨_, rfl⟩
  have HW4 : Hid (W4 = w4.alloc (.cells #[.string ⟨#[]⟩, .int .i64 0, .int .i64 0, .int .i64 0, .int .i64 0, .int .i64 0, .string ⟨#[]⟩, .int .i64 0, .slice a4 0 c4, .bool false, .bool false, .string ⟨#[]⟩, .string ⟨#[]⟩, .int .i64 0] 34)) := hW4
  have HF4 : Hid (OneS PS va (Vl.mk ⟨durSt c nm da m0 m1 m2 m3, [], 2 + 1, false, 0⟩ [⟨nm, 1, 0, false⟩]) w [w4.heap.size, w3.heap.size, w2.heap.size, w.heap.size] W4 ∧ Vlf (Vl.mk ⟨durSt c nm da m0 m1 m2 m3, [], 2 + 1, false, 0⟩ [⟨nm, 1, 0, false⟩]) 3 ∧ W4.heap[w.heap.size]? = some (.cells #[.int .i64 K, .int .i64 n, .string nm, .string b, .int .i64 m0, .int .i64 m1, .int .i64 m2, .int .i64 m3, .slice po pl pc, .slice co cl cc] 39 (0, 0)) ∧ W4.heap[w2.heap.size]? = some (.cells #[.string ⟨#[]⟩, .int .i64 1, .int .i64 0, .int .i64 0, .int .i64 0, .int .i64 0, .string ⟨#[]⟩, .int .i64 0, .slice a2 0 c2, .bool false, .bool false, .string ⟨#[]⟩, .string ⟨#[]⟩, .int .i64 0] 34 (0, 0)) ∧ W4.heap[w3.heap.size]? = some (.cells #[.string ⟨#[]⟩, .int .i64 (da.size : Int), .int .i64 0, .int .i64 0, .int .i64 0, .int .i64 0, .string ⟨#[]⟩, .int .i64 0, .slice a3 0 c3, .bool false, .bool false, .string ⟨#[]⟩, .string ⟨#[]⟩, .int .i64 0] 34 (0, 0)) ∧ W4.heap[w4.heap.size]? = some (.cells #[.string ⟨#[]⟩, .int .i64 0, .int .i64 0, .int .i64 0, .int .i64 0, .int .i64 0, .string ⟨#[]⟩, .int .i64 0, .slice a4 0 c4, .bool false, .bool false, .string ⟨#[]⟩, .string ⟨#[]⟩, .int .i64 0] 34 (0, 0))) := by
    have hb : Below w4.heap.size w4 W4 := by rw [hW4]; exact (Below.refl _ w4).alloc (Nat.le_refl _) _
    have hbox := ho4.box C (.cells #[.string ⟨#[]⟩, .int .i64 0, .int .i64 0, .int .i64 0, .int .i64 0, .int .i64 0, .string ⟨#[]⟩, .int .i64 0, .slice a4 0 c4, .bool false, .bool false, .string ⟨#[]⟩, .string ⟨#[]⟩, .int .i64 0] 34)
    rw [← hW4] at hbox
    obtain ⟨q0, q1, q2⟩ := hf4
    exact ⟨hbox, hv4, (hb.block _ (Array.getElem?_eq_some_iff.1 q0).1).trans q0, (hb.block _ (Array.getElem?_eq_some_iff.1 q1).1).trans q1, (hb.block _ (Array.getElem?_eq_some_iff.1 q2).1).trans q2, by rw [hW4]; exact new_at rfl⟩
  have HC4 : Hid (Calls Tryz.prog 11 #[.pointer (some ⟨va, 0, none⟩), .agg #[.int .i64 7, .int .i64 0, .string ⟨#[]⟩, .string ⟨#[]⟩, .int .i64 0, .int .i64 0, .int .i64 0, .int .i64 0, .slice none 0 0, .slice none 0 0]] W4 fun e w' => ∃ ao c', e = .returned (.agg #[.string ⟨#[]⟩, .int .i64 0, .int .i64 0, .int .i64 0, .int .i64 0, .int .i64 0, .string ⟨#[]⟩, .int .i64 0, .slice ao 0 c', .bool false, .bool false, .string ⟨#[]⟩, .string ⟨#[]⟩, .int .i64 0]) ∧ OneS PS va (Vl.mk ⟨(durSt c nm da m0 m1 m2 m3).syncDir, [], 2 + 1 + 1, false, 0⟩ [⟨nm, 1, 0, false⟩]) w [w4.heap.size, w3.heap.size, w2.heap.size, w.heap.size] w' ∧ Vlf (Vl.mk ⟨(durSt c nm da m0 m1 m2 m3).syncDir, [], 2 + 1 + 1, false, 0⟩ [⟨nm, 1, 0, false⟩]) 4 ∧ w'.heap[w.heap.size]? = some (.cells #[.int .i64 K, .int .i64 n, .string nm, .string b, .int .i64 m0, .int .i64 m1, .int .i64 m2, .int .i64 m3, .slice po pl pc, .slice co cl cc] 39 (0, 0)) ∧ w'.heap[w2.heap.size]? = some (.cells #[.string ⟨#[]⟩, .int .i64 1, .int .i64 0, .int .i64 0, .int .i64 0, .int .i64 0, .string ⟨#[]⟩, .int .i64 0, .slice a2 0 c2, .bool false, .bool false, .string ⟨#[]⟩, .string ⟨#[]⟩, .int .i64 0] 34 (0, 0)) ∧ w'.heap[w3.heap.size]? = some (.cells #[.string ⟨#[]⟩, .int .i64 (da.size : Int), .int .i64 0, .int .i64 0, .int .i64 0, .int .i64 0, .string ⟨#[]⟩, .int .i64 0, .slice a3 0 c3, .bool false, .bool false, .string ⟨#[]⟩, .string ⟨#[]⟩, .int .i64 0] 34 (0, 0)) ∧ w'.heap[w4.heap.size]? = some (.cells #[.string ⟨#[]⟩, .int .i64 0, .int .i64 0, .int .i64 0, .int .i64 0, .int .i64 0, .string ⟨#[]⟩, .int .i64 0, .slice a4 0 c4, .bool false, .bool false, .string ⟨#[]⟩, .string ⟨#[]⟩, .int .i64 0] 34 (0, 0))) := by
    obtain ⟨h1, h2, q0, q1, q2, q3⟩ := HF4.out
    refine (h1.step C h2 (by omega) (opk 7 ⟨#[]⟩) (opk_ok _ _ (by first | decide | (have := HP.out.2.2.2.1; omega))) (one_syncDir c (2 + 1) nm da m0 m1 m2 m3)).mono ?_
    rintro e w' ⟨ao, c', rfl, g1, g2, g3, -⟩
    exact ⟨ao, c', rfl, g1, g2, (g3 _ (by simp)).trans q0, (g3 _ (by simp)).trans q1, (g3 _ (by simp)).trans q2, (g3 _ (by simp)).trans q3⟩
  clear ho4 hv4 hf4 hW4
  go_upto_region 9 with fail
  rw [← HW4.out]
  go_wp2_with fail
  go_at_call 11
  refine Calls.mono HC4.out ?_
  rintro r w5 ⟨a5, c5, rfl, ho5, hv5, hf5⟩
  clear HC4
  obtain ⟨W5, hW5⟩ : ∃ W5, W5 = w5.alloc (.cells #[.string ⟨#[]⟩, .int .i64 0, .int .i64 0, .int .i64 0, .int .i64 0, .int .i64 0, .string ⟨#[]⟩, .int .i64 0, .slice a5 0 c5, .bool false, .bool false, .string ⟨#[]⟩, .string ⟨#[]⟩, .int .i64 0] 34) := ⟨_, rfl⟩
  have HW5 : Hid (W5 = w5.alloc (.cells #[.string ⟨#[]⟩, .int .i64 0, .int .i64 0, .int .i64 0, .int .i64 0, .int .i64 0, .string ⟨#[]⟩, .int .i64 0, .slice a5 0 c5, .bool false, .bool false, .string ⟨#[]⟩, .string ⟨#[]⟩, .int .i64 0] 34)) := hW5
  have HF5 : Hid (OneS PS va (Vl.mk ⟨(durSt c nm da m0 m1 m2 m3).syncDir, [], 2 + 1 + 1, false, 0⟩ [⟨nm, 1, 0, false⟩]) w [w5.heap.size, w4.heap.size, w3.heap.size, w2.heap.size, w.heap.size] W5 ∧ Vlf (Vl.mk ⟨(durSt c nm da m0 m1 m2 m3).syncDir, [], 2 + 1 + 1, false, 0⟩ [⟨nm, 1, 0, false⟩]) 4 ∧ W5.heap[w.heap.size]? = some (.cells #[.int .i64 K, .int .i64 n, .string nm, .string b, .int .i64 m0, .int .i64 m1, .int .i64 m2, .int .i64 m3, .slice po pl pc, .slice co cl cc] 39 (0, 0)) ∧ W5.heap[w2.heap.size]? = some (.cells #[.string ⟨#[]⟩, .int .i64 1, .int .i64 0, .int .i64 0, .int .i64 0, .int .i64 0, .string ⟨#[]⟩, .int .i64 0, .slice a2 0 c2, .bool false, .bool false, .string ⟨#[]⟩, .string ⟨#[]⟩, .int .i64 0] 34 (0, 0)) ∧ W5.heap[w3.heap.size]? = some (.cells #[.string ⟨#[]⟩, .int .i64 (da.size : Int), .int .i64 0, .int .i64 0, .int .i64 0, .int .i64 0, .string ⟨#[]⟩, .int .i64 0, .slice a3 0 c3, .bool false, .bool false, .string ⟨#[]⟩, .string ⟨#[]⟩, .int .i64 0] 34 (0, 0)) ∧ W5.heap[w4.heap.size]? = some (.cells #[.string ⟨#[]⟩, .int .i64 0, .int .i64 0, .int .i64 0, .int .i64 0, .int .i64 0, .string ⟨#[]⟩, .int .i64 0, .slice a4 0 c4, .bool false, .bool false, .string ⟨#[]⟩, .string ⟨#[]⟩, .int .i64 0] 34 (0, 0)) ∧ W5.heap[w5.heap.size]? = some (.cells #[.string ⟨#[]⟩, .int .i64 0, .int .i64 0, .int .i64 0, .int .i64 0, .int .i64 0, .string ⟨#[]⟩, .int .i64 0, .slice a5 0 c5, .bool false, .bool false, .string ⟨#[]⟩, .string ⟨#[]⟩, .int .i64 0] 34 (0, 0))) := by
    have hb : Below w5.heap.size w5 W5 := by rw [hW5]; exact (Below.refl _ w5).alloc (Nat.le_refl _) _
    have hbox := ho5.box C (.cells #[.string ⟨#[]⟩, .int .i64 0, .int .i64 0, .int .i64 0, .int .i64 0, .int .i64 0, .string ⟨#[]⟩, .int .i64 0, .slice a5 0 c5, .bool false, .bool false, .string ⟨#[]⟩, .string ⟨#[]⟩, .int .i64 0] 34)
    rw [← hW5] at hbox
    obtain ⟨q0, q1, q2, q3⟩ := hf5
    exact ⟨hbox, hv5, (hb.block _ (Array.getElem?_eq_some_iff.1 q0).1).trans q0, (hb.block _ (Array.getElem?_eq_some_iff.1 q1).1).trans q1, (hb.block _ (Array.getElem?_eq_some_iff.1 q2).1).trans q2, (hb.block _ (Array.getElem?_eq_some_iff.1 q3).1).trans q3, by rw [hW5]; exact new_at rfl⟩
  obtain ⟨k1, k2, q0, q1, q2, q3, q4⟩ := HF5.out
  have z1 : W5.cell? ⟨w2.heap.size, 9, none⟩ = some (.bool false) := by rw [Lib.cell_of_heap q1]; rfl
  have z2 : W5.cell? ⟨w3.heap.size, 9, none⟩ = some (.bool false) := by rw [Lib.cell_of_heap q2]; rfl
  have z3 : W5.cell? ⟨w4.heap.size, 9, none⟩ = some (.bool false) := by rw [Lib.cell_of_heap q3]; rfl
  have z4 : W5.cell? ⟨w5.heap.size, 9, none⟩ = some (.bool false) := by rw [Lib.cell_of_heap q4]; rfl
  obtain ⟨aoh, ch, hlh⟩ : ∃ aoh ch, W5.cell? ⟨va, 1, none⟩ = some (.slice aoh 1 ch) := k1.len
  obtain ⟨-, hfr, hdr, hbx⟩ := k1.drop C
  have HD : Hid (DurS PS va nm (Bd.mk m0 m1 m2 m3 da da.size) (.cells #[.int .i64 K, .int .i64 n, .string nm, .string b, .int .i64 m0, .int .i64 m1, .int .i64 m2, .int .i64 m3, .slice po pl pc, .slice co cl cc] 39 (0, 0)) 4 w (W5.setCell ⟨va, 1, none⟩ (.slice none 0 0))) := ⟨_, dur_start c (2 + 1 + 1) nm da m0 m1 m2 m3, ⟨k2.vf, Nat.zero_le _⟩, hdr.sub (by simp), (hbx _ (by simp)).trans q0⟩
  clear ho5 hv5 hf5 hW5 k1 k2 q0 q1 q2 q3 q4 hdr hbx
  go_upto_region 10 with fail
  rw [← HW5.out]
  go_wp2_with fail
  clear z1 z2 z3 z4 hlh hfr HWR HO1 HVF
  go_loopw [20] (fun i wr => ∃ k : Nat, i = .int .i64 k ∧ k ≤ L ∧ DurS PS va nm (Bd.mk m0 m1 m2 m3 da da.size) (.cells #[.int .i64 K, .int .i64 n, .string nm, .string b, .int .i64 m0, .int .i64 m1, .int .i64 m2, .int .i64 m3, .slice po pl pc, .slice co cl cc] 39 (0, 0)) (4 + k) w wr) (fun i _ => L - (intOf i).toNat)
  case atStart => exact ⟨0, rfl, Nat.zero_le _, HD.out⟩
  case round =>
    obtain ⟨k, rfl, hkn, hsr⟩ := hrel
    have HSR : Hid (DurS PS va nm (Bd.mk m0 m1 m2 m3 da da.size) (.cells #[.int .i64 K, .int .i64 n, .string nm, .string b, .int .i64 m0, .int .i64 m1, .int .i64 m2, .int .i64 m3, .slice po pl pc, .slice co cl cc] 39 (0, 0)) (4 + k) w wr) := hsr
    by_cases hk : k < L
    · have hkl : k < ops.length := by rw [← HL.out]; exact hk
      obtain ⟨o, ho⟩ : ∃ o, ops[k]? = some o := ⟨_, List.getElem?_eq_getElem hkl⟩
      obtain ⟨b', off, rfl, hbl, hat⟩ : ∃ b' off, ao = some ⟨b', off, none⟩ ∧ b' < w.heap.size ∧ OpvAt w b' (off + k * 10) o := by
        rcases HRV.out.1 with ⟨h0, _⟩ | ⟨b', off, cap, hv, hb, hc⟩
        · rw [h0] at hkl; simp at hkl
        · cases hv; exact ⟨b', off, rfl, hb, hc k o ho⟩
      have hok := HRV.out.2 k o ho
      obtain ⟨⟨po2, pl2, pc2, hpv⟩, ⟨co2, cl2, cc2, hcv⟩, hsmall⟩ := hok.okc
      obtain ⟨K2, n2, a2, b2, e0, e1, e2, e3, pv2, cv2, plan, cuts2⟩ := o
      simp only at hpv hcv hsmall
      subst hpv; subst hcv
      obtain ⟨x, hd, hvf, hone, hfb⟩ := hsr
      have hat0 := hat.below hone.blw hbl
      obtain ⟨d0, d1, d2, d3, d4, d5, d6, d7, d8, d9⟩ := hat0
      simp only at d0 d1 d2 d3 d4 d5 d6 d7 d8 d9
      obtain ⟨Wo, hWo⟩ : ∃ Wo, Wo = wr.alloc (.cells #[.int .i64 K2, .int .i64 n2, .string a2, .string b2, .int .i64 e0, .int .i64 e1, .int .i64 e2, .int .i64 e3, .slice po2 pl2 pc2, .slice co2 cl2 cc2] 39) := ⟨_, rfl⟩
      have HWo : Hid (Wo = wr.alloc (.cells #[.int .i64 K2, .int .i64 n2, .string a2, .string b2, .int .i64 e0, .int .i64 e1, .int .i64 e2, .int .i64 e3, .slice po2 pl2 pc2, .slice co2 cl2 cc2] 39)) := hWo
      have HOo : Hid (OneS PS va x w [wr.heap.size, w.heap.size] Wo ∧ Wo.heap[wr.heap.size]? = some (.cells #[.int .i64 K2, .int .i64 n2, .string a2, .string b2, .int .i64 e0, .int .i64 e1, .int .i64 e2, .int .i64 e3, .slice po2 pl2 pc2, .slice co2 cl2 cc2] 39 (0, 0)) ∧ Wo.heap[w.heap.size]? = some (.cells #[.int .i64 K, .int .i64 n, .string nm, .string b, .int .i64 m0, .int .i64 m1, .int .i64 m2, .int .i64 m3, .slice po pl pc, .slice co cl cc] 39 (0, 0)) ∧ DurV nm (Bd.mk m0 m1 m2 m3 da da.size) x ∧ Vlf x (4 + k)) := by
        have hb : Below wr.heap.size wr Wo := by rw [hWo]; exact (Below.refl _ wr).alloc (Nat.le_refl _) _
        have hbox := hone.box C (.cells #[.int .i64 K2, .int .i64 n2, .string a2, .string b2, .int .i64 e0, .int .i64 e1, .int .i64 e2, .int .i64 e3, .slice po2 pl2 pc2, .slice co2 cl2 cc2] 39)
        rw [← hWo] at hbox
        exact ⟨hbox, by rw [hWo]; exact new_at rfl, (hb.block _ (Array.getElem?_eq_some_iff.1 hfb).1).trans hfb, hd, hvf⟩
      obtain ⟨o0, o1, o2, o3, o4, o5, o6, o7, o8, o9⟩ := at10f HOo.out.2.1
      obtain ⟨-, -, f2, -⟩ := at10f HOo.out.2.2.1
      have HTC : Hid (Calls Tryz.prog 18 #[.agg #[.int .i64 K2, .int .i64 n2, .string a2, .string b2, .int .i64 e0, .int .i64 e1, .int .i64 e2, .int .i64 e3, .slice po2 pl2 pc2, .slice co2 cl2 cc2], .string nm] Wo fun e w' => e = .returned (.bool (touch ⟨K2, n2, a2, b2, e0, e1, e2, e3⟩ nm)) ∧ Below Wo.heap.size Wo w') := touches_c K2 n2 a2 b2 e0 e1 e2 e3 po2 pl2 pc2 co2 cl2 cc2 nm Wo
      have HOK : Hid (OpvOk w.heap.size (Opv.mk K2 n2 a2 b2 e0 e1 e2 e3 (.slice po2 pl2 pc2) (.slice co2 cl2 cc2) plan cuts2) w) := hok
      have b1 : decide ((k : Int) < (L : Int)) = true := by simp; omega
      have i1 : (k : Int) < (L : Int) := by omega
      have i2 : (0 : Int) ≤ (k : Int) := by omega
      clear hat ho hsmall hd hvf hone hfb hkl hWo hok
      go_upto_region 17 with fail
      rw [← HWo.out]
      go_wp2_with fail
      go_at_call 18
      refine HTC.out.mono ?_
      rintro e wt ⟨rfl, hbt⟩
      have HOt : Hid (OneS PS va x w [wr.heap.size, w.heap.size] wt ∧ wt.heap[wr.heap.size]? = some (.cells #[.int .i64 K2, .int .i64 n2, .string a2, .string b2, .int .i64 e0, .int .i64 e1, .int .i64 e2, .int .i64 e3, .slice po2 pl2 pc2, .slice co2 cl2 cc2] 39 (0, 0)) ∧ wt.heap[w.heap.size]? = some (.cells #[.int .i64 K, .int .i64 n, .string nm, .string b, .int .i64 m0, .int .i64 m1, .int .i64 m2, .int .i64 m3, .slice po pl pc, .slice co cl cc] 39 (0, 0)) ∧ DurV nm (Bd.mk m0 m1 m2 m3 da da.size) x ∧ Vlf x (4 + k)) := by
        obtain ⟨h1, h2, h3, h4, h5⟩ := HOo.out
        exact ⟨h1.below C hbt, (hbt.block _ (Array.getElem?_eq_some_iff.1 h2).1).trans h2, (hbt.block _ (Array.getElem?_eq_some_iff.1 h3).1).trans h3, h4, h5⟩
      clear o0 o1 o2 o3 o4 o5 o6 o7 o8 o9 f2 hbt HTC HWo HSR
      obtain ⟨o0, o1, o2, o3, o4, o5, o6, o7, o8, o9⟩ := at10f HOt.out.2.1
      by_cases h14 : K2 = 14
      · subst h14
        obtain ⟨q, hq, fA⟩ := HOt.out.1.arm C
        have HAR : Hid (∀ W', Below wt.heap.size wt W' → Calls Tryz.prog 16 #[.pointer (some ⟨q, 0, none⟩), .slice po2 pl2 pc2] W' fun e w' => e = .returned (.tuple #[]) ∧ OneS PS va (x.arm plan) w [wr.heap.size, w.heap.size] w' ∧ w'.heap[w.heap.size]? = some (.cells #[.int .i64 K, .int .i64 n, .string nm, .string b, .int .i64 m0, .int .i64 m1, .int .i64 m2, .int .i64 m3, .slice po pl pc, .slice co cl cc] 39 (0, 0)) ∧ w'.cell? ⟨va, 0, none⟩ = some (.pointer (some ⟨q, 0, none⟩)) ∧ w'.cell? ⟨wr.heap.size, 8, none⟩ = some (.slice po2 pl2 pc2)) := fun W' hb => by
          have hbw := HOt.out.1.blw
          refine (fA W' plan _ hb (HOK.out.prow.below (hbw.trans (hb.mono hbw.size)) HOK.out.plow) HOK.out.plow (by have := HOK.out.pfew; simp only at this; omega)).mono ?_
          rintro e w' ⟨rfl, g1, g2, g3⟩
          exact ⟨rfl, g1, (g2 _ (by simp)).trans HOt.out.2.2.1, g3, by rw [Lib.cell_of_heap ((g2 _ (by simp)).trans HOt.out.2.1)]; rfl⟩
        have hbd : Below wt.heap.size wt wt.drew := (Below.refl _ wt).drew
        clear fA
        go_upto_region 19 with fail
        go_region_held3 (fun w' => w'.cell? ⟨va, 0, none⟩ = some (.pointer (some ⟨q, 0, none⟩)) ∧ w'.cell? ⟨wr.heap.size, 8, none⟩ = some (.slice po2 pl2 pc2)) (first | assumption | exact ⟨hq, o8⟩ | exact ⟨hz3, hz4⟩) (first
          | (go_at_call 16; refine (HAR.out _ hbd).mono ?_; rintro e w' ⟨rfl, hz1, hz2, hz3, hz4⟩))
        go_wp2
        go_roundw
        case rel => exact ⟨k + 1, by go_num, by omega, _, HOt.out.2.2.2.1.arm plan, (HOt.out.2.2.2.2.arm plan).mono (by omega), hz1.sub (by simp), hz2⟩
        case measure => simp [intOf]; omega
      have b14 : (K2 == (14 : Int)) = false := by simpa using h14
      by_cases h15 : K2 = 15
      · subst h15
        obtain ⟨q, hq, fR⟩ := HOt.out.1.restart C HOt.out.2.2.2.2 (by omega)
        have HAR : Hid (∀ W', Below wt.heap.size wt W' → Calls Tryz.prog 19 #[.pointer (some ⟨q, 0, none⟩), .int .i64 n2, .slice co2 cl2 cc2] W' fun e w' => e = .returned (.tuple #[]) ∧ OneS PS va (x.restart n2 cuts2) w [wr.heap.size, w.heap.size] w' ∧ w'.heap[w.heap.size]? = some (.cells #[.int .i64 K, .int .i64 n, .string nm, .string b, .int .i64 m0, .int .i64 m1, .int .i64 m2, .int .i64 m3, .slice po pl pc, .slice co cl cc] 39 (0, 0)) ∧ w'.cell? ⟨va, 0, none⟩ = some (.pointer (some ⟨q, 0, none⟩)) ∧ w'.cell? ⟨wr.heap.size, 1, none⟩ = some (.int .i64 n2) ∧ w'.cell? ⟨wr.heap.size, 9, none⟩ = some (.slice co2 cl2 cc2)) := fun W' hb => by
          have hbw := HOt.out.1.blw
          refine (fR W' n2 _ cuts2 hb (HOK.out.row.below (hbw.trans (hb.mono hbw.size)) HOK.out.low) HOK.out.low (by have := HOK.out.few; simp only at this; omega)).mono ?_
          rintro e w' ⟨rfl, g1, g2, g3⟩
          exact ⟨rfl, g1, (g2 _ (by simp)).trans HOt.out.2.2.1, g3, by rw [Lib.cell_of_heap ((g2 _ (by simp)).trans HOt.out.2.1)]; rfl, by rw [Lib.cell_of_heap ((g2 _ (by simp)).trans HOt.out.2.1)]; rfl⟩
        have hbd : Below wt.heap.size wt wt.drew := (Below.refl _ wt).drew
        clear fR
        go_upto_region 21 with fail
        go_region_held3 (fun w' => w'.cell? ⟨va, 0, none⟩ = some (.pointer (some ⟨q, 0, none⟩)) ∧ w'.cell? ⟨wr.heap.size, 1, none⟩ = some (.int .i64 n2) ∧ w'.cell? ⟨wr.heap.size, 9, none⟩ = some (.slice co2 cl2 cc2)) (first | assumption | exact ⟨hq, o1, o9⟩ | exact ⟨hz3, hz4, hz5⟩) (first
          | (go_at_call 19; refine (HAR.out _ hbd).mono ?_; rintro e w' ⟨rfl, hz1, hz2, hz3, hz4, hz5⟩))
        go_wp2
        go_roundw
        case rel => exact ⟨k + 1, by go_num, by omega, _, HOt.out.2.2.2.1.restart HOt.out.2.2.2.2.vf.wf n2 cuts2, HOt.out.2.2.2.2.restart n2 cuts2, hz1.sub (by simp), hz2⟩
        case measure => simp [intOf]; omega
      have b15 : (K2 == (15 : Int)) = false := by simpa using h15
      obtain ⟨tt, htt⟩ : ∃ z, z = touch ⟨K2, n2, a2, b2, e0, e1, e2, e3⟩ nm := ⟨_, rfl⟩
      have HTT : Hid (tt = touch ⟨K2, n2, a2, b2, e0, e1, e2, e3⟩ nm) := htt
      rw [← htt]
      clear htt h14 h15
      cases tt
      · have HCC : Hid (Calls Tryz.prog 11 #[.pointer (some ⟨va, 0, none⟩), .agg #[.int .i64 K2, .int .i64 n2, .string a2, .string b2, .int .i64 e0, .int .i64 e1, .int .i64 e2, .int .i64 e3, .slice po2 pl2 pc2, .slice co2 cl2 cc2]] wt fun e w' => (∃ v, e = .returned v) ∧ DurS PS va nm (Bd.mk m0 m1 m2 m3 da da.size) (.cells #[.int .i64 K, .int .i64 n, .string nm, .string b, .int .i64 m0, .int .i64 m1, .int .i64 m2, .int .i64 m3, .slice po pl pc, .slice co cl cc] 39 (0, 0)) (4 + (k + 1)) w w') := by
          obtain ⟨h1, h2, h3, h4, h5⟩ := HOt.out
          refine (h1.step C h5 (by omega) (Opv.mk K2 n2 a2 b2 e0 e1 e2 e3 (.slice po2 pl2 pc2) (.slice co2 cl2 cc2) plan cuts2) HOK.out.okc (Prod.eta _).symm).mono ?_
          rintro e w' ⟨ao', c', rfl, g1, g2, g3, -⟩
          exact ⟨⟨_, rfl⟩, _, h4.call h5.vf.wf _ HTT.out.symm, g2, g1.sub (by simp), (g3 _ (by simp)).trans h3⟩
        go_wp2_with fail
        go_at_call 11
        refine Calls.mono HCC.out ?_
        rintro e w9 ⟨⟨v9, rfl⟩, hs9⟩
        have HS9 : Hid (DurS PS va nm (Bd.mk m0 m1 m2 m3 da da.size) (.cells #[.int .i64 K, .int .i64 n, .string nm, .string b, .int .i64 m0, .int .i64 m1, .int .i64 m2, .int .i64 m3, .slice po pl pc, .slice co cl cc] 39 (0, 0)) (4 + (k + 1)) w w9) := hs9
        clear hs9 HCC
        go_wp2
        go_roundw
        case rel => exact ⟨k + 1, by go_num, by omega, HS9.out⟩
        case measure => simp [intOf]; omega
      · go_wp2
        go_roundw
        case rel => exact ⟨k + 1, by go_num, by omega, _, HOt.out.2.2.2.1, HOt.out.2.2.2.2.mono (by omega), HOt.out.1.sub (by simp), HOt.out.2.2.1⟩
        case measure => simp [intOf]; omega
    · obtain rfl : L = k := by omega
      have b1 : decide ((L : Int) < (L : Int)) = false := by simp
      obtain ⟨x, hd, hvf, hone, hfb⟩ := hsr
      obtain ⟨hr1, hr2⟩ := hd.read hvf.vf.wf HP.out.1 d cuts
      obtain ⟨xr, hxr⟩ : ∃ z, z = x.restart d cuts := ⟨_, rfl⟩
      rw [← hxr] at hr1 hr2
      obtain ⟨xs, hxs⟩ : ∃ z, z = (xr.call (opk 1 nm).c).2 := ⟨_, rfl⟩
      rw [← hxs] at hr2
      have HE : Hid ((xr.call (opk 1 nm).c) = ({ an0 with s := da }, xs) ∧ (xs.call (opk 2 nm).c) = ({ an0 with i0 := m0, i1 := m1, i2 := m2, i3 := m3, iname := nm, isz := da.size }, (xs.call (opk 2 nm).c).2)) := ⟨Prod.ext hr1 hxs.symm, Prod.ext hr2 rfl⟩
      obtain ⟨q, hq, fR⟩ := hone.restart C hvf (by omega)
      have HRS : Hid (Calls Tryz.prog 19 #[.pointer (some ⟨q, 0, none⟩), .int .i64 d, cv] wr fun e w' => e = .returned (.tuple #[]) ∧ OneS PS va xr w [w.heap.size] w' ∧ Vlf xr (4 + L + 1) ∧ w'.heap[w.heap.size]? = some (.cells #[.int .i64 K, .int .i64 n, .string nm, .string b, .int .i64 m0, .int .i64 m1, .int .i64 m2, .int .i64 m3, .slice po pl pc, .slice co cl cc] 39 (0, 0))) := by
        refine (fR wr d cv cuts (Below.refl _ _) (HRC.out.1.below hone.blw HRC.out.2.1) HRC.out.2.1 (by have := HRC.out.2.2; omega)).mono ?_
        rintro e w' ⟨rfl, g1, g2, -⟩
        rw [hxr]
        exact ⟨rfl, g1, hvf.restart d cuts, (g2 _ (by simp)).trans hfb⟩
      clear hd hvf hone hfb hr1 hr2 hxr hxs fR HSR
      go_wp2_with fail
      go_at_call 19
      refine HRS.out.mono ?_
      rintro e w24 ⟨rfl, ho24, hv24, hf24⟩
      have HO24 : Hid (OneS PS va xr w [w.heap.size] w24 ∧ Vlf xr (4 + L + 1) ∧ w24.heap[w.heap.size]? = some (.cells #[.int .i64 K, .int .i64 n, .string nm, .string b, .int .i64 m0, .int .i64 m1, .int .i64 m2, .int .i64 m3, .slice po pl pc, .slice co cl cc] 39 (0, 0))) := ⟨ho24, hv24, hf24⟩
      obtain ⟨-, -, f2, -⟩ := at10f hf24
      have HC24 : Hid (Calls Tryz.prog 11 #[.pointer (some ⟨va, 0, none⟩), .agg #[.int .i64 1, .int .i64 0, .string nm, .string ⟨#[]⟩, .int .i64 0, .int .i64 0, .int .i64 0, .int .i64 0, .slice none 0 0, .slice none 0 0]] w24 fun e w' => ∃ ao c', e = .returned (.agg #[.string da, .int .i64 0, .int .i64 0, .int .i64 0, .int .i64 0, .int .i64 0, .string ⟨#[]⟩, .int .i64 0, .slice ao 0 c', .bool false, .bool false, .string ⟨#[]⟩, .string ⟨#[]⟩, .int .i64 0]) ∧ OneS PS va xs w [w.heap.size] w' ∧ Vlf xs (4 + L + 2) ∧ w'.heap[w.heap.size]? = some (.cells #[.int .i64 K, .int .i64 n, .string nm, .string b, .int .i64 m0, .int .i64 m1, .int .i64 m2, .int .i64 m3, .slice po pl pc, .slice co cl cc] 39 (0, 0))) := by
        obtain ⟨h1, h2, h3⟩ := HO24.out
        refine (h1.step C h2 (by omega) (opk 1 nm) (opk_ok _ _ (by have := HP.out.2.2.1; omega)) HE.out.1).mono ?_
        rintro e w' ⟨ao, c', rfl, g1, g2, g3, -⟩
        exact ⟨ao, c', rfl, g1, g2, (g3 _ (by simp)).trans h3⟩
      clear ho24 hv24 hf24 HRS hq
      go_wp2_with fail
      go_at_call 11
      refine Calls.mono HC24.out ?_
      rintro r w25 ⟨a25, c25, rfl, ho25, hv25, hf25⟩
      obtain ⟨W25, hW25⟩ : ∃ W25, W25 = w25.alloc (.cells #[.string da, .int .i64 0, .int .i64 0, .int .i64 0, .int .i64 0, .int .i64 0, .string ⟨#[]⟩, .int .i64 0, .slice a25 0 c25, .bool false, .bool false, .string ⟨#[]⟩, .string ⟨#[]⟩, .int .i64 0] 34) := ⟨_, rfl⟩
      have HW25 : Hid (W25 = w25.alloc (.cells #[.string da, .int .i64 0, .int .i64 0, .int .i64 0, .int .i64 0, .int .i64 0, .string ⟨#[]⟩, .int .i64 0, .slice a25 0 c25, .bool false, .bool false, .string ⟨#[]⟩, .string ⟨#[]⟩, .int .i64 0] 34)) := hW25
      have HF25 : Hid (OneS PS va xs w [w25.heap.size, w.heap.size] W25 ∧ Vlf xs (4 + L + 2) ∧ W25.heap[w.heap.size]? = some (.cells #[.int .i64 K, .int .i64 n, .string nm, .string b, .int .i64 m0, .int .i64 m1, .int .i64 m2, .int .i64 m3, .slice po pl pc, .slice co cl cc] 39 (0, 0)) ∧ W25.heap[w25.heap.size]? = some (.cells #[.string da, .int .i64 0, .int .i64 0, .int .i64 0, .int .i64 0, .int .i64 0, .string ⟨#[]⟩, .int .i64 0, .slice a25 0 c25, .bool false, .bool false, .string ⟨#[]⟩, .string ⟨#[]⟩, .int .i64 0] 34 (0, 0))) := by
        have hb : Below w25.heap.size w25 W25 := by rw [hW25]; exact (Below.refl _ w25).alloc (Nat.le_refl _) _
        have hbox := ho25.box C (.cells #[.string da, .int .i64 0, .int .i64 0, .int .i64 0, .int .i64 0, .int .i64 0, .string ⟨#[]⟩, .int .i64 0, .slice a25 0 c25, .bool false, .bool false, .string ⟨#[]⟩, .string ⟨#[]⟩, .int .i64 0] 34)
        rw [← hW25] at hbox
        exact ⟨hbox, hv25, (hb.block _ (Array.getElem?_eq_some_iff.1 hf25).1).trans hf25, by rw [hW25]; exact new_at rfl⟩
      have HC25 : Hid (Calls Tryz.prog 11 #[.pointer (some ⟨va, 0, none⟩), .agg #[.int .i64 2, .int .i64 0, .string nm, .string ⟨#[]⟩, .int .i64 0, .int .i64 0, .int .i64 0, .int .i64 0, .slice none 0 0, .slice none 0 0]] W25 fun e w' => ∃ ao c', e = .returned (.agg #[.string ⟨#[]⟩, .int .i64 0, .int .i64 m0, .int .i64 m1, .int .i64 m2, .int .i64 m3, .string nm, .int .i64 (da.size : Int), .slice ao 0 c', .bool false, .bool false, .string ⟨#[]⟩, .string ⟨#[]⟩, .int .i64 0]) ∧ Below w.heap.size w w' ∧ w'.heap[w.heap.size]? = some (.cells #[.int .i64 K, .int .i64 n, .string nm, .string b, .int .i64 m0, .int .i64 m1, .int .i64 m2, .int .i64 m3, .slice po pl pc, .slice co cl cc] 39 (0, 0)) ∧ w'.heap[w25.heap.size]? = some (.cells #[.string da, .int .i64 0, .int .i64 0, .int .i64 0, .int .i64 0, .int .i64 0, .string ⟨#[]⟩, .int .i64 0, .slice a25 0 c25, .bool false, .bool false, .string ⟨#[]⟩, .string ⟨#[]⟩, .int .i64 0] 34 (0, 0))) := by
        obtain ⟨h1, h2, h3, h4⟩ := HF25.out
        refine (h1.step C h2 (by omega) (opk 2 nm) (opk_ok _ _ (by have := HP.out.2.2.1; omega)) HE.out.2).mono ?_
        rintro e w' ⟨ao, c', rfl, g1, g2, g3, -⟩
        exact ⟨ao, c', rfl, g1.blw, (g3 _ (by simp)).trans h3, (g3 _ (by simp)).trans h4⟩
      obtain ⟨-, -, f3, -⟩ := at10f HF25.out.2.2.1
      clear ho25 hv25 hf25 hW25 HC24 f2
      go_upto_region 26 with fail
      rw [← HW25.out]
      go_wp2_with fail
      go_at_call 11
      refine Calls.mono HC25.out ?_
      rintro r w26 ⟨a26, c26, rfl, hb26, hf26, hr26⟩
      obtain ⟨W26, hW26⟩ : ∃ W26, W26 = w26.alloc (.cells #[.string ⟨#[]⟩, .int .i64 0, .int .i64 m0, .int .i64 m1, .int .i64 m2, .int .i64 m3, .string nm, .int .i64 (da.size : Int), .slice a26 0 c26, .bool false, .bool false, .string ⟨#[]⟩, .string ⟨#[]⟩, .int .i64 0] 34) := ⟨_, rfl⟩
      have HW26 : Hid (W26 = w26.alloc (.cells #[.string ⟨#[]⟩, .int .i64 0, .int .i64 m0, .int .i64 m1, .int .i64 m2, .int .i64 m3, .string nm, .int .i64 (da.size : Int), .slice a26 0 c26, .bool false, .bool false, .string ⟨#[]⟩, .string ⟨#[]⟩, .int .i64 0] 34)) := hW26
      have hb : Below w26.heap.size w26 W26 := by rw [hW26]; exact (Below.refl _ w26).alloc (Nat.le_refl _) _
      have HB26 : Hid (Below w.heap.size w W26) := hb26.trans (hb.mono hb26.size)
      obtain ⟨g0, g1, g2, g3, g4, g5, g6, g7, g8, g9⟩ := at10f ((hb.block _ (Array.getElem?_eq_some_iff.1 hf26).1).trans hf26)
      obtain ⟨⟨p0, p1, p2, p3, p4, p5, p6, p7, p8, p9, p10, p11, p12, p13⟩, -⟩ := at14 ((hb.block _ (Array.getElem?_eq_some_iff.1 hr26).1).trans hr26)
      obtain ⟨⟨l0, l1, l2, l3, l4, l5, l6, l7, l8, l9, l10, l11, l12, l13⟩, -⟩ := at14 (show W26.heap[w26.heap.size]? = some (.cells #[.string ⟨#[]⟩, .int .i64 0, .int .i64 m0, .int .i64 m1, .int .i64 m2, .int .i64 m3, .string nm, .int .i64 (da.size : Int), .slice a26 0 c26, .bool false, .bool false, .string ⟨#[]⟩, .string ⟨#[]⟩, .int .i64 0] 34 (0, 0)) by rw [hW26]; exact new_at rfl)
      have e1 : (da.toList == da.toList) = true := by simp
      have e3 : (m0 == m0) = true := by simp
      have e4 : (m1 == m1) = true := by simp
      have e5 : (m2 == m2) = true := by simp
      have e6 : (m3 == m3) = true := by simp
      have e8 : ((da.size : Int) == (da.size : Int)) = true := by simp
      clear hb hb26 hf26 hr26 hW26 HC25 f3
      go_upto_region 27 with fail
      rw [← HW26.out]
      go_wp2
      go_returns
      exact ⟨rfl, HB26.out⟩
theorem vfsDurable_w (C : PC PS) (c : Int) (o1 : Opv) (ok1 : OpvOk w0.heap.size o1 w0) (da : ByteArray) (hda : da.size ≤ 1048576) (v3 : Value) (ops : List Opv) (ro : RowV w0 v3 ops) (oks : ∀ (i : Nat) (o : Opv), ops[i]? = some o → OpvOk w0.heap.size o w0) (ll : ops.length ≤ 1048576) (d : Int) (cv : Value) (cuts : List Int) (ri : RowI w0 cv cuts) (cb : cuts ≠ [] → ∀ k, cv.ownBlock = some k → k < w0.heap.size) (cl2 : cuts.length ≤ 1048576) :
    Calls Tryz.prog 5 #[.int .i64 c, o1.v, .string da, v3, .int .i64 d, cv] w0 fun e w' => e = .returned (.bool true) ∧ Below w0.heap.size w0 w' := by
  have hnm : o1.a.size ≤ 2097152 := ok1.small
  obtain ⟨⟨po, pl, pc, hpv⟩, ⟨co, cl, cc, hcv⟩, -⟩ := ok1.okc
  obtain ⟨K, n, nm, b, m0, m1, m2, m3, pv, cv1, plan, cuts1⟩ := o1
  simp only at hpv hcv hnm
  subst hpv; subst hcv
  by_cases hc : c < 0 ∨ 1073741824 < c
  · exact dur_no C c hc K n nm b (by omega) m0 m1 m2 m3 po pl pc co cl cc da v3 d cv w0
  · obtain ⟨cn, rfl⟩ := Int.eq_ofNat_of_zero_le (show 0 ≤ c by omega)
    by_cases hs : okName nm = false ∨ cn < da.size
    · exact dur_skip C cn (by omega) K n nm b hnm m0 m1 m2 m3 po pl pc co cl cc da hs v3 d cv w0
    · have hok : okName nm = true := by
        cases h : okName nm with
        | true => rfl
        | false => exact absurd (.inl h) hs
      exact dur_w C cn (by omega) K n nm b hnm m0 m1 m2 m3 po pl pc co cl cc da hda hok (by omega) w0 v3 ops ro oks ll d cv cuts ri cb cl2
end Go.Proofs.YtjbphheojfclcaaGreat
