-- A call on both volumes: Crash, other kinds, and all of them.
import Derived.Test.YtodjgbmfmpbkjabE3
namespace Go.Proofs.Ytodjgbmfmpbkjab
open Go.RowKit
set_option linter.unusedVariables false
variable {PS : (Nat → Prop) → Nat → St → World → Prop}
set_option maxHeartbeats 4000000 in
theorem changed7 (C : PC PS) (B : Nat) (Fd : Nat → Prop) (pd : Nat) (Fr : Nat → Prop) (pr : Nat) (st : St) (on n : Int) (a b : ByteArray) (m0 m1 m2 m3 : Int) (ao : Option Addr) (cl cp : Nat) (cuts : List Int) (w : World) (h : Two PS B Fd pd st Fr pr st w) (hw : Wf st) (hB : B ≤ w.heap.size)
    (hri : RowI w (.slice ao cl cp) cuts) (hlo : cuts ≠ [] → ∀ k, (Value.slice ao cl cp).ownBlock = some k → k < B) (hcl : cuts.length ≤ 2097152) :
    Calls Try.prog 43 #[.pointer (some ⟨pd, 0, none⟩), .pointer (some ⟨pr, 0, none⟩), .agg #[.int .i64 7, .int .i64 on, .int .i64 n, .string a, .string b, .int .i64 m0, .int .i64 m1, .int .i64 m2, .int .i64 m3, .slice ao cl cp]] w fun e w' =>
      e = .returned (.bool true) ∧ ∃ Fd' Fr', Two PS B Fd' pd (st.crash n cuts) Fr' pr (st.crash n cuts) w' ∧ Below B w w' := by
  obtain ⟨X, hX⟩ : ∃ X, X = Obj.cells #[.int .i64 7, .int .i64 on, .int .i64 n, .string a, .string b, .int .i64 m0, .int .i64 m1, .int .i64 m2, .int .i64 m3, .slice ao cl cp] 30 := ⟨_, rfl⟩
  have hbA : Below w.heap.size w (w.alloc X) := (Below.refl _ w).alloc (Nat.le_refl _) _
  have hA := h.below C hbA
  have hsA : (w.alloc X).heap.size = w.heap.size + 1 := by simp
  have hD := lawCrash_c C Fd pd st n (.slice ao cl cp) cuts (w.alloc X) hA.d hw (fun k hk => (hA.dlo k hk).2) (hri.below (hbA.mono hB) hlo) (fun hne k hk hF => by have := hlo hne k hk; have := h.dlo k hF; omega) hcl
  have HP : Hid (Calls Try.prog 17 #[.pointer (some ⟨pd, 0, none⟩), .int .i64 n, .slice ao cl cp] (w.alloc X) fun e w' =>
      e = .returned (.bool true) ∧ Two PS B (ext Fd (w.alloc X) w') pd (st.crash n cuts) Fr pr st w' ∧ Below B w w' ∧ w'.heap[w.heap.size]? = some X ∧ B ≤ w'.heap.size ∧ RowI w' (.slice ao cl cp) cuts) := hD.mono (by
    rintro e w' ⟨rfl, hd⟩
    obtain ⟨t, hb⟩ := hA.pdid (by rw [hsA]; omega) hd
    have hbb := (hbA.mono hB).trans hb
    refine ⟨rfl, t, hbb, ?_, by have := hb.size; rw [hsA] at this; omega, hri.below hbb hlo⟩
    rw [hd.2.block w.heap.size (by rw [hsA]; omega) (fun h' => by have := h.dlo _ h'; omega), heap_alloc_new])
  have HR : Hid (∀ (F : Nat → Prop) wx, Two PS B F pd (st.crash n cuts) Fr pr st wx → B ≤ wx.heap.size → RowI wx (.slice ao cl cp) cuts → Calls Try.prog 61 #[.pointer (some ⟨pr, 0, none⟩), .int .i64 n, .slice ao cl cp] wx fun e w' =>
      e = .returned (.tuple #[]) ∧ Two PS B F pd (st.crash n cuts) (ext Fr wx w') pr (st.crash n cuts) w' ∧ Below B wx w') := fun F wx t hBx hrx => by
    obtain ⟨bv, dv, dvs, tr⟩ := t.r
    refine (crash_c Fr pr st bv dv dvs n _ cuts wx tr hw hrx (fun hne k hk hF => by have := hlo hne k hk; have := h.rlo k hF; omega) (by omega)).mono ?_
    rintro e w' ⟨rfl, hd⟩
    exact ⟨rfl, t.rdid C hBx hd⟩
  clear hD h hA hw hri hlo
  subst hX
  go_enter Try.func43, Try.ntmps43
  go_wp2_with (first
    | (go_at_call 17; refine HP.out.mono ?_; rintro e w1 ⟨rfl, t1, hb1, hk1, hB1, hri1⟩; have s2 : w1.cell? ⟨w.heap.size, 2, none⟩ = some (.int .i64 n) := (by rw [Lib.cell_of_heap hk1]; rfl); have s9 : w1.cell? ⟨w.heap.size, 9, none⟩ = some (.slice ao cl cp) := (by rw [Lib.cell_of_heap hk1]; rfl); clear hk1)
    | (go_at_call 61; refine (HR.out _ _ t1 hB1 hri1).mono ?_; rintro e w2 ⟨rfl, t2, hb2⟩))
  go_ret
  exact ⟨rfl, _, _, t2, hb1.trans hb2⟩
theorem changed_c (C : PC PS) (B : Nat) (Fd : Nat → Prop) (pd : Nat) (Fr : Nat → Prop) (pr : Nat) (st : St) (o : Opx) (w : World) (h : Two PS B Fd pd st Fr pr st w) (hw : Wf st) (hB : B ≤ w.heap.size) (ho : OpOk B o w) (hk : 1 ≤ o.kind ∧ o.kind ≤ 7) :
    Calls Try.prog 43 #[.pointer (some ⟨pd, 0, none⟩), .pointer (some ⟨pr, 0, none⟩), o.v] w fun e w' =>
      e = .returned (.bool true) ∧ ∃ Fd' Fr', Two PS B Fd' pd (st.step o) Fr' pr (st.step o) w' ∧ Below B w w' := by
  obtain ⟨kind, on, n, a, b, m0, m1, m2, m3, cv, cuts⟩ := o
  obtain ⟨hrow, hlow, hfew, hsmall⟩ := ho
  simp only at hrow hlow hfew hsmall hk
  obtain ⟨ao, cl, cp, rfl⟩ : ∃ ao cl cp, cv = .slice ao cl cp := by
    rcases hrow with ⟨_, ao, c, rfl⟩ | ⟨b, off, cap, rfl, _⟩
    · exact ⟨_, _, _, rfl⟩
    · exact ⟨_, _, _, rfl⟩
  have hc : kind = 1 ∨ kind = 2 ∨ kind = 3 ∨ kind = 4 ∨ kind = 5 ∨ kind = 6 ∨ kind = 7 := by omega
  rcases hc with rfl | rfl | rfl | rfl | rfl | rfl | rfl
  · exact changed1 C B Fd pd Fr pr st on n a b m0 m1 m2 m3 ao cl cp w h hw hB
  · exact changed2 C B Fd pd Fr pr st on n a b m0 m1 m2 m3 ao cl cp w h hw hB hsmall
  · exact changed3 C B Fd pd Fr pr st on n a b m0 m1 m2 m3 ao cl cp w h hw hB
  · exact changed4 C B Fd pd Fr pr st on n a b m0 m1 m2 m3 ao cl cp w h hw hB
  · exact changed5 C B Fd pd Fr pr st on n a b m0 m1 m2 m3 ao cl cp w h hw hB
  · exact changed6 C B Fd pd Fr pr st on n a b m0 m1 m2 m3 ao cl cp w h hw hB
  · exact changed7 C B Fd pd Fr pr st on n a b m0 m1 m2 m3 ao cl cp cuts w h hw hB hrow hlow hfew
end Go.Proofs.Ytodjgbmfmpbkjab
