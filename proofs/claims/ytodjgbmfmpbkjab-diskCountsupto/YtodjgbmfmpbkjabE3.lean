-- A call on both volumes.
import Derived.Test.YtodjgbmfmpbkjabE2
import Derived.Test.YtodjgbmfmpbkjabD7
namespace Go.Proofs.Ytodjgbmfmpbkjab
open Go.RowKit
set_option linter.unusedVariables false
variable {PS : (Nat → Prop) → Nat → St → World → Prop}
/-- The program's volume and the document's, apart, in blocks from B on. -/
structure Two (PS : (Nat → Prop) → Nat → St → World → Prop) (B : Nat) (Fd : Nat → Prop) (pd : Nat) (sd : St) (Fr : Nat → Prop) (pr : Nat) (sr : St) (w : World) : Prop where
  d : PS Fd pd sd w
  r : RefSt Fr pr sr w
  apart : ∀ k, Fd k → ¬ Fr k
  dlo : ∀ k, Fd k → B ≤ k ∧ k < w.heap.size
  rlo : ∀ k, Fr k → B ≤ k ∧ k < w.heap.size
theorem RefSt.same {F : Nat → Prop} {p : Nat} {st : St} {w w' : World} (h : RefSt F p st w) (hk : ∀ k, F k → k < w.heap.size → w'.heap[k]? = w.heap[k]?) : RefSt F p st w' := by
  obtain ⟨bv, dv, dvs, h⟩ := h
  exact ⟨bv, dv, dvs, h.same hk⟩
theorem Two.below (C : PC PS) {B : Nat} {Fd Fr : Nat → Prop} {pd pr : Nat} {sd sr : St} {w w' : World} (h : Two PS B Fd pd sd Fr pr sr w) (hb : Below w.heap.size w w') : Two PS B Fd pd sd Fr pr sr w' where
  d := C.below h.d hb
  r := h.r.same fun k _ hk => hb.block k hk
  apart := h.apart
  dlo := fun k hk => by have := h.dlo k hk; have := hb.size; omega
  rlo := fun k hk => by have := h.rlo k hk; have := hb.size; omega
theorem Two.pdid {B : Nat} {Fd Fr : Nat → Prop} {pd pr : Nat} {sd sr sd' : St} {w w' : World} (h : Two PS B Fd pd sd Fr pr sr w) (hB : B ≤ w.heap.size) (hd : PDid PS Fd pd sd' w w') : Two PS B (ext Fd w w') pd sd' Fr pr sr w' ∧ Below B w w' := by
  have hs := hd.2.size
  refine ⟨⟨hd.1, h.r.same fun k hk hlt => hd.2.block k hlt (fun h' => h.apart k h' hk), fun k hk hr => ?_, fun k hk => ?_, fun k hk => by have := h.rlo k hk; omega⟩, hd.2.below (fun k hk => (h.dlo k hk).1) hB⟩
  · rcases hk with hk | hk
    · exact h.apart k hk hr
    · have := h.rlo k hr; omega
  · rcases hk with hk | hk
    · have := h.dlo k hk; omega
    · omega
theorem Two.rdid (C : PC PS) {B : Nat} {Fd Fr : Nat → Prop} {pd pr : Nat} {sd sr sr' : St} {w w' : World} (h : Two PS B Fd pd sd Fr pr sr w) (hB : B ≤ w.heap.size) (hd : Did Fr pr sr' w w') : Two PS B Fd pd sd (ext Fr w w') pr sr' w' ∧ Below B w w' := by
  have hs := hd.2.size
  refine ⟨⟨C.same h.d fun k hk hlt => hd.2.block k hlt (fun h' => h.apart k hk h'), hd.1, fun k hk hr => ?_, fun k hk => by have := h.dlo k hk; omega, fun k hk => ?_⟩, hd.2.below (fun k hk => (h.rlo k hk).1) hB⟩
  · rcases hr with hr | hr
    · exact h.apart k hk hr
    · have := h.dlo k hk; omega
  · rcases hk with hk | hk
    · have := h.rlo k hk; omega
    · omega

def boxO (o : Opx) : Obj := .cells #[.int .i64 o.kind, .int .i64 o.on, .int .i64 o.n, .string o.a, .string o.b, .int .i64 o.m0, .int .i64 o.m1, .int .i64 o.m2, .int .i64 o.m3, o.cv] 30
set_option maxHeartbeats 4000000 in
theorem changed1 (C : PC PS) (B : Nat) (Fd : Nat → Prop) (pd : Nat) (Fr : Nat → Prop) (pr : Nat) (st : St) (on n : Int) (a b : ByteArray) (m0 m1 m2 m3 : Int) (ao : Option Addr) (cl cp : Nat) (w : World) (h : Two PS B Fd pd st Fr pr st w) (hw : Wf st) (hB : B ≤ w.heap.size) :
    Calls Try.prog 43 #[.pointer (some ⟨pd, 0, none⟩), .pointer (some ⟨pr, 0, none⟩), .agg #[.int .i64 1, .int .i64 on, .int .i64 n, .string a, .string b, .int .i64 m0, .int .i64 m1, .int .i64 m2, .int .i64 m3, .slice ao cl cp]] w fun e w' =>
      e = .returned (.bool true) ∧ ∃ Fd' Fr', Two PS B Fd' pd (st.create a m0 m1 m2 m3).2 Fr' pr (st.create a m0 m1 m2 m3).2 w' ∧ Below B w w' := by
  have HN : Hid (∀ (n : Int) w, Calls Try.prog 11 #[.int .i64 n] w fun e w' => e = .returned (.int .i64 n) ∧ w' = w) := fun n w => num_c n w
  obtain ⟨X, hX⟩ : ∃ X, X = Obj.cells #[.int .i64 1, .int .i64 on, .int .i64 n, .string a, .string b, .int .i64 m0, .int .i64 m1, .int .i64 m2, .int .i64 m3, .slice ao cl cp] 30 := ⟨_, rfl⟩
  have hbA : Below w.heap.size w (w.alloc X) := (Below.refl _ w).alloc (Nat.le_refl _) _
  have hA := h.below C hbA
  have hsA : (w.alloc X).heap.size = w.heap.size + 1 := by simp
  have hD := C.create Fd pd st a m0 m1 m2 m3 (w.alloc X) hA.d hw
  obtain ⟨r1, hr1⟩ : ∃ r, r = (st.create a m0 m1 m2 m3).1.1 := ⟨_, rfl⟩
  obtain ⟨r2, hr2⟩ : ∃ r, r = (st.create a m0 m1 m2 m3).1.2 := ⟨_, rfl⟩
  have HP : Hid (Calls Try.prog 10 #[.pointer (some ⟨pd, 0, none⟩), .string a, .agg #[.int .i64 m0, .int .i64 m1, .int .i64 m2, .int .i64 m3]] (w.alloc X) fun e w' =>
      e = .returned (.tuple #[.int .i64 r1, .int .i64 r2]) ∧ Two PS B (ext Fd (w.alloc X) w') pd (st.create a m0 m1 m2 m3).2 Fr pr st w' ∧ Below B w w' ∧ w'.heap[w.heap.size]? = some X ∧ B ≤ w'.heap.size) := hD.mono (by
    rintro e w' ⟨rfl, hd⟩
    obtain ⟨t, hb⟩ := hA.pdid (by rw [hsA]; omega) hd
    rw [← hr1, ← hr2]
    refine ⟨rfl, t, (hbA.mono hB).trans hb, ?_, by have := hb.size; rw [hsA] at this; omega⟩
    rw [hd.2.block w.heap.size (by rw [hsA]; omega) (fun h' => by have := h.dlo _ h'; omega), heap_alloc_new])
  have HR : Hid (∀ (F : Nat → Prop) wx, Two PS B F pd (st.create a m0 m1 m2 m3).2 Fr pr st wx → B ≤ wx.heap.size → Calls Try.prog 55 #[.pointer (some ⟨pr, 0, none⟩), .string a, .agg #[.int .i64 m0, .int .i64 m1, .int .i64 m2, .int .i64 m3]] wx fun e w' =>
      e = .returned (.tuple #[.int .i64 r1, .int .i64 r2]) ∧ Two PS B F pd (st.create a m0 m1 m2 m3).2 (ext Fr wx w') pr (st.create a m0 m1 m2 m3).2 w' ∧ Below B wx w') := fun F wx t hBx => by
    refine (create_c Fr pr st a m0 m1 m2 m3 wx t.r hw).mono ?_
    rintro e w' ⟨rfl, hd⟩
    rw [← hr1, ← hr2]
    exact ⟨rfl, t.rdid C hBx hd⟩
  clear hD h hA hw hr1 hr2
  subst hX
  have b1 : ((r1 : Int) == r1) = true := by simp
  have b2 : ((r2 : Int) == r2) = true := by simp
  go_enter Try.func43, Try.ntmps43
  go_wp2_with (first
    | (go_at_call 10; refine HP.out.mono ?_; rintro e w1 ⟨rfl, t1, hb1, hk1, hB1⟩; have s3 : w1.cell? ⟨w.heap.size, 3, none⟩ = some (.string a) := (by rw [Lib.cell_of_heap hk1]; rfl); have s5 : w1.cell? ⟨w.heap.size, 5, none⟩ = some (.int .i64 m0) := (by rw [Lib.cell_of_heap hk1]; rfl); have s6 : w1.cell? ⟨w.heap.size, 6, none⟩ = some (.int .i64 m1) := (by rw [Lib.cell_of_heap hk1]; rfl); have s7 : w1.cell? ⟨w.heap.size, 7, none⟩ = some (.int .i64 m2) := (by rw [Lib.cell_of_heap hk1]; rfl); have s8 : w1.cell? ⟨w.heap.size, 8, none⟩ = some (.int .i64 m3) := (by rw [Lib.cell_of_heap hk1]; rfl); clear hk1)
    | (go_at_call 55; refine (HR.out _ _ t1 hB1).mono ?_; rintro e w2 ⟨rfl, t2, hb2⟩)
    | (go_at_call 11; refine (HN.out _ _).mono ?_; rintro e w3 ⟨rfl, hw3⟩; subst w3))
  go_ret
  exact ⟨rfl, _, _, t2, hb1.trans hb2⟩
set_option maxHeartbeats 4000000 in
theorem changed2 (C : PC PS) (B : Nat) (Fd : Nat → Prop) (pd : Nat) (Fr : Nat → Prop) (pr : Nat) (st : St) (on n : Int) (a b : ByteArray) (m0 m1 m2 m3 : Int) (ao : Option Addr) (cl cp : Nat) (w : World) (h : Two PS B Fd pd st Fr pr st w) (hw : Wf st) (hB : B ≤ w.heap.size) (ha : a.size ≤ 2097152) :
    Calls Try.prog 43 #[.pointer (some ⟨pd, 0, none⟩), .pointer (some ⟨pr, 0, none⟩), .agg #[.int .i64 2, .int .i64 on, .int .i64 n, .string a, .string b, .int .i64 m0, .int .i64 m1, .int .i64 m2, .int .i64 m3, .slice ao cl cp]] w fun e w' =>
      e = .returned (.bool true) ∧ ∃ Fd' Fr', Two PS B Fd' pd (st.append n a).2 Fr' pr (st.append n a).2 w' ∧ Below B w w' := by
  have HN : Hid (∀ (n : Int) w, Calls Try.prog 11 #[.int .i64 n] w fun e w' => e = .returned (.int .i64 n) ∧ w' = w) := fun n w => num_c n w
  obtain ⟨X, hX⟩ : ∃ X, X = Obj.cells #[.int .i64 2, .int .i64 on, .int .i64 n, .string a, .string b, .int .i64 m0, .int .i64 m1, .int .i64 m2, .int .i64 m3, .slice ao cl cp] 30 := ⟨_, rfl⟩
  have hbA : Below w.heap.size w (w.alloc X) := (Below.refl _ w).alloc (Nat.le_refl _) _
  have hA := h.below C hbA
  have hsA : (w.alloc X).heap.size = w.heap.size + 1 := by simp
  have hD := C.append Fd pd st n a (w.alloc X) hA.d hw (by omega)
  obtain ⟨r1, hr1⟩ : ∃ r, r = (st.append n a).1 := ⟨_, rfl⟩
  have HP : Hid (Calls Try.prog 29 #[.pointer (some ⟨pd, 0, none⟩), .int .i64 n, .string a] (w.alloc X) fun e w' =>
      e = .returned (.int .i64 r1) ∧ Two PS B (ext Fd (w.alloc X) w') pd (st.append n a).2 Fr pr st w' ∧ Below B w w' ∧ w'.heap[w.heap.size]? = some X ∧ B ≤ w'.heap.size) := hD.mono (by
    rintro e w' ⟨rfl, hd⟩
    obtain ⟨t, hb⟩ := hA.pdid (by rw [hsA]; omega) hd
    rw [← hr1]
    refine ⟨rfl, t, (hbA.mono hB).trans hb, ?_, by have := hb.size; rw [hsA] at this; omega⟩
    rw [hd.2.block w.heap.size (by rw [hsA]; omega) (fun h' => by have := h.dlo _ h'; omega), heap_alloc_new])
  have HR : Hid (∀ (F : Nat → Prop) wx, Two PS B F pd (st.append n a).2 Fr pr st wx → B ≤ wx.heap.size → Calls Try.prog 56 #[.pointer (some ⟨pr, 0, none⟩), .int .i64 n, .string a] wx fun e w' =>
      e = .returned (.int .i64 r1) ∧ Two PS B F pd (st.append n a).2 (ext Fr wx w') pr (st.append n a).2 w' ∧ Below B wx w') := fun F wx t hBx => by
    obtain ⟨bv, dv, dvs, tr⟩ := t.r
    refine (append_c Fr pr st bv dv dvs n a wx tr hw (by omega)).mono ?_
    rintro e w' ⟨rfl, hd⟩
    rw [← hr1]
    exact ⟨rfl, t.rdid C hBx hd⟩
  clear hD h hA hw hr1
  subst hX
  have b1 : ((r1 : Int) == r1) = true := by simp
  go_enter Try.func43, Try.ntmps43
  go_wp2_with (first
    | (go_at_call 29; refine HP.out.mono ?_; rintro e w1 ⟨rfl, t1, hb1, hk1, hB1⟩; have s2 : w1.cell? ⟨w.heap.size, 2, none⟩ = some (.int .i64 n) := (by rw [Lib.cell_of_heap hk1]; rfl); have s3 : w1.cell? ⟨w.heap.size, 3, none⟩ = some (.string a) := (by rw [Lib.cell_of_heap hk1]; rfl); clear hk1)
    | (go_at_call 56; refine (HR.out _ _ t1 hB1).mono ?_; rintro e w2 ⟨rfl, t2, hb2⟩)
    | (go_at_call 11; refine (HN.out _ _).mono ?_; rintro e w3 ⟨rfl, hw3⟩; subst w3))
  go_ret
  exact ⟨rfl, _, _, t2, hb1.trans hb2⟩
set_option maxHeartbeats 4000000 in
theorem changed3 (C : PC PS) (B : Nat) (Fd : Nat → Prop) (pd : Nat) (Fr : Nat → Prop) (pr : Nat) (st : St) (on n : Int) (a b : ByteArray) (m0 m1 m2 m3 : Int) (ao : Option Addr) (cl cp : Nat) (w : World) (h : Two PS B Fd pd st Fr pr st w) (hw : Wf st) (hB : B ≤ w.heap.size) :
    Calls Try.prog 43 #[.pointer (some ⟨pd, 0, none⟩), .pointer (some ⟨pr, 0, none⟩), .agg #[.int .i64 3, .int .i64 on, .int .i64 n, .string a, .string b, .int .i64 m0, .int .i64 m1, .int .i64 m2, .int .i64 m3, .slice ao cl cp]] w fun e w' =>
      e = .returned (.bool true) ∧ ∃ Fd' Fr', Two PS B Fd' pd (st.sync n).2 Fr' pr (st.sync n).2 w' ∧ Below B w w' := by
  have HN : Hid (∀ (n : Int) w, Calls Try.prog 11 #[.int .i64 n] w fun e w' => e = .returned (.int .i64 n) ∧ w' = w) := fun n w => num_c n w
  obtain ⟨X, hX⟩ : ∃ X, X = Obj.cells #[.int .i64 3, .int .i64 on, .int .i64 n, .string a, .string b, .int .i64 m0, .int .i64 m1, .int .i64 m2, .int .i64 m3, .slice ao cl cp] 30 := ⟨_, rfl⟩
  have hbA : Below w.heap.size w (w.alloc X) := (Below.refl _ w).alloc (Nat.le_refl _) _
  have hA := h.below C hbA
  have hsA : (w.alloc X).heap.size = w.heap.size + 1 := by simp
  have hD := C.sync Fd pd st n (w.alloc X) hA.d hw
  obtain ⟨r1, hr1⟩ : ∃ r, r = (st.sync n).1 := ⟨_, rfl⟩
  have HP : Hid (Calls Try.prog 30 #[.pointer (some ⟨pd, 0, none⟩), .int .i64 n] (w.alloc X) fun e w' =>
      e = .returned (.int .i64 r1) ∧ Two PS B (ext Fd (w.alloc X) w') pd (st.sync n).2 Fr pr st w' ∧ Below B w w' ∧ w'.heap[w.heap.size]? = some X ∧ B ≤ w'.heap.size) := hD.mono (by
    rintro e w' ⟨rfl, hd⟩
    obtain ⟨t, hb⟩ := hA.pdid (by rw [hsA]; omega) hd
    rw [← hr1]
    refine ⟨rfl, t, (hbA.mono hB).trans hb, ?_, by have := hb.size; rw [hsA] at this; omega⟩
    rw [hd.2.block w.heap.size (by rw [hsA]; omega) (fun h' => by have := h.dlo _ h'; omega), heap_alloc_new])
  have HR : Hid (∀ (F : Nat → Prop) wx, Two PS B F pd (st.sync n).2 Fr pr st wx → B ≤ wx.heap.size → Calls Try.prog 57 #[.pointer (some ⟨pr, 0, none⟩), .int .i64 n] wx fun e w' =>
      e = .returned (.int .i64 r1) ∧ Two PS B F pd (st.sync n).2 (ext Fr wx w') pr (st.sync n).2 w' ∧ Below B wx w') := fun F wx t hBx => by
    obtain ⟨bv, dv, dvs, tr⟩ := t.r
    refine (sync_c Fr pr st bv dv dvs n wx tr hw).mono ?_
    rintro e w' ⟨rfl, hd⟩
    rw [← hr1]
    exact ⟨rfl, t.rdid C hBx hd⟩
  clear hD h hA hw hr1
  subst hX
  have b1 : ((r1 : Int) == r1) = true := by simp
  go_enter Try.func43, Try.ntmps43
  go_wp2_with (first
    | (go_at_call 30; refine HP.out.mono ?_; rintro e w1 ⟨rfl, t1, hb1, hk1, hB1⟩; have s2 : w1.cell? ⟨w.heap.size, 2, none⟩ = some (.int .i64 n) := (by rw [Lib.cell_of_heap hk1]; rfl); clear hk1)
    | (go_at_call 57; refine (HR.out _ _ t1 hB1).mono ?_; rintro e w2 ⟨rfl, t2, hb2⟩)
    | (go_at_call 11; refine (HN.out _ _).mono ?_; rintro e w3 ⟨rfl, hw3⟩; subst w3))
  go_ret
  exact ⟨rfl, _, _, t2, hb1.trans hb2⟩
set_option maxHeartbeats 4000000 in
theorem changed4 (C : PC PS) (B : Nat) (Fd : Nat → Prop) (pd : Nat) (Fr : Nat → Prop) (pr : Nat) (st : St) (on n : Int) (a b : ByteArray) (m0 m1 m2 m3 : Int) (ao : Option Addr) (cl cp : Nat) (w : World) (h : Two PS B Fd pd st Fr pr st w) (hw : Wf st) (hB : B ≤ w.heap.size) :
    Calls Try.prog 43 #[.pointer (some ⟨pd, 0, none⟩), .pointer (some ⟨pr, 0, none⟩), .agg #[.int .i64 4, .int .i64 on, .int .i64 n, .string a, .string b, .int .i64 m0, .int .i64 m1, .int .i64 m2, .int .i64 m3, .slice ao cl cp]] w fun e w' =>
      e = .returned (.bool true) ∧ ∃ Fd' Fr', Two PS B Fd' pd st.syncDir Fr' pr st.syncDir w' ∧ Below B w w' := by
  have HN : Hid (∀ (n : Int) w, Calls Try.prog 11 #[.int .i64 n] w fun e w' => e = .returned (.int .i64 n) ∧ w' = w) := fun n w => num_c n w
  obtain ⟨X, hX⟩ : ∃ X, X = Obj.cells #[.int .i64 4, .int .i64 on, .int .i64 n, .string a, .string b, .int .i64 m0, .int .i64 m1, .int .i64 m2, .int .i64 m3, .slice ao cl cp] 30 := ⟨_, rfl⟩
  have hbA : Below w.heap.size w (w.alloc X) := (Below.refl _ w).alloc (Nat.le_refl _) _
  have hA := h.below C hbA
  have hsA : (w.alloc X).heap.size = w.heap.size + 1 := by simp
  have hD := C.syncDir Fd pd st  (w.alloc X) hA.d hw
  have HP : Hid (Calls Try.prog 31 #[.pointer (some ⟨pd, 0, none⟩)] (w.alloc X) fun e w' =>
      e = .returned (.tuple #[]) ∧ Two PS B (ext Fd (w.alloc X) w') pd st.syncDir Fr pr st w' ∧ Below B w w' ∧ w'.heap[w.heap.size]? = some X ∧ B ≤ w'.heap.size) := hD.mono (by
    rintro e w' ⟨rfl, hd⟩
    obtain ⟨t, hb⟩ := hA.pdid (by rw [hsA]; omega) hd
    refine ⟨rfl, t, (hbA.mono hB).trans hb, ?_, by have := hb.size; rw [hsA] at this; omega⟩
    rw [hd.2.block w.heap.size (by rw [hsA]; omega) (fun h' => by have := h.dlo _ h'; omega), heap_alloc_new])
  have HR : Hid (∀ (F : Nat → Prop) wx, Two PS B F pd st.syncDir Fr pr st wx → B ≤ wx.heap.size → Calls Try.prog 58 #[.pointer (some ⟨pr, 0, none⟩)] wx fun e w' =>
      e = .returned (.tuple #[]) ∧ Two PS B F pd st.syncDir (ext Fr wx w') pr st.syncDir w' ∧ Below B wx w') := fun F wx t hBx => by
    obtain ⟨bv, dv, dvs, tr⟩ := t.r
    refine (syncDir_c Fr pr st bv dv dvs wx tr hw).mono ?_
    rintro e w' ⟨rfl, hd⟩
    exact ⟨rfl, t.rdid C hBx hd⟩
  clear hD h hA hw
  subst hX
  go_enter Try.func43, Try.ntmps43
  go_wp2_with (first
    | (go_at_call 31; refine HP.out.mono ?_; rintro e w1 ⟨rfl, t1, hb1, hk1, hB1⟩; clear hk1)
    | (go_at_call 58; refine (HR.out _ _ t1 hB1).mono ?_; rintro e w2 ⟨rfl, t2, hb2⟩)
    | (go_at_call 11; refine (HN.out _ _).mono ?_; rintro e w3 ⟨rfl, hw3⟩; subst w3))
  go_ret
  exact ⟨rfl, _, _, t2, hb1.trans hb2⟩
set_option maxHeartbeats 4000000 in
theorem changed5 (C : PC PS) (B : Nat) (Fd : Nat → Prop) (pd : Nat) (Fr : Nat → Prop) (pr : Nat) (st : St) (on n : Int) (a b : ByteArray) (m0 m1 m2 m3 : Int) (ao : Option Addr) (cl cp : Nat) (w : World) (h : Two PS B Fd pd st Fr pr st w) (hw : Wf st) (hB : B ≤ w.heap.size) :
    Calls Try.prog 43 #[.pointer (some ⟨pd, 0, none⟩), .pointer (some ⟨pr, 0, none⟩), .agg #[.int .i64 5, .int .i64 on, .int .i64 n, .string a, .string b, .int .i64 m0, .int .i64 m1, .int .i64 m2, .int .i64 m3, .slice ao cl cp]] w fun e w' =>
      e = .returned (.bool true) ∧ ∃ Fd' Fr', Two PS B Fd' pd (st.rename a b).2 Fr' pr (st.rename a b).2 w' ∧ Below B w w' := by
  have HN : Hid (∀ (n : Int) w, Calls Try.prog 11 #[.int .i64 n] w fun e w' => e = .returned (.int .i64 n) ∧ w' = w) := fun n w => num_c n w
  obtain ⟨X, hX⟩ : ∃ X, X = Obj.cells #[.int .i64 5, .int .i64 on, .int .i64 n, .string a, .string b, .int .i64 m0, .int .i64 m1, .int .i64 m2, .int .i64 m3, .slice ao cl cp] 30 := ⟨_, rfl⟩
  have hbA : Below w.heap.size w (w.alloc X) := (Below.refl _ w).alloc (Nat.le_refl _) _
  have hA := h.below C hbA
  have hsA : (w.alloc X).heap.size = w.heap.size + 1 := by simp
  have hD := C.rename Fd pd st a b (w.alloc X) hA.d hw
  obtain ⟨r1, hr1⟩ : ∃ r, r = (st.rename a b).1 := ⟨_, rfl⟩
  have HP : Hid (Calls Try.prog 32 #[.pointer (some ⟨pd, 0, none⟩), .string a, .string b] (w.alloc X) fun e w' =>
      e = .returned (.int .i64 r1) ∧ Two PS B (ext Fd (w.alloc X) w') pd (st.rename a b).2 Fr pr st w' ∧ Below B w w' ∧ w'.heap[w.heap.size]? = some X ∧ B ≤ w'.heap.size) := hD.mono (by
    rintro e w' ⟨rfl, hd⟩
    obtain ⟨t, hb⟩ := hA.pdid (by rw [hsA]; omega) hd
    rw [← hr1]
    refine ⟨rfl, t, (hbA.mono hB).trans hb, ?_, by have := hb.size; rw [hsA] at this; omega⟩
    rw [hd.2.block w.heap.size (by rw [hsA]; omega) (fun h' => by have := h.dlo _ h'; omega), heap_alloc_new])
  have HR : Hid (∀ (F : Nat → Prop) wx, Two PS B F pd (st.rename a b).2 Fr pr st wx → B ≤ wx.heap.size → Calls Try.prog 59 #[.pointer (some ⟨pr, 0, none⟩), .string a, .string b] wx fun e w' =>
      e = .returned (.int .i64 r1) ∧ Two PS B F pd (st.rename a b).2 (ext Fr wx w') pr (st.rename a b).2 w' ∧ Below B wx w') := fun F wx t hBx => by
    obtain ⟨bv, dv, dvs, tr⟩ := t.r
    refine (rename_c Fr pr st bv dv dvs a b wx tr hw).mono ?_
    rintro e w' ⟨rfl, hd⟩
    rw [← hr1]
    exact ⟨rfl, t.rdid C hBx hd⟩
  clear hD h hA hw hr1
  subst hX
  have b1 : ((r1 : Int) == r1) = true := by simp
  go_enter Try.func43, Try.ntmps43
  go_wp2_with (first
    | (go_at_call 32; refine HP.out.mono ?_; rintro e w1 ⟨rfl, t1, hb1, hk1, hB1⟩; have s3 : w1.cell? ⟨w.heap.size, 3, none⟩ = some (.string a) := (by rw [Lib.cell_of_heap hk1]; rfl); have s4 : w1.cell? ⟨w.heap.size, 4, none⟩ = some (.string b) := (by rw [Lib.cell_of_heap hk1]; rfl); clear hk1)
    | (go_at_call 59; refine (HR.out _ _ t1 hB1).mono ?_; rintro e w2 ⟨rfl, t2, hb2⟩)
    | (go_at_call 11; refine (HN.out _ _).mono ?_; rintro e w3 ⟨rfl, hw3⟩; subst w3))
  go_ret
  exact ⟨rfl, _, _, t2, hb1.trans hb2⟩
set_option maxHeartbeats 4000000 in
theorem changed6 (C : PC PS) (B : Nat) (Fd : Nat → Prop) (pd : Nat) (Fr : Nat → Prop) (pr : Nat) (st : St) (on n : Int) (a b : ByteArray) (m0 m1 m2 m3 : Int) (ao : Option Addr) (cl cp : Nat) (w : World) (h : Two PS B Fd pd st Fr pr st w) (hw : Wf st) (hB : B ≤ w.heap.size) :
    Calls Try.prog 43 #[.pointer (some ⟨pd, 0, none⟩), .pointer (some ⟨pr, 0, none⟩), .agg #[.int .i64 6, .int .i64 on, .int .i64 n, .string a, .string b, .int .i64 m0, .int .i64 m1, .int .i64 m2, .int .i64 m3, .slice ao cl cp]] w fun e w' =>
      e = .returned (.bool true) ∧ ∃ Fd' Fr', Two PS B Fd' pd (st.remove a).2 Fr' pr (st.remove a).2 w' ∧ Below B w w' := by
  have HN : Hid (∀ (n : Int) w, Calls Try.prog 11 #[.int .i64 n] w fun e w' => e = .returned (.int .i64 n) ∧ w' = w) := fun n w => num_c n w
  obtain ⟨X, hX⟩ : ∃ X, X = Obj.cells #[.int .i64 6, .int .i64 on, .int .i64 n, .string a, .string b, .int .i64 m0, .int .i64 m1, .int .i64 m2, .int .i64 m3, .slice ao cl cp] 30 := ⟨_, rfl⟩
  have hbA : Below w.heap.size w (w.alloc X) := (Below.refl _ w).alloc (Nat.le_refl _) _
  have hA := h.below C hbA
  have hsA : (w.alloc X).heap.size = w.heap.size + 1 := by simp
  have hD := C.remove Fd pd st a (w.alloc X) hA.d hw
  obtain ⟨r1, hr1⟩ : ∃ r, r = (st.remove a).1 := ⟨_, rfl⟩
  have HP : Hid (Calls Try.prog 33 #[.pointer (some ⟨pd, 0, none⟩), .string a] (w.alloc X) fun e w' =>
      e = .returned (.int .i64 r1) ∧ Two PS B (ext Fd (w.alloc X) w') pd (st.remove a).2 Fr pr st w' ∧ Below B w w' ∧ w'.heap[w.heap.size]? = some X ∧ B ≤ w'.heap.size) := hD.mono (by
    rintro e w' ⟨rfl, hd⟩
    obtain ⟨t, hb⟩ := hA.pdid (by rw [hsA]; omega) hd
    rw [← hr1]
    refine ⟨rfl, t, (hbA.mono hB).trans hb, ?_, by have := hb.size; rw [hsA] at this; omega⟩
    rw [hd.2.block w.heap.size (by rw [hsA]; omega) (fun h' => by have := h.dlo _ h'; omega), heap_alloc_new])
  have HR : Hid (∀ (F : Nat → Prop) wx, Two PS B F pd (st.remove a).2 Fr pr st wx → B ≤ wx.heap.size → Calls Try.prog 60 #[.pointer (some ⟨pr, 0, none⟩), .string a] wx fun e w' =>
      e = .returned (.int .i64 r1) ∧ Two PS B F pd (st.remove a).2 (ext Fr wx w') pr (st.remove a).2 w' ∧ Below B wx w') := fun F wx t hBx => by
    obtain ⟨bv, dv, dvs, tr⟩ := t.r
    refine (remove_c Fr pr st bv dv dvs a wx tr hw).mono ?_
    rintro e w' ⟨rfl, hd⟩
    rw [← hr1]
    exact ⟨rfl, t.rdid C hBx hd⟩
  clear hD h hA hw hr1
  subst hX
  have b1 : ((r1 : Int) == r1) = true := by simp
  go_enter Try.func43, Try.ntmps43
  go_wp2_with (first
    | (go_at_call 33; refine HP.out.mono ?_; rintro e w1 ⟨rfl, t1, hb1, hk1, hB1⟩; have s3 : w1.cell? ⟨w.heap.size, 3, none⟩ = some (.string a) := (by rw [Lib.cell_of_heap hk1]; rfl); clear hk1)
    | (go_at_call 60; refine (HR.out _ _ t1 hB1).mono ?_; rintro e w2 ⟨rfl, t2, hb2⟩)
    | (go_at_call 11; refine (HN.out _ _).mono ?_; rintro e w3 ⟨rfl, hw3⟩; subst w3))
  go_ret
  exact ⟨rfl, _, _, t2, hb1.trans hb2⟩
end Go.Proofs.Ytodjgbmfmpbkjab
