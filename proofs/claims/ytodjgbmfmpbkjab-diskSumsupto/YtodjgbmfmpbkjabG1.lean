
-- The program's volume alone: one call of a script, and a volume that is started.
import Derived.Test.YtodjgbmfmpbkjabE2
namespace Go.Proofs.Ytodjgbmfmpbkjab
open Go.RowKit
set_option linter.unusedVariables false
variable {PS : (Nat → Prop) → Nat → St → World → Prop}
/-- The program's volume, in blocks from B on. -/
structure One (PS : (Nat → Prop) → Nat → St → World → Prop) (B : Nat) (F : Nat → Prop) (p : Nat) (st : St) (w : World) : Prop where
  d : PS F p st w
  lo : ∀ k, F k → B ≤ k ∧ k < w.heap.size
theorem One.below (C : PC PS) {B : Nat} {F : Nat → Prop} {p : Nat} {st : St} {w w' : World} (h : One PS B F p st w) (hb : Below w.heap.size w w') : One PS B F p st w' :=
  ⟨C.below h.d hb, fun k hk => by have := h.lo k hk; have := hb.size; omega⟩
theorem One.did {B : Nat} {F : Nat → Prop} {p : Nat} {st st' : St} {w w' : World} (h : One PS B F p st w) (hB : B ≤ w.heap.size) (hd : PDid PS F p st' w w') : One PS B (ext F w w') p st' w' ∧ Below B w w' := by
  have hs := hd.2.size
  refine ⟨⟨hd.1, fun k hk => ?_⟩, hd.2.below (fun k hk => (h.lo k hk).1) hB⟩
  rcases hk with hk | hk
  · have := h.lo k hk; omega
  · omega
theorem One.ask {B : Nat} {F : Nat → Prop} {p : Nat} {st : St} {w w' : World} (h : One PS B F p st w) (hB : B ≤ w.heap.size) (hd : PS F p st w' ∧ Kp F w w') : One PS B F p st w' ∧ Below B w w' :=
  ⟨⟨hd.1, fun k hk => by have := h.lo k hk; have := hd.2.size; omega⟩, hd.2.below (fun k hk => (h.lo k hk).1) hB⟩
/-- What a call answers: the error's number. -/
def St.err (st : St) (o : Opx) : Nat :=
  if o.kind = 1 then (st.create o.a o.m0 o.m1 o.m2 o.m3).1.2
  else if o.kind = 2 then (st.append o.n o.a).1
  else if o.kind = 3 then (st.sync o.n).1
  else if o.kind = 5 then (st.rename o.a o.b).1
  else if o.kind = 6 then (st.remove o.a).1
  else 0
set_option maxHeartbeats 4000000 in
theorem do1 (C : PC PS) (B : Nat) (F : Nat → Prop) (p : Nat) (st : St) (on n : Int) (a b : ByteArray) (m0 m1 m2 m3 : Int) (ao : Option Addr) (cl cp : Nat) (w : World) (h : One PS B F p st w) (hw : Wf st) (hB : B ≤ w.heap.size) :
    Calls Try.prog 13 #[.pointer (some ⟨p, 0, none⟩), .agg #[.int .i64 1, .int .i64 on, .int .i64 n, .string a, .string b, .int .i64 m0, .int .i64 m1, .int .i64 m2, .int .i64 m3, .slice ao cl cp]] w fun e w' =>
      e = .returned (.int .i64 ((st.create a m0 m1 m2 m3).1.2 : Nat)) ∧ ∃ F', One PS B F' p (st.create a m0 m1 m2 m3).2 w' ∧ Below B w w' := by
  have HN : Hid (∀ (n : Int) w, Calls Try.prog 11 #[.int .i64 n] w fun e w' => e = .returned (.int .i64 n) ∧ w' = w) := fun n w => num_c n w
  obtain ⟨X, hX⟩ : ∃ X, X = Obj.cells #[.int .i64 1, .int .i64 on, .int .i64 n, .string a, .string b, .int .i64 m0, .int .i64 m1, .int .i64 m2, .int .i64 m3, .slice ao cl cp] 30 := ⟨_, rfl⟩
  have hbA : Below w.heap.size w (w.alloc X) := (Below.refl _ w).alloc (Nat.le_refl _) _
  have hA := h.below C hbA
  have hsA : (w.alloc X).heap.size = w.heap.size + 1 := by simp
  have hD := C.create F p st a m0 m1 m2 m3 (w.alloc X) hA.d hw
  obtain ⟨r1, hr1⟩ : ∃ r, r = (st.create a m0 m1 m2 m3).1.1 := ⟨_, rfl⟩
  obtain ⟨r2, hr2⟩ : ∃ r, r = (st.create a m0 m1 m2 m3).1.2 := ⟨_, rfl⟩
  have HP : Hid (Calls Try.prog 10 #[.pointer (some ⟨p, 0, none⟩), .string a, .agg #[.int .i64 m0, .int .i64 m1, .int .i64 m2, .int .i64 m3]] (w.alloc X) fun e w' =>
      e = .returned (.tuple #[.int .i64 r1, .int .i64 r2]) ∧ One PS B (ext F (w.alloc X) w') p (st.create a m0 m1 m2 m3).2 w' ∧ Below B w w') := hD.mono (by
    rintro e w' ⟨rfl, hd⟩
    obtain ⟨t, hb⟩ := hA.did (by rw [hsA]; omega) hd
    rw [← hr1, ← hr2]
    exact ⟨rfl, t, (hbA.mono hB).trans hb⟩)
  rw [← hr2]
  clear hD h hA hw hr1 hr2
  subst hX
  go_enter Try.func13, Try.ntmps13
  go_wp2_with (first
    | (go_at_call 10; refine HP.out.mono ?_; rintro e w1 ⟨rfl, t1, hb1⟩)
    | (go_at_call 11; refine (HN.out _ _).mono ?_; rintro e w3 ⟨rfl, hw3⟩; subst w3))
  go_ret
  exact ⟨rfl, _, t1, hb1⟩
set_option maxHeartbeats 4000000 in
theorem do2 (C : PC PS) (B : Nat) (F : Nat → Prop) (p : Nat) (st : St) (on n : Int) (a b : ByteArray) (m0 m1 m2 m3 : Int) (ao : Option Addr) (cl cp : Nat) (w : World) (h : One PS B F p st w) (hw : Wf st) (hB : B ≤ w.heap.size) (ha : a.size ≤ 2097152) :
    Calls Try.prog 13 #[.pointer (some ⟨p, 0, none⟩), .agg #[.int .i64 2, .int .i64 on, .int .i64 n, .string a, .string b, .int .i64 m0, .int .i64 m1, .int .i64 m2, .int .i64 m3, .slice ao cl cp]] w fun e w' =>
      e = .returned (.int .i64 ((st.append n a).1 : Nat)) ∧ ∃ F', One PS B F' p (st.append n a).2 w' ∧ Below B w w' := by
  have HN : Hid (∀ (n : Int) w, Calls Try.prog 11 #[.int .i64 n] w fun e w' => e = .returned (.int .i64 n) ∧ w' = w) := fun n w => num_c n w
  obtain ⟨X, hX⟩ : ∃ X, X = Obj.cells #[.int .i64 2, .int .i64 on, .int .i64 n, .string a, .string b, .int .i64 m0, .int .i64 m1, .int .i64 m2, .int .i64 m3, .slice ao cl cp] 30 := ⟨_, rfl⟩
  have hbA : Below w.heap.size w (w.alloc X) := (Below.refl _ w).alloc (Nat.le_refl _) _
  have hA := h.below C hbA
  have hsA : (w.alloc X).heap.size = w.heap.size + 1 := by simp
  have hD := C.append F p st n a (w.alloc X) hA.d hw (by omega)
  obtain ⟨r2, hr2⟩ : ∃ r, r = (st.append n a).1 := ⟨_, rfl⟩
  have HP : Hid (Calls Try.prog 29 #[.pointer (some ⟨p, 0, none⟩), .int .i64 n, .string a] (w.alloc X) fun e w' =>
      e = .returned (.int .i64 r2) ∧ One PS B (ext F (w.alloc X) w') p (st.append n a).2 w' ∧ Below B w w') := hD.mono (by
    rintro e w' ⟨rfl, hd⟩
    obtain ⟨t, hb⟩ := hA.did (by rw [hsA]; omega) hd
    rw [← hr2]
    exact ⟨rfl, t, (hbA.mono hB).trans hb⟩)
  rw [← hr2]
  clear hD h hA hw hr2
  subst hX
  go_enter Try.func13, Try.ntmps13
  go_wp2_with (first
    | (go_at_call 29; refine HP.out.mono ?_; rintro e w1 ⟨rfl, t1, hb1⟩)
    | (go_at_call 11; refine (HN.out _ _).mono ?_; rintro e w3 ⟨rfl, hw3⟩; subst w3))
  go_ret
  exact ⟨rfl, _, t1, hb1⟩
set_option maxHeartbeats 4000000 in
theorem do3 (C : PC PS) (B : Nat) (F : Nat → Prop) (p : Nat) (st : St) (on n : Int) (a b : ByteArray) (m0 m1 m2 m3 : Int) (ao : Option Addr) (cl cp : Nat) (w : World) (h : One PS B F p st w) (hw : Wf st) (hB : B ≤ w.heap.size) :
    Calls Try.prog 13 #[.pointer (some ⟨p, 0, none⟩), .agg #[.int .i64 3, .int .i64 on, .int .i64 n, .string a, .string b, .int .i64 m0, .int .i64 m1, .int .i64 m2, .int .i64 m3, .slice ao cl cp]] w fun e w' =>
      e = .returned (.int .i64 ((st.sync n).1 : Nat)) ∧ ∃ F', One PS B F' p (st.sync n).2 w' ∧ Below B w w' := by
  have HN : Hid (∀ (n : Int) w, Calls Try.prog 11 #[.int .i64 n] w fun e w' => e = .returned (.int .i64 n) ∧ w' = w) := fun n w => num_c n w
  obtain ⟨X, hX⟩ : ∃ X, X = Obj.cells #[.int .i64 3, .int .i64 on, .int .i64 n, .string a, .string b, .int .i64 m0, .int .i64 m1, .int .i64 m2, .int .i64 m3, .slice ao cl cp] 30 := ⟨_, rfl⟩
  have hbA : Below w.heap.size w (w.alloc X) := (Below.refl _ w).alloc (Nat.le_refl _) _
  have hA := h.below C hbA
  have hsA : (w.alloc X).heap.size = w.heap.size + 1 := by simp
  have hD := C.sync F p st n (w.alloc X) hA.d hw
  obtain ⟨r2, hr2⟩ : ∃ r, r = (st.sync n).1 := ⟨_, rfl⟩
  have HP : Hid (Calls Try.prog 30 #[.pointer (some ⟨p, 0, none⟩), .int .i64 n] (w.alloc X) fun e w' =>
      e = .returned (.int .i64 r2) ∧ One PS B (ext F (w.alloc X) w') p (st.sync n).2 w' ∧ Below B w w') := hD.mono (by
    rintro e w' ⟨rfl, hd⟩
    obtain ⟨t, hb⟩ := hA.did (by rw [hsA]; omega) hd
    rw [← hr2]
    exact ⟨rfl, t, (hbA.mono hB).trans hb⟩)
  rw [← hr2]
  clear hD h hA hw hr2
  subst hX
  go_enter Try.func13, Try.ntmps13
  go_wp2_with (first
    | (go_at_call 30; refine HP.out.mono ?_; rintro e w1 ⟨rfl, t1, hb1⟩)
    | (go_at_call 11; refine (HN.out _ _).mono ?_; rintro e w3 ⟨rfl, hw3⟩; subst w3))
  go_ret
  exact ⟨rfl, _, t1, hb1⟩
set_option maxHeartbeats 4000000 in
theorem do4 (C : PC PS) (B : Nat) (F : Nat → Prop) (p : Nat) (st : St) (on n : Int) (a b : ByteArray) (m0 m1 m2 m3 : Int) (ao : Option Addr) (cl cp : Nat) (w : World) (h : One PS B F p st w) (hw : Wf st) (hB : B ≤ w.heap.size) :
    Calls Try.prog 13 #[.pointer (some ⟨p, 0, none⟩), .agg #[.int .i64 4, .int .i64 on, .int .i64 n, .string a, .string b, .int .i64 m0, .int .i64 m1, .int .i64 m2, .int .i64 m3, .slice ao cl cp]] w fun e w' =>
      e = .returned (.int .i64 (0 : Nat)) ∧ ∃ F', One PS B F' p st.syncDir w' ∧ Below B w w' := by
  have HN : Hid (∀ (n : Int) w, Calls Try.prog 11 #[.int .i64 n] w fun e w' => e = .returned (.int .i64 n) ∧ w' = w) := fun n w => num_c n w
  obtain ⟨X, hX⟩ : ∃ X, X = Obj.cells #[.int .i64 4, .int .i64 on, .int .i64 n, .string a, .string b, .int .i64 m0, .int .i64 m1, .int .i64 m2, .int .i64 m3, .slice ao cl cp] 30 := ⟨_, rfl⟩
  have hbA : Below w.heap.size w (w.alloc X) := (Below.refl _ w).alloc (Nat.le_refl _) _
  have hA := h.below C hbA
  have hsA : (w.alloc X).heap.size = w.heap.size + 1 := by simp
  have hD := C.syncDir F p st (w.alloc X) hA.d hw
  have HP : Hid (Calls Try.prog 31 #[.pointer (some ⟨p, 0, none⟩)] (w.alloc X) fun e w' =>
      e = .returned (.tuple #[]) ∧ One PS B (ext F (w.alloc X) w') p st.syncDir w' ∧ Below B w w') := hD.mono (by
    rintro e w' ⟨rfl, hd⟩
    obtain ⟨t, hb⟩ := hA.did (by rw [hsA]; omega) hd
    exact ⟨rfl, t, (hbA.mono hB).trans hb⟩)
  clear hD h hA hw
  subst hX
  go_enter Try.func13, Try.ntmps13
  go_wp2_with (first
    | (go_at_call 31; refine HP.out.mono ?_; rintro e w1 ⟨rfl, t1, hb1⟩)
    | (go_at_call 11; refine (HN.out _ _).mono ?_; rintro e w3 ⟨rfl, hw3⟩; subst w3))
  go_ret
  exact ⟨rfl, _, t1, hb1⟩
set_option maxHeartbeats 4000000 in
theorem do5 (C : PC PS) (B : Nat) (F : Nat → Prop) (p : Nat) (st : St) (on n : Int) (a b : ByteArray) (m0 m1 m2 m3 : Int) (ao : Option Addr) (cl cp : Nat) (w : World) (h : One PS B F p st w) (hw : Wf st) (hB : B ≤ w.heap.size) :
    Calls Try.prog 13 #[.pointer (some ⟨p, 0, none⟩), .agg #[.int .i64 5, .int .i64 on, .int .i64 n, .string a, .string b, .int .i64 m0, .int .i64 m1, .int .i64 m2, .int .i64 m3, .slice ao cl cp]] w fun e w' =>
      e = .returned (.int .i64 ((st.rename a b).1 : Nat)) ∧ ∃ F', One PS B F' p (st.rename a b).2 w' ∧ Below B w w' := by
  have HN : Hid (∀ (n : Int) w, Calls Try.prog 11 #[.int .i64 n] w fun e w' => e = .returned (.int .i64 n) ∧ w' = w) := fun n w => num_c n w
  obtain ⟨X, hX⟩ : ∃ X, X = Obj.cells #[.int .i64 5, .int .i64 on, .int .i64 n, .string a, .string b, .int .i64 m0, .int .i64 m1, .int .i64 m2, .int .i64 m3, .slice ao cl cp] 30 := ⟨_, rfl⟩
  have hbA : Below w.heap.size w (w.alloc X) := (Below.refl _ w).alloc (Nat.le_refl _) _
  have hA := h.below C hbA
  have hsA : (w.alloc X).heap.size = w.heap.size + 1 := by simp
  have hD := C.rename F p st a b (w.alloc X) hA.d hw
  obtain ⟨r2, hr2⟩ : ∃ r, r = (st.rename a b).1 := ⟨_, rfl⟩
  have HP : Hid (Calls Try.prog 32 #[.pointer (some ⟨p, 0, none⟩), .string a, .string b] (w.alloc X) fun e w' =>
      e = .returned (.int .i64 r2) ∧ One PS B (ext F (w.alloc X) w') p (st.rename a b).2 w' ∧ Below B w w') := hD.mono (by
    rintro e w' ⟨rfl, hd⟩
    obtain ⟨t, hb⟩ := hA.did (by rw [hsA]; omega) hd
    rw [← hr2]
    exact ⟨rfl, t, (hbA.mono hB).trans hb⟩)
  rw [← hr2]
  clear hD h hA hw hr2
  subst hX
  go_enter Try.func13, Try.ntmps13
  go_wp2_with (first
    | (go_at_call 32; refine HP.out.mono ?_; rintro e w1 ⟨rfl, t1, hb1⟩)
    | (go_at_call 11; refine (HN.out _ _).mono ?_; rintro e w3 ⟨rfl, hw3⟩; subst w3))
  go_ret
  exact ⟨rfl, _, t1, hb1⟩
set_option maxHeartbeats 4000000 in
theorem do6 (C : PC PS) (B : Nat) (F : Nat → Prop) (p : Nat) (st : St) (on n : Int) (a b : ByteArray) (m0 m1 m2 m3 : Int) (ao : Option Addr) (cl cp : Nat) (w : World) (h : One PS B F p st w) (hw : Wf st) (hB : B ≤ w.heap.size) :
    Calls Try.prog 13 #[.pointer (some ⟨p, 0, none⟩), .agg #[.int .i64 6, .int .i64 on, .int .i64 n, .string a, .string b, .int .i64 m0, .int .i64 m1, .int .i64 m2, .int .i64 m3, .slice ao cl cp]] w fun e w' =>
      e = .returned (.int .i64 ((st.remove a).1 : Nat)) ∧ ∃ F', One PS B F' p (st.remove a).2 w' ∧ Below B w w' := by
  have HN : Hid (∀ (n : Int) w, Calls Try.prog 11 #[.int .i64 n] w fun e w' => e = .returned (.int .i64 n) ∧ w' = w) := fun n w => num_c n w
  obtain ⟨X, hX⟩ : ∃ X, X = Obj.cells #[.int .i64 6, .int .i64 on, .int .i64 n, .string a, .string b, .int .i64 m0, .int .i64 m1, .int .i64 m2, .int .i64 m3, .slice ao cl cp] 30 := ⟨_, rfl⟩
  have hbA : Below w.heap.size w (w.alloc X) := (Below.refl _ w).alloc (Nat.le_refl _) _
  have hA := h.below C hbA
  have hsA : (w.alloc X).heap.size = w.heap.size + 1 := by simp
  have hD := C.remove F p st a (w.alloc X) hA.d hw
  obtain ⟨r2, hr2⟩ : ∃ r, r = (st.remove a).1 := ⟨_, rfl⟩
  have HP : Hid (Calls Try.prog 33 #[.pointer (some ⟨p, 0, none⟩), .string a] (w.alloc X) fun e w' =>
      e = .returned (.int .i64 r2) ∧ One PS B (ext F (w.alloc X) w') p (st.remove a).2 w' ∧ Below B w w') := hD.mono (by
    rintro e w' ⟨rfl, hd⟩
    obtain ⟨t, hb⟩ := hA.did (by rw [hsA]; omega) hd
    rw [← hr2]
    exact ⟨rfl, t, (hbA.mono hB).trans hb⟩)
  rw [← hr2]
  clear hD h hA hw hr2
  subst hX
  go_enter Try.func13, Try.ntmps13
  go_wp2_with (first
    | (go_at_call 33; refine HP.out.mono ?_; rintro e w1 ⟨rfl, t1, hb1⟩)
    | (go_at_call 11; refine (HN.out _ _).mono ?_; rintro e w3 ⟨rfl, hw3⟩; subst w3))
  go_ret
  exact ⟨rfl, _, t1, hb1⟩
set_option maxHeartbeats 4000000 in
theorem do7 (C : PC PS) (B : Nat) (F : Nat → Prop) (p : Nat) (st : St) (on n : Int) (a b : ByteArray) (m0 m1 m2 m3 : Int) (ao : Option Addr) (cl cp : Nat) (w : World) (h : One PS B F p st w) (hw : Wf st) (hB : B ≤ w.heap.size) (cuts : List Int) (hri : RowI w (.slice ao cl cp) cuts) (hlo : cuts ≠ [] → ∀ k, (Value.slice ao cl cp).ownBlock = some k → k < B) (hcl : cuts.length ≤ 2097152) :
    Calls Try.prog 13 #[.pointer (some ⟨p, 0, none⟩), .agg #[.int .i64 7, .int .i64 on, .int .i64 n, .string a, .string b, .int .i64 m0, .int .i64 m1, .int .i64 m2, .int .i64 m3, .slice ao cl cp]] w fun e w' =>
      e = .returned (.int .i64 (0 : Nat)) ∧ ∃ F', One PS B F' p (st.crash n cuts) w' ∧ Below B w w' := by
  have HN : Hid (∀ (n : Int) w, Calls Try.prog 11 #[.int .i64 n] w fun e w' => e = .returned (.int .i64 n) ∧ w' = w) := fun n w => num_c n w
  obtain ⟨X, hX⟩ : ∃ X, X = Obj.cells #[.int .i64 7, .int .i64 on, .int .i64 n, .string a, .string b, .int .i64 m0, .int .i64 m1, .int .i64 m2, .int .i64 m3, .slice ao cl cp] 30 := ⟨_, rfl⟩
  have hbA : Below w.heap.size w (w.alloc X) := (Below.refl _ w).alloc (Nat.le_refl _) _
  have hA := h.below C hbA
  have hsA : (w.alloc X).heap.size = w.heap.size + 1 := by simp
  have hD := C.crash F p st n (.slice ao cl cp) cuts (w.alloc X) hA.d hw (hri.below (hbA.mono hB) hlo) (fun hne k hk hF => by have := hlo hne k hk; have := h.lo k hF; omega) (by omega)
  have HP : Hid (Calls Try.prog 34 #[.pointer (some ⟨p, 0, none⟩), .int .i64 n, .slice ao cl cp] (w.alloc X) fun e w' =>
      e = .returned (.tuple #[]) ∧ One PS B (ext F (w.alloc X) w') p (st.crash n cuts) w' ∧ Below B w w') := hD.mono (by
    rintro e w' ⟨rfl, hd⟩
    obtain ⟨t, hb⟩ := hA.did (by rw [hsA]; omega) hd
    exact ⟨rfl, t, (hbA.mono hB).trans hb⟩)
  clear hD h hA hw hri hlo
  subst hX
  go_enter Try.func13, Try.ntmps13
  go_wp2_with (first
    | (go_at_call 34; refine HP.out.mono ?_; rintro e w1 ⟨rfl, t1, hb1⟩)
    | (go_at_call 11; refine (HN.out _ _).mono ?_; rintro e w3 ⟨rfl, hw3⟩; subst w3))
  go_ret
  exact ⟨rfl, _, t1, hb1⟩
set_option maxHeartbeats 4000000 in
theorem do0 (C : PC PS) (B : Nat) (F : Nat → Prop) (p : Nat) (st : St) (kind on n : Int) (a b : ByteArray) (m0 m1 m2 m3 : Int) (ao : Option Addr) (cl cp : Nat) (w : World) (h : One PS B F p st w) (hB : B ≤ w.heap.size) (hk : kind < 1 ∨ 7 < kind) :
    Calls Try.prog 13 #[.pointer (some ⟨p, 0, none⟩), .agg #[.int .i64 kind, .int .i64 on, .int .i64 n, .string a, .string b, .int .i64 m0, .int .i64 m1, .int .i64 m2, .int .i64 m3, .slice ao cl cp]] w fun e w' =>
      e = .returned (.int .i64 (0 : Nat)) ∧ ∃ F', One PS B F' p st w' ∧ Below B w w' := by
  have k1 : (kind == 1) = false := by simp; omega
  have k2 : (kind == 2) = false := by simp; omega
  have k3 : (kind == 3) = false := by simp; omega
  have k4 : (kind == 4) = false := by simp; omega
  have k5 : (kind == 5) = false := by simp; omega
  have k6 : (kind == 6) = false := by simp; omega
  have k7 : (kind == 7) = false := by simp; omega
  have HT : Hid (One PS B F p st w) := h
  clear h
  go_enter Try.func13, Try.ntmps13
  go_wp2
  go_ret
  exact ⟨rfl, F, HT.out.below C ((Below.refl _ w).alloc (Nat.le_refl _) _), (Below.refl _ w).alloc hB _⟩
theorem do_c (C : PC PS) (B : Nat) (F : Nat → Prop) (p : Nat) (st : St) (o : Opx) (w : World) (h : One PS B F p st w) (hw : Wf st) (hB : B ≤ w.heap.size) (ho : OpOk B o w) :
    Calls Try.prog 13 #[.pointer (some ⟨p, 0, none⟩), o.v] w fun e w' => e = .returned (.int .i64 (st.err o)) ∧ ∃ F', One PS B F' p (st.step o) w' ∧ Below B w w' := by
  obtain ⟨ao, cl, cp, hcv⟩ := ho.slice
  obtain ⟨hrow, hlow, hfew, hsmall⟩ := ho
  obtain ⟨kind, on, n, a, b, m0, m1, m2, m3, cv, cuts⟩ := o
  simp only at hcv hrow hlow hfew hsmall
  subst hcv
  have hc : kind = 1 ∨ kind = 2 ∨ kind = 3 ∨ kind = 4 ∨ kind = 5 ∨ kind = 6 ∨ kind = 7 ∨ (kind < 1 ∨ 7 < kind) := by omega
  rcases hc with rfl | rfl | rfl | rfl | rfl | rfl | rfl | hk
  · exact do1 C B F p st on n a b m0 m1 m2 m3 ao cl cp w h hw hB
  · exact do2 C B F p st on n a b m0 m1 m2 m3 ao cl cp w h hw hB hsmall
  · exact do3 C B F p st on n a b m0 m1 m2 m3 ao cl cp w h hw hB
  · exact do4 C B F p st on n a b m0 m1 m2 m3 ao cl cp w h hw hB
  · exact do5 C B F p st on n a b m0 m1 m2 m3 ao cl cp w h hw hB
  · exact do6 C B F p st on n a b m0 m1 m2 m3 ao cl cp w h hw hB
  · exact do7 C B F p st on n a b m0 m1 m2 m3 ao cl cp w h hw hB cuts hrow hlow hfew
  · have e1 : st.err ⟨kind, on, n, a, b, m0, m1, m2, m3, .slice ao cl cp, cuts⟩ = 0 := by
      unfold St.err
      simp only
      rw [if_neg (by omega), if_neg (by omega), if_neg (by omega), if_neg (by omega), if_neg (by omega)]
    have e2 : st.step ⟨kind, on, n, a, b, m0, m1, m2, m3, .slice ao cl cp, cuts⟩ = st := step_other _ _ (by simp only; omega)
    rw [e1, e2]
    exact do0 C B F p st kind on n a b m0 m1 m2 m3 ao cl cp w h hB hk
end Go.Proofs.Ytodjgbmfmpbkjab
