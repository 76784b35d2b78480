-- Names asked; every question; a script played.
import Derived.Test.YtodjgbmfmpbkjabE5
namespace Go.Proofs.Ytodjgbmfmpbkjab
open Go.RowKit
set_option linter.unusedVariables false
variable {PS : (Nat → Prop) → Nat → St → World → Prop}
set_option maxHeartbeats 4000000 in
theorem asked10 (C : PC PS) (B : Nat) (Fd : Nat → Prop) (pd : Nat) (Fr : Nat → Prop) (pr : Nat) (st : St) (on n : Int) (a b : ByteArray) (m0 m1 m2 m3 : Int) (ao : Option Addr) (cl cp : Nat) (w : World) (h : Two PS B Fd pd st Fr pr st w) (hw : Wf st) (hB : B ≤ w.heap.size) :
    Calls Try.prog 44 #[.pointer (some ⟨pd, 0, none⟩), .pointer (some ⟨pr, 0, none⟩), .agg #[.int .i64 10, .int .i64 on, .int .i64 n, .string a, .string b, .int .i64 m0, .int .i64 m1, .int .i64 m2, .int .i64 m3, .slice ao cl cp]] w fun e w' =>
      e = .returned (.bool true) ∧ Two PS B Fd pd st Fr pr st w' ∧ Below B w w' := by
  obtain ⟨X, hX⟩ : ∃ X, X = Obj.cells #[.int .i64 10, .int .i64 on, .int .i64 n, .string a, .string b, .int .i64 m0, .int .i64 m1, .int .i64 m2, .int .i64 m3, .slice ao cl cp] 30 := ⟨_, rfl⟩
  have hbA : Below w.heap.size w (w.alloc X) := (Below.refl _ w).alloc (Nat.le_refl _) _
  have hA := h.below C hbA
  have hsA : (w.alloc X).heap.size = w.heap.size + 1 := by simp
  have hD := C.names Fd pd st (w.alloc X) hA.d hw
  have hnl := names_len hw
  obtain ⟨L, hL⟩ : ∃ L, L = st.names := ⟨_, rfl⟩
  have HP : Hid (Calls Try.prog 37 #[.pointer (some ⟨pd, 0, none⟩)] (w.alloc X) fun e w' =>
      (∃ v, e = .returned v ∧ w'.ownsRow 0 9 1 v L.length (strV L)) ∧ Two PS B Fd pd st Fr pr st w' ∧ Below B w w' ∧ w.heap.size + 1 ≤ w'.heap.size) := hD.mono (by
    rintro e w' ⟨⟨v, rfl, ho⟩, hd⟩
    obtain ⟨t, hb⟩ := hA.pq (by rw [hsA]; omega) hd
    rw [← hL] at ho
    exact ⟨⟨v, rfl, own_mono ho (Nat.zero_le _)⟩, t, (hbA.mono hB).trans hb, by have := hb.size; rw [hsA] at this; exact this⟩)
  have HR : Hid (∀ wx, Two PS B Fd pd st Fr pr st wx → Calls Try.prog 64 #[.pointer (some ⟨pr, 0, none⟩)] wx fun e w' =>
      (∃ v, e = .returned v ∧ w'.ownsRow 0 9 1 v L.length (strV L)) ∧ Two PS B Fd pd st Fr pr st w' ∧ Below wx.heap.size wx w') := fun wx t => by
    obtain ⟨bv, dv, dvs, tr⟩ := t.r
    refine (names_c Fr pr st bv dv dvs wx tr hw).mono ?_
    rintro e w' ⟨⟨v, rfl, ho⟩, hd⟩
    rw [← hL] at ho
    exact ⟨⟨v, rfl, own_mono ho (Nat.zero_le _)⟩, t.below C hd, hd⟩
  have HS : Hid (∀ va vb wx, wx.ownsRow 0 9 1 va L.length (strV L) → wx.ownsRow 0 9 1 vb L.length (strV L) → Calls Try.prog 65 #[va, vb] wx fun e w' => e = .returned (.bool true) ∧ Below wx.heap.size wx w') := fun va vb wx ha hb => by
    refine (same_c va vb L L wx (RowS.of_own ha) (RowS.of_own hb) (by rw [hL]; omega) (by rw [hL]; omega)).mono ?_
    rintro e w' ⟨rfl, m, rfl⟩
    exact ⟨by simp, below_drewN (Below.refl _ _) m⟩
  clear hD h hA hw hL hnl
  subst hX
  go_enter Try.func44, Try.ntmps44
  go_wp2_with (first
    | (go_at_call 37; refine HP.out.mono ?_; rintro e w1 ⟨⟨va, rfl, hoa⟩, t1, hb1, hs1⟩; obtain ⟨ao1, cp1, rfl⟩ := own_shape hoa)
    | (go_at_call 64; refine (HR.out _ t1).mono ?_; rintro e w2 ⟨⟨vb, rfl, hob⟩, t2, hb2⟩; obtain ⟨ao2, cp2, rfl⟩ := own_shape hob; have hoa2 := own_keep hoa (fun k hk => hb2.block k (hoa.lt k hk).2))
    | (go_at_call 65; refine (HS.out _ _ _ hoa2 hob).mono ?_; rintro e w3 ⟨rfl, hb3⟩))
  go_ret
  have hs2 := hb2.size
  exact ⟨rfl, t2.below C hb3, (hb1.trans (hb2.mono (by omega))).trans (hb3.mono (by omega))⟩
set_option maxHeartbeats 4000000 in
theorem asked0 (C : PC PS) (B : Nat) (Fd : Nat → Prop) (pd : Nat) (Fr : Nat → Prop) (pr : Nat) (st : St) (kind on n : Int) (a b : ByteArray) (m0 m1 m2 m3 : Int) (ao : Option Addr) (cl cp : Nat) (w : World) (h : Two PS B Fd pd st Fr pr st w) (hB : B ≤ w.heap.size) (hk : kind < 8 ∨ 13 < kind) :
    Calls Try.prog 44 #[.pointer (some ⟨pd, 0, none⟩), .pointer (some ⟨pr, 0, none⟩), .agg #[.int .i64 kind, .int .i64 on, .int .i64 n, .string a, .string b, .int .i64 m0, .int .i64 m1, .int .i64 m2, .int .i64 m3, .slice ao cl cp]] w fun e w' =>
      e = .returned (.bool true) ∧ Two PS B Fd pd st Fr pr st w' ∧ Below B w w' := by
  have k8 : (kind == 8) = false := by simp; omega
  have k9 : (kind == 9) = false := by simp; omega
  have k10 : (kind == 10) = false := by simp; omega
  have k11 : (kind == 11) = false := by simp; omega
  have k12 : (kind == 12) = false := by simp; omega
  have k13 : (kind == 13) = false := by simp; omega
  have HT : Hid (Two PS B Fd pd st Fr pr st w) := h
  clear h
  go_enter Try.func44, Try.ntmps44
  go_wp2
  go_ret
  exact ⟨rfl, HT.out.below C ((Below.refl _ w).alloc (Nat.le_refl _) _), (Below.refl _ w).alloc hB _⟩
theorem asked_c (C : PC PS) (B : Nat) (Fd : Nat → Prop) (pd : Nat) (Fr : Nat → Prop) (pr : Nat) (st : St) (o : Opx) (w : World) (h : Two PS B Fd pd st Fr pr st w) (hw : Wf st) (hB : B ≤ w.heap.size) (ho : OpOk B o w) :
    Calls Try.prog 44 #[.pointer (some ⟨pd, 0, none⟩), .pointer (some ⟨pr, 0, none⟩), o.v] w fun e w' =>
      e = .returned (.bool true) ∧ Two PS B Fd pd st Fr pr st w' ∧ Below B w w' := by
  obtain ⟨ao, cl, cp, hcv⟩ := ho.slice
  obtain ⟨kind, on, n, a, b, m0, m1, m2, m3, cv, cuts⟩ := o
  simp only at hcv
  subst hcv
  have hc : kind = 8 ∨ kind = 9 ∨ kind = 10 ∨ kind = 11 ∨ kind = 12 ∨ kind = 13 ∨ (kind < 8 ∨ 13 < kind) := by omega
  rcases hc with rfl | rfl | rfl | rfl | rfl | rfl | hk
  · exact asked8 C B Fd pd Fr pr st on n a b m0 m1 m2 m3 ao cl cp w h hw hB
  · exact asked9 C B Fd pd Fr pr st on n a b m0 m1 m2 m3 ao cl cp w h hw hB
  · exact asked10 C B Fd pd Fr pr st on n a b m0 m1 m2 m3 ao cl cp w h hw hB
  · exact asked11 C B Fd pd Fr pr st on n a b m0 m1 m2 m3 ao cl cp w h hw hB
  · exact asked12 C B Fd pd Fr pr st on n a b m0 m1 m2 m3 ao cl cp w h hw hB
  · exact asked13 C B Fd pd Fr pr st on n a b m0 m1 m2 m3 ao cl cp w h hw hB
  · exact asked0 C B Fd pd Fr pr st kind on n a b m0 m1 m2 m3 ao cl cp w h hB hk
theorem isChange_c (k : Int) (w : World) : Calls Try.prog 42 #[.int .i64 k] w fun e w' => e = .returned (.bool (decide (1 ≤ k ∧ k ≤ 7))) ∧ w' = w := by
  by_cases h1 : 1 ≤ k
  · have b1 : decide (1 ≤ k) = true := by simp [h1]
    by_cases h2 : k ≤ 7
    · have b2 : decide (k ≤ 7) = true := by simp [h2]
      have HR : Hid (decide (1 ≤ k ∧ k ≤ 7) = true) := by show _ = _; simp [h1, h2]
      rw [HR.out]
      go_enter Try.func42, Try.ntmps42
      go_wp2
      go_ret
      exact ⟨rfl, rfl⟩
    · have b2 : decide (k ≤ 7) = false := by simp [h2]
      have HR : Hid (decide (1 ≤ k ∧ k ≤ 7) = false) := by show _ = _; simp [h2]
      rw [HR.out]
      go_enter Try.func42, Try.ntmps42
      go_wp2
      go_ret
      exact ⟨rfl, rfl⟩
  · have b1 : decide (1 ≤ k) = false := by simp [h1]
    have HR : Hid (decide (1 ≤ k ∧ k ≤ 7) = false) := by show _ = _; simp [h1]
    rw [HR.out]
    go_enter Try.func42, Try.ntmps42
    go_wp2
    go_ret
    exact ⟨rfl, rfl⟩
end Go.Proofs.Ytodjgbmfmpbkjab
