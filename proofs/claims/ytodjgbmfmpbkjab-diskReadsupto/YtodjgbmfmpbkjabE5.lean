-- A question on both volumes.
import Derived.Test.YtodjgbmfmpbkjabE4
namespace Go.Proofs.Ytodjgbmfmpbkjab
open Go.RowKit
set_option linter.unusedVariables false
set_option maxHeartbeats 1000000 in
theorem same_c (va vb : Value) (la lb : List ByteArray) (w : World) (ha : RowS w va la) (hb : RowS w vb lb) (hla : la.length ≤ 4194304) (hlb : lb.length ≤ 4194304) :
    Calls Try.prog 65 #[va, vb] w fun e w' => e = .returned (.bool (decide (la = lb))) ∧ ∃ n, w' = w.drewN n := by
  by_cases hlen : la.length = lb.length
  · rcases Nat.eq_zero_or_pos la.length with h0 | h0
    · obtain rfl : la = [] := List.eq_nil_of_length_eq_zero h0
      obtain rfl : lb = [] := List.eq_nil_of_length_eq_zero (by omega)
      obtain ⟨ao, cap, rfl⟩ := ha.form
      obtain ⟨ao', cap', rfl⟩ := hb.form
      clear ha hb
      simp only [List.length_nil]
      go_enter Try.func65, Try.ntmps65
      go_wp2
      go_rounds 1
      go_ret
      exact ⟨by simp, 0, rfl⟩
    · obtain ⟨b, off, cap, rfl, hca⟩ : ∃ b off cap, va = .slice (some ⟨b, off, none⟩) la.length cap ∧ ∀ j, j < la.length → w.cell? ⟨b, off + j, none⟩ = some (.string (la.getD j .empty)) := by
        rcases ha with ⟨rfl, _⟩ | h
        · simp at h0
        · exact h
      obtain ⟨b', off', cap', rfl, hcb⟩ : ∃ b off cap, vb = .slice (some ⟨b, off, none⟩) lb.length cap ∧ ∀ j, j < lb.length → w.cell? ⟨b, off + j, none⟩ = some (.string (lb.getD j .empty)) := by
        rcases hb with ⟨rfl, _⟩ | h
        · rw [List.length_nil] at hlen; omega
        · exact h
      obtain ⟨n, hn⟩ : ∃ n, n = la.length := ⟨_, rfl⟩
      rw [← hlen] at hcb ⊢
      rw [← hn] at hca hcb hla ⊢ h0
      have HL : Hid (n = la.length ∧ la.length = lb.length) := ⟨hn, hlen⟩
      have HA : Hid (∀ j, j < n → w.cell? ⟨b, off + j, none⟩ = some (.string (la.getD j .empty))) := hca
      have HB : Hid (∀ j, j < n → w.cell? ⟨b', off' + j, none⟩ = some (.string (lb.getD j .empty))) := hcb
      clear hn hlen hlb hca hcb
      go_enter Try.func65, Try.ntmps65
      go_wp2
      go_loopw [5] (fun i wx => ∃ k : Nat, i = .int .i64 k ∧ k ≤ n ∧ (∀ j, j < k → la.getD j .empty = lb.getD j .empty) ∧ ∃ m, wx = w.drewN m) (fun i _ => n - (intOf i).toNat)
      case atStart => exact ⟨0, rfl, Nat.zero_le _, fun j hj => absurd hj (Nat.not_lt_zero _), 0, rfl⟩
      case round =>
        obtain ⟨k, rfl, hkn, hsm, m, rfl⟩ := hrel
        have HSM : Hid (∀ j, j < k → la.getD j .empty = lb.getD j .empty) := hsm
        clear hsm
        by_cases hk : k < n
        · have b1 : decide ((k : Int) < (n : Int)) = true := by simp; omega
          have kI : (k : Int) < (n : Int) := by omega
          have ca : w.cell? ⟨b, off + k, none⟩ = some (.string (la.getD k .empty)) := HA.out k hk
          have cb : w.cell? ⟨b', off' + k, none⟩ = some (.string (lb.getD k .empty)) := HB.out k hk
          obtain ⟨x, hx⟩ : ∃ x, x = la.getD k .empty := ⟨_, rfl⟩
          obtain ⟨y, hy⟩ : ∃ y, y = lb.getD k .empty := ⟨_, rfl⟩
          rw [← hx] at ca
          rw [← hy] at cb
          have HXY : Hid (x = la.getD k .empty ∧ y = lb.getD k .empty) := ⟨hx, hy⟩
          clear hx hy
          by_cases hxy : x = y
          · have hbe : (x.toList == y.toList) = true := by rw [beqS]; simp [hxy]
            have HEQ : Hid (x = y) := hxy
            clear hxy
            go_wp2_with fail
            go_quiet (fail)
            go_wp2
            go_roundw
            case rel =>
              refine ⟨k + 1, by go_num, by omega, fun j hj => ?_, m + nq, rfl⟩
              by_cases e : j = k
              · subst e; rw [← HXY.out.1, ← HXY.out.2]; exact HEQ.out
              · exact HSM.out j (by omega)
            case measure => simp [intOf]; omega
          · have hbe : (x.toList == y.toList) = false := by rw [beqS]; simp [hxy]
            have HNE : Hid (¬ la = lb) := fun e => hxy (by rw [HXY.out.1, HXY.out.2, e])
            clear hxy
            go_wp2_with fail
            go_quiet (fail)
            go_wp2
            go_ret
            exact ⟨by rw [decide_eq_false HNE.out]; rfl, m + nq, by simp⟩
        · obtain rfl : k = n := by omega
          have b1 : decide ((k : Int) < (k : Int)) = false := by simp
          have HEQ : Hid (la = lb) := list_ext HL.out.2 (fun j hj => HSM.out j (by rw [HL.out.1]; exact hj))
          go_wp2
          go_ret
          exact ⟨by rw [decide_eq_true HEQ.out]; rfl, m, rfl⟩
  · obtain ⟨ao, cap, rfl⟩ := ha.form
    obtain ⟨ao', cap', rfl⟩ := hb.form
    have hn : ((la.length : Int) != (lb.length : Int)) = true := by simp; omega
    have HNE : Hid (¬ la = lb) := fun e => hlen (by rw [e])
    clear ha hb hlen
    go_enter Try.func65, Try.ntmps65
    go_wp2
    go_ret
    exact ⟨by rw [decide_eq_false HNE.out]; rfl, 0, rfl⟩
variable {PS : (Nat → Prop) → Nat → St → World → Prop}
theorem Two.pq {B : Nat} {Fd Fr : Nat → Prop} {pd pr : Nat} {sd sr : St} {w w' : World} (h : Two PS B Fd pd sd Fr pr sr w) (hB : B ≤ w.heap.size) (hd : PS Fd pd sd w' ∧ Kp Fd w w') : Two PS B Fd pd sd Fr pr sr w' ∧ Below B w w' := by
  have hs := hd.2.size
  exact ⟨⟨hd.1, h.r.same fun k hk hlt => hd.2.block k hlt (fun h' => h.apart k h' hk), h.apart, fun k hk => by have := h.dlo k hk; omega, fun k hk => by have := h.rlo k hk; omega⟩, hd.2.below (fun k hk => (h.dlo k hk).1) hB⟩
set_option maxHeartbeats 4000000 in
theorem asked9 (C : PC PS) (B : Nat) (Fd : Nat → Prop) (pd : Nat) (Fr : Nat → Prop) (pr : Nat) (st : St) (on n : Int) (a b : ByteArray) (m0 m1 m2 m3 : Int) (ao : Option Addr) (cl cp : Nat) (w : World) (h : Two PS B Fd pd st Fr pr st w) (hw : Wf st) (hB : B ≤ w.heap.size) :
    Calls Try.prog 44 #[.pointer (some ⟨pd, 0, none⟩), .pointer (some ⟨pr, 0, none⟩), .agg #[.int .i64 9, .int .i64 on, .int .i64 n, .string a, .string b, .int .i64 m0, .int .i64 m1, .int .i64 m2, .int .i64 m3, .slice ao cl cp]] w fun e w' =>
      e = .returned (.bool true) ∧ Two PS B Fd pd st Fr pr st w' ∧ Below B w w' := by
  have HN : Hid (∀ (n : Int) w, Calls Try.prog 11 #[.int .i64 n] w fun e w' => e = .returned (.int .i64 n) ∧ w' = w) := fun n w => num_c n w
  obtain ⟨X, hX⟩ : ∃ X, X = Obj.cells #[.int .i64 9, .int .i64 on, .int .i64 n, .string a, .string b, .int .i64 m0, .int .i64 m1, .int .i64 m2, .int .i64 m3, .slice ao cl cp] 30 := ⟨_, rfl⟩
  have hbA : Below w.heap.size w (w.alloc X) := (Below.refl _ w).alloc (Nat.le_refl _) _
  have hA := h.below C hbA
  have hsA : (w.alloc X).heap.size = w.heap.size + 1 := by simp
  have hD := C.read Fd pd st n (w.alloc X) hA.d hw
  obtain ⟨r1, hr1⟩ : ∃ r, r = (st.read n).1 := ⟨_, rfl⟩
  obtain ⟨r2, hr2⟩ : ∃ r, r = (st.read n).2 := ⟨_, rfl⟩
  have HP : Hid (Calls Try.prog 38 #[.pointer (some ⟨pd, 0, none⟩), .int .i64 n] (w.alloc X) fun e w' =>
      e = .returned (.tuple #[.string r1, .int .i64 r2]) ∧ Two PS B Fd pd st Fr pr st w' ∧ Below B w w' ∧ w'.heap[w.heap.size]? = some X ∧ w.heap.size + 1 ≤ w'.heap.size) := hD.mono (by
    rintro e w' ⟨rfl, hd⟩
    obtain ⟨t, hb⟩ := hA.pq (by rw [hsA]; omega) hd
    rw [← hr1, ← hr2]
    refine ⟨rfl, t, (hbA.mono hB).trans hb, ?_, by have := hb.size; rw [hsA] at this; exact this⟩
    rw [hd.2.block w.heap.size (by rw [hsA]; omega) (fun h' => by have := h.dlo _ h'; omega), heap_alloc_new])
  have HR : Hid (∀ wx, Two PS B Fd pd st Fr pr st wx → Calls Try.prog 63 #[.pointer (some ⟨pr, 0, none⟩), .int .i64 n] wx fun e w' =>
      e = .returned (.tuple #[.string r1, .int .i64 r2]) ∧ Two PS B Fd pd st Fr pr st w' ∧ Below wx.heap.size wx w') := fun wx t => by
    obtain ⟨bv, dv, dvs, tr⟩ := t.r
    refine (read_c Fr pr st bv dv dvs n wx tr hw).mono ?_
    rintro e w' ⟨rfl, hd⟩
    rw [← hr1, ← hr2]
    exact ⟨rfl, t.below C hd, hd⟩
  clear hD h hA hw hr1 hr2
  subst hX
  have b1 : (r1.toList == r1.toList) = true := by simp
  have b2 : ((r2 : Int) == r2) = true := by simp
  go_enter Try.func44, Try.ntmps44
  go_wp2_with (first
    | (go_at_call 38; refine HP.out.mono ?_; rintro e w1 ⟨rfl, t1, hb1, hk1, hs1⟩; have s2 : w1.cell? ⟨w.heap.size, 2, none⟩ = some (.int .i64 n) := (by rw [Lib.cell_of_heap hk1]; rfl); clear hk1)
    | (go_at_call 63; refine (HR.out _ t1).mono ?_; rintro e w2 ⟨rfl, t2, hb2⟩)
    | (go_at_call 11; refine (HN.out _ _).mono ?_; rintro e w3 ⟨rfl, hw3⟩; subst w3))
  go_ret
  exact ⟨rfl, t2, hb1.trans (hb2.mono (by omega))⟩
set_option maxHeartbeats 4000000 in
theorem asked11 (C : PC PS) (B : Nat) (Fd : Nat → Prop) (pd : Nat) (Fr : Nat → Prop) (pr : Nat) (st : St) (on n : Int) (a b : ByteArray) (m0 m1 m2 m3 : Int) (ao : Option Addr) (cl cp : Nat) (w : World) (h : Two PS B Fd pd st Fr pr st w) (hw : Wf st) (hB : B ≤ w.heap.size) :
    Calls Try.prog 44 #[.pointer (some ⟨pd, 0, none⟩), .pointer (some ⟨pr, 0, none⟩), .agg #[.int .i64 11, .int .i64 on, .int .i64 n, .string a, .string b, .int .i64 m0, .int .i64 m1, .int .i64 m2, .int .i64 m3, .slice ao cl cp]] w fun e w' =>
      e = .returned (.bool true) ∧ Two PS B Fd pd st Fr pr st w' ∧ Below B w w' := by
  have HN : Hid (∀ (n : Int) w, Calls Try.prog 11 #[.int .i64 n] w fun e w' => e = .returned (.int .i64 n) ∧ w' = w) := fun n w => num_c n w
  obtain ⟨X, hX⟩ : ∃ X, X = Obj.cells #[.int .i64 11, .int .i64 on, .int .i64 n, .string a, .string b, .int .i64 m0, .int .i64 m1, .int .i64 m2, .int .i64 m3, .slice ao cl cp] 30 := ⟨_, rfl⟩
  have hbA : Below w.heap.size w (w.alloc X) := (Below.refl _ w).alloc (Nat.le_refl _) _
  have hA := h.below C hbA
  have hsA : (w.alloc X).heap.size = w.heap.size + 1 := by simp
  have hD := C.used Fd pd st (w.alloc X) hA.d hw
  obtain ⟨r1, hr1⟩ : ∃ r, r = st.used := ⟨_, rfl⟩
  have HP : Hid (Calls Try.prog 36 #[.pointer (some ⟨pd, 0, none⟩)] (w.alloc X) fun e w' =>
      e = .returned (.int .i64 r1) ∧ Two PS B Fd pd st Fr pr st w' ∧ Below B w w' ∧ w'.heap[w.heap.size]? = some X ∧ w.heap.size + 1 ≤ w'.heap.size) := hD.mono (by
    rintro e w' ⟨rfl, hd⟩
    obtain ⟨t, hb⟩ := hA.pq (by rw [hsA]; omega) hd
    rw [← hr1]
    refine ⟨rfl, t, (hbA.mono hB).trans hb, ?_, by have := hb.size; rw [hsA] at this; exact this⟩
    rw [hd.2.block w.heap.size (by rw [hsA]; omega) (fun h' => by have := h.dlo _ h'; omega), heap_alloc_new])
  have HR : Hid (∀ wx, Two PS B Fd pd st Fr pr st wx → Calls Try.prog 66 #[.pointer (some ⟨pr, 0, none⟩)] wx fun e w' =>
      e = .returned (.int .i64 r1) ∧ Two PS B Fd pd st Fr pr st w' ∧ Below wx.heap.size wx w') := fun wx t => by
    obtain ⟨bv, dv, dvs, tr⟩ := t.r
    refine (used_c Fr pr st bv dv dvs wx tr hw).mono ?_
    rintro e w' ⟨rfl, hd⟩
    rw [← hr1]
    exact ⟨rfl, t.below C hd, hd⟩
  clear hD h hA hw hr1
  subst hX
  have b1 : ((r1 : Int) == r1) = true := by simp
  go_enter Try.func44, Try.ntmps44
  go_wp2_with (first
    | (go_at_call 36; refine HP.out.mono ?_; rintro e w1 ⟨rfl, t1, hb1, hk1, hs1⟩; clear hk1)
    | (go_at_call 66; refine (HR.out _ t1).mono ?_; rintro e w2 ⟨rfl, t2, hb2⟩)
    | (go_at_call 11; refine (HN.out _ _).mono ?_; rintro e w3 ⟨rfl, hw3⟩; subst w3))
  go_ret
  exact ⟨rfl, t2, hb1.trans (hb2.mono (by omega))⟩
set_option maxHeartbeats 4000000 in
theorem asked12 (C : PC PS) (B : Nat) (Fd : Nat → Prop) (pd : Nat) (Fr : Nat → Prop) (pr : Nat) (st : St) (on n : Int) (a b : ByteArray) (m0 m1 m2 m3 : Int) (ao : Option Addr) (cl cp : Nat) (w : World) (h : Two PS B Fd pd st Fr pr st w) (hw : Wf st) (hB : B ≤ w.heap.size) :
    Calls Try.prog 44 #[.pointer (some ⟨pd, 0, none⟩), .pointer (some ⟨pr, 0, none⟩), .agg #[.int .i64 12, .int .i64 on, .int .i64 n, .string a, .string b, .int .i64 m0, .int .i64 m1, .int .i64 m2, .int .i64 m3, .slice ao cl cp]] w fun e w' =>
      e = .returned (.bool true) ∧ Two PS B Fd pd st Fr pr st w' ∧ Below B w w' := by
  have HN : Hid (∀ (n : Int) w, Calls Try.prog 11 #[.int .i64 n] w fun e w' => e = .returned (.int .i64 n) ∧ w' = w) := fun n w => num_c n w
  obtain ⟨X, hX⟩ : ∃ X, X = Obj.cells #[.int .i64 12, .int .i64 on, .int .i64 n, .string a, .string b, .int .i64 m0, .int .i64 m1, .int .i64 m2, .int .i64 m3, .slice ao cl cp] 30 := ⟨_, rfl⟩
  have hbA : Below w.heap.size w (w.alloc X) := (Below.refl _ w).alloc (Nat.le_refl _) _
  have hA := h.below C hbA
  have hsA : (w.alloc X).heap.size = w.heap.size + 1 := by simp
  have hD := C.pending Fd pd st (w.alloc X) hA.d hw
  obtain ⟨r1, hr1⟩ : ∃ r, r = st.dirs.length - 1 := ⟨_, rfl⟩
  have HP : Hid (Calls Try.prog 18 #[.pointer (some ⟨pd, 0, none⟩)] (w.alloc X) fun e w' =>
      e = .returned (.int .i64 r1) ∧ Two PS B Fd pd st Fr pr st w' ∧ Below B w w' ∧ w'.heap[w.heap.size]? = some X ∧ w.heap.size + 1 ≤ w'.heap.size) := hD.mono (by
    rintro e w' ⟨rfl, hd⟩
    obtain ⟨t, hb⟩ := hA.pq (by rw [hsA]; omega) hd
    rw [← hr1]
    refine ⟨rfl, t, (hbA.mono hB).trans hb, ?_, by have := hb.size; rw [hsA] at this; exact this⟩
    rw [hd.2.block w.heap.size (by rw [hsA]; omega) (fun h' => by have := h.dlo _ h'; omega), heap_alloc_new])
  have HR : Hid (∀ wx, Two PS B Fd pd st Fr pr st wx → Calls Try.prog 67 #[.pointer (some ⟨pr, 0, none⟩)] wx fun e w' =>
      e = .returned (.int .i64 r1) ∧ Two PS B Fd pd st Fr pr st w' ∧ Below wx.heap.size wx w') := fun wx t => by
    obtain ⟨bv, dv, dvs, tr⟩ := t.r
    refine (pending_c Fr pr st bv dv dvs wx tr hw).mono ?_
    rintro e w' ⟨rfl, hd⟩
    rw [← hr1]
    subst hd
    exact ⟨rfl, t, Below.refl _ _⟩
  clear hD h hA hw hr1
  subst hX
  have b1 : ((r1 : Int) == r1) = true := by simp
  go_enter Try.func44, Try.ntmps44
  go_wp2_with (first
    | (go_at_call 18; refine HP.out.mono ?_; rintro e w1 ⟨rfl, t1, hb1, hk1, hs1⟩; clear hk1)
    | (go_at_call 67; refine (HR.out _ t1).mono ?_; rintro e w2 ⟨rfl, t2, hb2⟩)
    | (go_at_call 11; refine (HN.out _ _).mono ?_; rintro e w3 ⟨rfl, hw3⟩; subst w3))
  go_ret
  exact ⟨rfl, t2, hb1.trans (hb2.mono (by omega))⟩
set_option maxHeartbeats 4000000 in
theorem asked13 (C : PC PS) (B : Nat) (Fd : Nat → Prop) (pd : Nat) (Fr : Nat → Prop) (pr : Nat) (st : St) (on n : Int) (a b : ByteArray) (m0 m1 m2 m3 : Int) (ao : Option Addr) (cl cp : Nat) (w : World) (h : Two PS B Fd pd st Fr pr st w) (hw : Wf st) (hB : B ≤ w.heap.size) :
    Calls Try.prog 44 #[.pointer (some ⟨pd, 0, none⟩), .pointer (some ⟨pr, 0, none⟩), .agg #[.int .i64 13, .int .i64 on, .int .i64 n, .string a, .string b, .int .i64 m0, .int .i64 m1, .int .i64 m2, .int .i64 m3, .slice ao cl cp]] w fun e w' =>
      e = .returned (.bool true) ∧ Two PS B Fd pd st Fr pr st w' ∧ Below B w w' := by
  have HN : Hid (∀ (n : Int) w, Calls Try.prog 11 #[.int .i64 n] w fun e w' => e = .returned (.int .i64 n) ∧ w' = w) := fun n w => num_c n w
  obtain ⟨X, hX⟩ : ∃ X, X = Obj.cells #[.int .i64 13, .int .i64 on, .int .i64 n, .string a, .string b, .int .i64 m0, .int .i64 m1, .int .i64 m2, .int .i64 m3, .slice ao cl cp] 30 := ⟨_, rfl⟩
  have hbA : Below w.heap.size w (w.alloc X) := (Below.refl _ w).alloc (Nat.le_refl _) _
  have hA := h.below C hbA
  have hsA : (w.alloc X).heap.size = w.heap.size + 1 := by simp
  have hD := C.loose Fd pd st n (w.alloc X) hA.d hw
  obtain ⟨r1, hr1⟩ : ∃ r, r = (st.loose n).1 := ⟨_, rfl⟩
  obtain ⟨r2, hr2⟩ : ∃ r, r = (st.loose n).2 := ⟨_, rfl⟩
  have HP : Hid (Calls Try.prog 39 #[.pointer (some ⟨pd, 0, none⟩), .int .i64 n] (w.alloc X) fun e w' =>
      e = .returned (.tuple #[.int .i64 r1, .int .i64 r2]) ∧ Two PS B Fd pd st Fr pr st w' ∧ Below B w w' ∧ w'.heap[w.heap.size]? = some X ∧ w.heap.size + 1 ≤ w'.heap.size) := hD.mono (by
    rintro e w' ⟨rfl, hd⟩
    obtain ⟨t, hb⟩ := hA.pq (by rw [hsA]; omega) hd
    rw [← hr1, ← hr2]
    refine ⟨rfl, t, (hbA.mono hB).trans hb, ?_, by have := hb.size; rw [hsA] at this; exact this⟩
    rw [hd.2.block w.heap.size (by rw [hsA]; omega) (fun h' => by have := h.dlo _ h'; omega), heap_alloc_new])
  have HR : Hid (∀ wx, Two PS B Fd pd st Fr pr st wx → Calls Try.prog 68 #[.pointer (some ⟨pr, 0, none⟩), .int .i64 n] wx fun e w' =>
      e = .returned (.tuple #[.int .i64 r1, .int .i64 r2]) ∧ Two PS B Fd pd st Fr pr st w' ∧ Below wx.heap.size wx w') := fun wx t => by
    obtain ⟨bv, dv, dvs, tr⟩ := t.r
    refine (loose_c Fr pr st bv dv dvs n wx tr hw).mono ?_
    rintro e w' ⟨rfl, hd⟩
    rw [← hr1, ← hr2]
    exact ⟨rfl, t.below C hd, hd⟩
  clear hD h hA hw hr1 hr2
  subst hX
  have b1 : ((r1 : Int) == r1) = true := by simp
  have b2 : ((r2 : Int) == r2) = true := by simp
  go_enter Try.func44, Try.ntmps44
  go_wp2_with (first
    | (go_at_call 39; refine HP.out.mono ?_; rintro e w1 ⟨rfl, t1, hb1, hk1, hs1⟩; have s2 : w1.cell? ⟨w.heap.size, 2, none⟩ = some (.int .i64 n) := (by rw [Lib.cell_of_heap hk1]; rfl); clear hk1)
    | (go_at_call 68; refine (HR.out _ t1).mono ?_; rintro e w2 ⟨rfl, t2, hb2⟩)
    | (go_at_call 11; refine (HN.out _ _).mono ?_; rintro e w3 ⟨rfl, hw3⟩; subst w3))
  go_ret
  exact ⟨rfl, t2, hb1.trans (hb2.mono (by omega))⟩
set_option maxHeartbeats 4000000 in
theorem asked8 (C : PC PS) (B : Nat) (Fd : Nat → Prop) (pd : Nat) (Fr : Nat → Prop) (pr : Nat) (st : St) (on n : Int) (a b : ByteArray) (m0 m1 m2 m3 : Int) (ao : Option Addr) (cl cp : Nat) (w : World) (h : Two PS B Fd pd st Fr pr st w) (hw : Wf st) (hB : B ≤ w.heap.size) :
    Calls Try.prog 44 #[.pointer (some ⟨pd, 0, none⟩), .pointer (some ⟨pr, 0, none⟩), .agg #[.int .i64 8, .int .i64 on, .int .i64 n, .string a, .string b, .int .i64 m0, .int .i64 m1, .int .i64 m2, .int .i64 m3, .slice ao cl cp]] w fun e w' =>
      e = .returned (.bool true) ∧ Two PS B Fd pd st Fr pr st w' ∧ Below B w w' := by
  have HN : Hid (∀ (n : Int) w, Calls Try.prog 11 #[.int .i64 n] w fun e w' => e = .returned (.int .i64 n) ∧ w' = w) := fun n w => num_c n w
  obtain ⟨X, hX⟩ : ∃ X, X = Obj.cells #[.int .i64 8, .int .i64 on, .int .i64 n, .string a, .string b, .int .i64 m0, .int .i64 m1, .int .i64 m2, .int .i64 m3, .slice ao cl cp] 30 := ⟨_, rfl⟩
  have hbA : Below w.heap.size w (w.alloc X) := (Below.refl _ w).alloc (Nat.le_refl _) _
  have hA := h.below C hbA
  have hsA : (w.alloc X).heap.size = w.heap.size + 1 := by simp
  have hD := C.find Fd pd st a (w.alloc X) hA.d hw
  obtain ⟨fn, hfn⟩ : ∃ r, r = (st.find a).1.1 := ⟨_, rfl⟩
  obtain ⟨fb, hfb⟩ : ∃ r, r = (st.find a).1.2 := ⟨_, rfl⟩
  obtain ⟨r1, hr1⟩ : ∃ r, r = (st.find a).2.1 := ⟨_, rfl⟩
  obtain ⟨r2, hr2⟩ : ∃ r, r = (st.find a).2.2 := ⟨_, rfl⟩
  have HP : Hid (Calls Try.prog 12 #[.pointer (some ⟨pd, 0, none⟩), .string a] (w.alloc X) fun e w' =>
      e = .returned (.tuple #[.agg (infoV fn fb), .int .i64 r1, .int .i64 r2]) ∧ Two PS B Fd pd st Fr pr st w' ∧ Below B w w' ∧ w'.heap[w.heap.size]? = some X ∧ w.heap.size + 1 ≤ w'.heap.size) := hD.mono (by
    rintro e w' ⟨rfl, hd⟩
    obtain ⟨t, hb⟩ := hA.pq (by rw [hsA]; omega) hd
    rw [← hfn, ← hfb, ← hr1, ← hr2]
    refine ⟨rfl, t, (hbA.mono hB).trans hb, ?_, by have := hb.size; rw [hsA] at this; exact this⟩
    rw [hd.2.block w.heap.size (by rw [hsA]; omega) (fun h' => by have := h.dlo _ h'; omega), heap_alloc_new])
  have HR : Hid (∀ wx, Two PS B Fd pd st Fr pr st wx → Calls Try.prog 62 #[.pointer (some ⟨pr, 0, none⟩), .string a] wx fun e w' =>
      e = .returned (.tuple #[.agg (infoV fn fb), .int .i64 r1, .int .i64 r2]) ∧ Two PS B Fd pd st Fr pr st w' ∧ Below wx.heap.size wx w') := fun wx t => by
    obtain ⟨bv, dv, dvs, tr⟩ := t.r
    refine (find_c Fr pr st bv dv dvs a wx tr hw).mono ?_
    rintro e w' ⟨rfl, hd⟩
    rw [← hfn, ← hfb, ← hr1, ← hr2]
    exact ⟨rfl, t.below C hd, hd⟩
  clear hD h hA hw hfn hfb hr1 hr2
  subst hX
  have b1 : ((r1 : Int) == r1) = true := by simp
  have b2 : ((r2 : Int) == r2) = true := by simp
  unfold infoV at HP HR
  go_enter Try.func44, Try.ntmps44
  go_wp2_with (first
    | (go_at_call 12; refine HP.out.mono ?_; rintro e w1 ⟨rfl, t1, hb1, hk1, hs1⟩; have s3 : (w1.alloc (.cells #[.int .i64 fb.date, .int .i64 fb.uid, .int .i64 fb.gid, .int .i64 fb.mode, .string fn, .int .i64 fb.data.size] 36)).cell? ⟨w.heap.size, 3, none⟩ = some (.string a) := (by rw [World.cell?_of_block (a := ⟨w.heap.size, 3, none⟩) (Lib.alloc_old w1 _ w.heap.size (by omega)), Lib.cell_of_heap hk1]; rfl); clear hk1)
    | (go_at_call 62; refine (HR.out _ (t1.below C ((Below.refl _ w1).alloc (Nat.le_refl _) _))).mono ?_; rintro e w2 ⟨rfl, t2, hb2⟩; have hq : (w2.alloc (.cells #[.int .i64 fb.date, .int .i64 fb.uid, .int .i64 fb.gid, .int .i64 fb.mode, .string fn, .int .i64 fb.data.size] 36)).heap[w1.heap.size]? = some (.cells #[.int .i64 fb.date, .int .i64 fb.uid, .int .i64 fb.gid, .int .i64 fb.mode, .string fn, .int .i64 fb.data.size] 36) := (by rw [Lib.alloc_old w2 _ w1.heap.size (by have := hb2.size; simp at this; omega), hb2.block w1.heap.size (by simp), heap_alloc_new]); have y0 : (w2.alloc (.cells #[.int .i64 fb.date, .int .i64 fb.uid, .int .i64 fb.gid, .int .i64 fb.mode, .string fn, .int .i64 fb.data.size] 36)).cell? ⟨w1.heap.size, 0, none⟩ = some (.int .i64 fb.date) := (by rw [Lib.cell_of_heap hq]; rfl); have y1 : (w2.alloc (.cells #[.int .i64 fb.date, .int .i64 fb.uid, .int .i64 fb.gid, .int .i64 fb.mode, .string fn, .int .i64 fb.data.size] 36)).cell? ⟨w1.heap.size, 1, none⟩ = some (.int .i64 fb.uid) := (by rw [Lib.cell_of_heap hq]; rfl); have y2 : (w2.alloc (.cells #[.int .i64 fb.date, .int .i64 fb.uid, .int .i64 fb.gid, .int .i64 fb.mode, .string fn, .int .i64 fb.data.size] 36)).cell? ⟨w1.heap.size, 2, none⟩ = some (.int .i64 fb.gid) := (by rw [Lib.cell_of_heap hq]; rfl); have y3 : (w2.alloc (.cells #[.int .i64 fb.date, .int .i64 fb.uid, .int .i64 fb.gid, .int .i64 fb.mode, .string fn, .int .i64 fb.data.size] 36)).cell? ⟨w1.heap.size, 3, none⟩ = some (.int .i64 fb.mode) := (by rw [Lib.cell_of_heap hq]; rfl); have y4 : (w2.alloc (.cells #[.int .i64 fb.date, .int .i64 fb.uid, .int .i64 fb.gid, .int .i64 fb.mode, .string fn, .int .i64 fb.data.size] 36)).cell? ⟨w1.heap.size, 4, none⟩ = some (.string fn) := (by rw [Lib.cell_of_heap hq]; rfl); have y5 : (w2.alloc (.cells #[.int .i64 fb.date, .int .i64 fb.uid, .int .i64 fb.gid, .int .i64 fb.mode, .string fn, .int .i64 fb.data.size] 36)).cell? ⟨w1.heap.size, 5, none⟩ = some (.int .i64 fb.data.size) := (by rw [Lib.cell_of_heap hq]; rfl); clear hq)
    | (go_at_call 11; refine (HN.out _ _).mono ?_; rintro e w3 ⟨rfl, hw3⟩; subst w3))
  go_ret
  have hs2 : w1.heap.size + 1 ≤ w2.heap.size := by have := hb2.size; simpa using this
  exact ⟨rfl, t2.below C ((Below.refl _ w2).alloc (Nat.le_refl _) _), ((hb1.alloc (by omega) _).trans (hb2.mono (by simp; omega))).alloc (by omega) _⟩
end Go.Proofs.Ytodjgbmfmpbkjab
