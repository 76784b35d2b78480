
-- ShowListBack's walk, over any List that tells so.
import Derived.Test.YtjpoifoejbabiabDoorLK
namespace Go.Proofs.YtjpoifoejbabiabDoor
open Go.ChangeShapes Go.WideShapes Go.ChangeAt Go.RowKit
set_option linter.unusedVariables false
set_option maxRecDepth 100000
set_option linter.unusedSimpArgs false
theorem scan_names (L : List Mx) : ∀ (pos : Nat) (acc : List ByteArray), scanL (lstsL false L) pos none false [] acc = .inr (acc ++ L.map (fun m => m.n)) := by
  induction L with
  | nil => intro pos acc; unfold lstsL; simp [scan_nil, endW]
  | cons m r ih =>
    intro pos acc
    have e : lstsL false (m :: r) = quoteL (lsq m.n) ++ (10 :: lstsL false r) := by
      unfold lstsL
      rw [List.flatMap_cons]
      unfold lstL QL
      simp
    rw [e, scan_quoteL, scan_part _ _ _ _ _ (by decide), ih]
    simp [endW, strB_lsq]
theorem words_names (L : List Mx) : wordsL (lstsL false L) = .inr (L.map (fun m => m.n)) := by
  unfold wordsL; rw [scan_names]; rfl
def nlC (l : List UInt8) : Nat := l.countP (fun c => c == 10)
theorem nlC_app (a b : List UInt8) : nlC (a ++ b) = nlC a + nlC b := by unfold nlC; exact List.countP_append
theorem nlC_quote (l : List UInt8) : nlC (quoteL l) = 0 := by
  unfold nlC
  rw [List.countP_eq_zero]
  intro c hc e
  have := quote_ge l c hc
  have h : c = 10 := by simpa using e
  rw [h] at this
  exact absurd this (by decide)
theorem nlC_list (L : List Mx) : nlC (lstsL false L) = L.length := by
  induction L with
  | nil => rfl
  | cons m r ih =>
    have e : lstsL false (m :: r) = quoteL (lsq m.n) ++ ([10] ++ lstsL false r) := by
      unfold lstsL
      rw [List.flatMap_cons]
      unfold lstL QL
      simp
    rw [e, nlC_app, nlC_app, nlC_quote, ih, List.length_cons]
    have : nlC [10] = 1 := rfl
    omega
theorem nlC_step {l : List UInt8} {k : Nat} (h : k < l.length) : nlC (l.take (k + 1)) = nlC (l.take k) + (if l[k] = 10 then 1 else 0) := by
  rw [List.take_succ_eq_append_getElem h, nlC_app]
  congr 1
  unfold nlC
  by_cases e : l[k] = 10
  · rw [if_pos e]; simp [e]
  · rw [if_neg e]; simp [e]
theorem strV_flat (l : List ByteArray) : strV l = l.flatMap txL := by
  unfold strV
  induction l with
  | nil => rfl
  | cons a r ih => rw [List.map_cons, ih, List.flatMap_cons]; rfl
theorem getB (S : ByteArray) (k : Nat) (h : k < S.size) : (lsq S)[k]'(by rw [lsq_size]; exact h) = S[k] := by
  unfold lsq
  show S.data.toList[k] = S.data[k]
  simp
set_option maxHeartbeats 8000000 in
theorem showListBack_w (HP0 : ListOk 12) (v0 : Value) (L : List Mx) (w : World) (h0 : RowM w v0 L) (hl : L.length ≤ 1048576) (ht : totM L ≤ 1048576) (hok : ∀ m ∈ L, okM m) (hT0 : LTabs w) :
    Calls Tryd.prog 4 #[v0] w fun e w' => e = .returned (.bool true) ∧ Below w.heap.size w w' := by
  obtain ⟨a0, c0, q0, _, _⟩ := h0.form
  obtain ⟨n, hnn⟩ : ∃ n, n = L.length := ⟨_, rfl⟩
  obtain ⟨S, hS⟩ : ∃ S, S = strB (lstsL false L) := ⟨_, rfl⟩
  have hSb : S.size ≤ 8388608 := by
    rw [hS, strB_size]
    have : ∀ l : List Mx, (lstsL false l).length ≤ 4 * totM l + 3 * l.length := by
      intro l
      unfold lstsL totM
      induction l with
      | nil => simp
      | cons e r ih =>
        have := QL_len e.n
        have e1 : (lstL false e).length = (QL e.n).length + 1 := by unfold lstL; simp
        simp only [List.flatMap_cons, List.length_append, List.map_cons, List.sum_cons, List.length_cons]; omega
    have := this L
    omega
  have HSL := hidK (show lsq S = lstsL false L by rw [hS, lsq_strB])
  have HTW := hidK (twin14_c v0 L w h0 (by omega))
  subst q0
  have HV := hidK h0
  have HN := hidK hnn
  have HP : Hid (∀ (u : Value) (W : World), Below w.heap.size w W → RowM W u L → Calls Tryd.prog 12 #[u, .bool false] W fun e w' => e = .returned (.string S) ∧ Below W.heap.size W w') := fun u W hb hr => by
    rw [hS]; exact HP0 u L false W hr (by omega) (by omega) hok (hT0.on hb)
  have HW : Hid (∀ W, Calls Tryd.prog 8 #[.string S] W fun e w' => Below W.heap.size W w' ∧ ∃ g cap, e = .returned (.tuple #[.slice g n cap, .int .i64 0, .int .i64 0]) ∧ RowT w' (.slice g n cap) (L.map (fun m => m.n))) := by
    intro W
    refine (words_c S W (by omega)).mono ?_
    rintro e w' ⟨hb, hg⟩
    have e1 : wordsL (lst S) = .inr (L.map (fun m => m.n)) := by
      rw [← words_names, ← HSL.out]; rfl
    rw [e1] at hg
    obtain ⟨v, rfl, ho⟩ := hg
    rw [strV_flat] at ho
    have hr : RowT w' v (L.map (fun m => m.n)) := OwnT.row ho
    obtain ⟨a, c, q, _, _⟩ := hr.form
    rw [List.length_map, ← hnn] at q
    subst q
    exact ⟨hb, a, c, rfl, hr⟩
  rw [← hnn] at hl HTW HV ⊢
  clear h0 hnn hS ht hok HP0
  go_enter Tryd.func4, Tryd.ntmps4
  go_upto_region 2 with (first | (go_at_call 13; refine HTW.out.mono ?_; rintro e w1 ⟨u, rfl, hr1, hb1⟩; obtain ⟨au, cu, qu, _, _⟩ := hr1.form; subst qu) | (go_at_call 12; refine (HP.out _ _ hb1 hr1).mono ?_; rintro e w2 ⟨rfl, hb2⟩))
  have hb12 := bel3K hb1 hb2
  go_upto_region 3 with (go_at_call 8; refine (HW.out _).mono ?_; rintro e w3 ⟨hb3, g, cap, rfl, hr3⟩)
  have HB3 := hidK (bel3K hb12 hb3)
  have HR3 := hidK hr3
  clear hb1 hb2 hb12 hb3 hr1 hr3 HTW HP HW
  go_upto_region 5 with fail
  go_wp2
  go_loopw [7, 8] (fun c i wx => ∃ k : Nat, i = .int .i64 k ∧ k ≤ S.size ∧ c = .int .i64 (nlC ((lsq S).take k) : Nat) ∧ nlC ((lsq S).take k) ≤ k ∧ wx = w3) (fun _ i _ => S.size - (intOf i).toNat)
  case atStart => exact ⟨0, rfl, Nat.zero_le _, rfl, Nat.le_refl _, rfl⟩
  case round =>
    obtain ⟨k, rfl, hks, rfl, hcl, rfl⟩ := hrel
    by_cases hk : k < S.size
    · have kI : (k : Int) < (S.size : Int) := by omega
      have k0 : (0 : Int) ≤ (k : Int) := by omega
      have hix := idx S k hk
      have hst := nlC_step (l := lsq S) (k := k) (by rw [lsq_size]; exact hk)
      rw [getB S k hk] at hst
      obtain ⟨cc, hcc⟩ : ∃ cc, cc = nlC ((lsq S).take k) := ⟨_, rfl⟩
      rw [← hcc] at hst hcl ⊢
      have cw : IntKind.i64.wrap ((cc : Int) + 1) = (cc : Int) + 1 := by rw [IntKind.wrap_i64]; omega
      have HST := hidK hst
      clear hst hcc
      by_cases hc : S[k] = 10
      · have h1 : (S[k].toNat : Int) = 10 := by rw [hc]; rfl
        rw [h1] at hix
        have hs2 := HST.out
        rw [if_pos hc] at hs2
        have HS2 := hidK hs2
        clear hs2 h1 hc
        go_wp2
        go_roundw
        case rel => exact ⟨k + 1, by go_num, by omega, by rw [HS2.out]; go_num, by rw [HS2.out]; omega, by first | rfl | trivial⟩
        case measure => simp [intOf]; omega
      · have h1 : ((S[k].toNat : Int) == 10) = false := by
          refine beq_eq_false_iff_ne.2 fun e => hc ?_
          apply UInt8.toNat_inj.1
          have : S[k].toNat = 10 := by omega
          rw [this]; rfl
        have hs2 := HST.out
        rw [if_neg hc, Nat.add_zero] at hs2
        have HS2 := hidK hs2
        clear hs2 hc
        go_wp2
        go_roundw
        case rel => exact ⟨k + 1, by go_num, by omega, by have h5 := HS2.out; simp only [Nat.add_zero] at h5; rw [h5], by have h5 := HS2.out; omega, by first | rfl | trivial⟩
        case measure => simp [intOf]; omega
    · obtain rfl : k = S.size := by omega
      have hall : nlC ((lsq S).take S.size) = n := by rw [List.take_of_length_le (by rw [lsq_size]; exact Nat.le_refl _), HSL.out, nlC_list, ← HN.out]
      rw [hall]
      clear hall hcl hk hks
      go_wp2
      go_loopw [9] (fun i wx => ∃ k : Nat, i = .int .i64 k ∧ k ≤ n ∧ Below wr.heap.size wr wx) (fun i _ => n - (intOf i).toNat)
      case atStart => exact ⟨0, rfl, Nat.zero_le _, Below.refl _ _⟩
      case round =>
        obtain ⟨k, rfl, hkn, hB⟩ := hrel
        by_cases hk : k < n
        · have kI : (k : Int) < (n : Int) := by omega
          have k0 : (0 : Int) ≤ (k : Int) := by omega
          have hkl : k < L.length := by have := HN.out; omega
          obtain ⟨⟨dd, uu, gg, mm, nn, zz, dt⟩, hx⟩ : ∃ x, L[k]? = some x := ⟨_, List.getElem?_eq_getElem hkl⟩
          obtain ⟨b3, o3, p3, e3, d0, d1, d2, d3, d4, d5, d6⟩ := (HV.out.on (bel3K HB3.out hB)).mx hx
          obtain ⟨b4, o4, p4, e4, f0⟩ := (HR3.out.on hB).tx (k := k) (x := nn) (by rw [List.getElem?_map, hx]; rfl)
          simp only [] at d4 f0
          injection e3 with e3 e3b e3c
          subst e3
          injection e4 with e4 e4b e4c
          subst e4
          clear hx hkl e3b e3c e4b e4c d0 d1 d2 d3 d5 d6
          go_wp2
          go_quiet (fail)
          have hB9 := belDrewN hB nq
          go_wp2
          go_roundw
          case rel => exact ⟨k + 1, by go_num, by omega, hB9⟩
          case measure => simp [intOf]; omega
        · obtain rfl : k = n := by omega
          go_wp2
          go_ret
          exact ⟨by simp, bel3K HB3.out hB⟩
end Go.Proofs.YtjpoifoejbabiabDoor
