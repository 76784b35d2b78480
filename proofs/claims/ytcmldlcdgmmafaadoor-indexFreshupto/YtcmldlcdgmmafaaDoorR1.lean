
-- shelfref11: known, good, ahead, Size: contracts.
import Derived.Test.YtcmldlcdgmmafaaDoorC4
import Derived.WalkLawsBesides
namespace Go.Proofs.YtcmldlcdgmmafaaDoor
open Go.ChangeShapes Go.WideShapes Go.ChangeAt Go.RowKit
set_option linter.unusedVariables false
set_option maxRecDepth 100000
theorem idxR (s : ByteArray) (k : Nat) (h : k < s.size) : ∀ w, (Instr.index 9 (.string s) (.int .i64 (k : Int))).run Tryd.prog w = .ok (.int .u8 (s[k].toNat : Int)) w := by
  intro w
  rw [run_index_string w 9 s .i64 k Tryd.underlying9, dif_pos (by omega)]
  simp
theorem at_some (s : ByteArray) (k : Nat) (h : k < s.size) : s.data.toList[k]? = some s[k] := by
  have hl : s.data.toList.length = s.size := by simp
  rw [List.getElem?_eq_getElem (by omega)]; rfl
def noZ (l : List UInt8) (k : Nat) : Prop := ∀ (j : Nat), j < k → l[j]? ≠ some 0
theorem noZ_next (s : ByteArray) (k : Nat) (h : k < s.size) (hd : noZ s.data.toList k) (h1 : ¬ s[k].toNat = 0) : noZ s.data.toList (k + 1) := by
  intro j hj hc
  by_cases e : j = k
  · subst e; rw [at_some s j h] at hc; injection hc with hc; rw [hc] at h1; exact h1 rfl
  · exact hd j (by omega) hc
theorem noZ_end (s : ByteArray) (hd : noZ s.data.toList s.size) : goodL s.data.toList = !s.data.toList.isEmpty := by
  have : ¬ (0 : UInt8) ∈ s.data.toList := by
    intro h
    obtain ⟨j, hj, e⟩ := List.mem_iff_getElem.1 h
    have hl : s.data.toList.length = s.size := by simp
    exact hd j (by omega) (by rw [List.getElem?_eq_getElem hj, e])
  unfold goodL; simp [this]
theorem goodL_z (s : ByteArray) (k : Nat) (h : k < s.size) (h1 : s[k].toNat = 0) : goodL s.data.toList = false := by
  have e : s[k] = 0 := UInt8.toNat_inj.1 h1
  have : (0 : UInt8) ∈ s.data.toList := by rw [← e]; exact List.mem_of_getElem? (at_some s k h)
  unfold goodL; simp [this]
set_option maxHeartbeats 1000000 in
theorem rgood_c (s : ByteArray) (w : World) (hm : s.size ≤ maxLen) :
    Calls Tryd.prog 22 #[.string s] w fun e w' => e = .returned (.bool (goodL s.data.toList)) ∧ w' = w := by
  unfold maxLen at hm
  go_enter Tryd.func22, Tryd.ntmps22
  go_wp2
  go_loop [3] (fun i => ∃ k : Nat, k ≤ s.size ∧ i = .int .i64 k ∧ noZ s.data.toList k) (fun i => s.size - (intOf i).toNat)
  case atStart => exact ⟨0, Nat.zero_le _, rfl, fun j hj => absurd hj (Nat.not_lt_zero _)⟩
  case round =>
    obtain ⟨k, hk, rfl, hd⟩ := hrel
    have HD : Hid (noZ s.data.toList k) := hd
    clear hd
    by_cases hlt : k < s.size
    · have hidx := idxR s k hlt
      by_cases h1 : s[k].toNat = 0
      · have c1 : ((s[k].toNat : Int) == 0) = true := by simp; omega
        have HV : Hid (goodL s.data.toList = false) := goodL_z s k hlt h1
        clear h1
        go_wp2
        go_ret
        exact ⟨by rw [HV.out]; rfl, rfl⟩
      · have c1 : ((s[k].toNat : Int) == 0) = false := by simp; omega
        have HN : Hid (¬ s[k].toNat = 0) := h1
        clear h1
        go_wp2
        go_round
        case rel => exact ⟨k + 1, by omega, by go_num, noZ_next s k hlt HD.out HN.out⟩
        case measure => simp [intOf]; omega
    · obtain rfl : k = s.size := by omega
      have HV : Hid (goodL s.data.toList = !s.data.toList.isEmpty) := noZ_end s HD.out
      by_cases h0 : s.toList = []
      · have h0' : s.toList.isEmpty = true := by rw [h0]; rfl
        have HE : Hid (s.data.toList.isEmpty = true) := by show _ = true; rw [← Lib.toList_data]; exact h0'
        go_wp2
        go_ret
        exact ⟨by rw [HV.out, HE.out]; rfl, rfl⟩
      · have h0' : s.toList.isEmpty = false := by simpa using h0
        have e1 : (s.toList != []) = true := by simpa using h0
        have e0 : (s.toList == []) = false := by simpa using h0
        have HE : Hid (s.data.toList.isEmpty = false) := by show _ = false; rw [← Lib.toList_data]; exact h0'
        clear h0
        go_wp2
        go_ret
        exact ⟨by rw [HV.out, HE.out]; rfl, rfl⟩
theorem rknown_c (f : Int) (w : World) : Calls Tryd.prog 20 #[.int .i64 f] w fun e w' => e = .returned (.bool (decide (known f))) ∧ w' = w := by
  have e : decide (known f) = ((f == 1) || (f == 2) || (f == 3)) := by rw [Bool.eq_iff_iff]; simp [known, or_assoc]
  rw [e]
  clear e
  go_enter Tryd.func20, Tryd.ntmps20
  go_wp2
  all_goals go_ret
  all_goals exact ⟨by simp_all, rfl⟩
theorem rahead_c (f : Int) (n : Nat) (w : World) (h : n < 1099511627776) : Calls Tryd.prog 21 #[.int .i64 f, .int .i64 n] w fun e w' => e = .returned (.int .i64 (headN f n : Nat)) ∧ w' = w := by
  unfold headN
  by_cases h1 : f = 1
  · subst h1
    go_enter Tryd.func21, Tryd.ntmps21
    go_wp2
    go_ret
    exact ⟨by simp, rfl⟩
  · rw [if_neg h1]
    by_cases h2 : f = 2
    · subst h2
      go_enter Tryd.func21, Tryd.ntmps21
      go_wp2
      go_ret
      exact ⟨by simp, rfl⟩
    · go_enter Tryd.func21, Tryd.ntmps21
      go_wp2
      go_ret
      exact ⟨by simp, rfl⟩
def evI (n : Nat) : Nat := if n % 2 = 1 then n + 1 else n
theorem head_even (f : Int) (n t : Nat) : evI (headN f n + t) = headN f n + evenN t := by unfold evI headN evenN; split <;> split <;> omega
set_option maxHeartbeats 2000000 in
theorem rsize_c (f : Int) (v : Value) (L : List ByteArray) (w : World) (hv : RowS w v L) (ht : totN L < 1099511627775) :
    Calls Tryd.prog 8 #[.int .i64 f, v] w fun e w' => e = .returned (.tuple #[.int .i64 (sizeA f L).1, .int .i64 (sizeA f L).2]) ∧ w' = w := by
  have HK : Hid (∀ w, Calls Tryd.prog 20 #[.int .i64 f] w fun e w' => e = .returned (.bool (decide (known f))) ∧ w' = w) := rknown_c f
  have hlen := totN_len L
  have HA : Hid (∀ w, Calls Tryd.prog 21 #[.int .i64 f, .int .i64 L.length] w fun e w' => e = .returned (.int .i64 (headN f L.length : Nat)) ∧ w' = w) := fun w => rahead_c f _ w (by omega)
  have hh : headN f L.length ≤ 8 + 8 * L.length := by unfold headN; split <;> omega
  have hrow : ∃ ao cap, v = .slice ao L.length cap ∧ (∀ j, j < L.length → ∃ b off, ao = some ⟨b, off, none⟩ ∧ w.cell? ⟨b, off + j, none⟩ = some (.string (L.getD j .empty))) := by
    rcases hv with ⟨rfl, ao, c, rfl⟩ | ⟨b, off, cap, rfl, h⟩
    · exact ⟨ao, c, rfl, fun j hj => absurd hj (Nat.not_lt_zero _)⟩
    · exact ⟨_, cap, rfl, fun j hj => ⟨b, off, rfl, h j hj⟩⟩
  obtain ⟨ao, cap, rfl, hcell⟩ := hrow
  have HC : Hid _ := hcell
  clear hv hcell
  by_cases hk : known f
  · rw [decide_eq_true hk] at HK
    have HKN : Hid (known f) := hk
    have HEV := head_even f L.length (totN L)
    have HEV : Hid _ := HEV
    clear hk
    obtain ⟨hd, hhd⟩ : ∃ hd, hd = headN f L.length := ⟨_, rfl⟩
    rw [← hhd] at HA hh
    have HHD : Hid (hd = headN f L.length) := hhd
    clear hhd
    go_enter Tryd.func8, Tryd.ntmps8
    go_wp2_with (first
      | (go_at_call 20; refine (HK.out _).mono ?_; rintro e w1 ⟨rfl, hw1⟩; subst w1)
      | (go_at_call 21; refine (HA.out _).mono ?_; rintro e w1 ⟨rfl, hw1⟩; subst w1))
    go_loop [6, 7] (fun t i => ∃ k : Nat, k ≤ L.length ∧ i = .int .i64 k ∧ t = .int .i64 (hd + totN (L.take k) : Nat) ∧ goodUp L k) (fun _ i => L.length - (intOf i).toNat)
    case atStart => exact ⟨0, Nat.zero_le _, rfl, rfl, fun j hj => absurd hj (Nat.not_lt_zero _)⟩
    case round =>
      obtain ⟨k, hk, rfl, rfl, hg⟩ := hrel
      have HU : Hid (goodUp L k) := hg
      clear hg
      by_cases hlt : k < L.length
      · obtain ⟨b, off, rfl, hc⟩ := HC.out k hlt
        have HN : Hid (totN (L.take (k + 1)) = totN (L.take k) + (L.getD k .empty).size + 1) := totN_take_next L k hlt
        have hle : totN (L.take k) + (L.getD k .empty).size + 1 ≤ totN L := by rw [← HN.out]; exact totN_take_le L _
        have HG : Hid (∀ (w : World), Calls Tryd.prog 22 #[.string (L.getD k .empty)] w fun e w' => e = .returned (.bool (goodL (L.getD k .empty).data.toList)) ∧ w' = w) := fun w => rgood_c _ w (by unfold maxLen; omega)
        cases hg : goodL (L.getD k .empty).data.toList
        · have HM : Hid (sizeA f L = (0, 80)) := sizeA_bad HKN.out (goodAll_no L k hlt hg)
          rw [hg] at HG
          generalize L.getD k .empty = s at *
          clear hg
          go_wp2_with (first
            | (go_at_call 22; refine (HG.out _).mono ?_; rintro e w1 ⟨rfl, hw1⟩; subst w1))
          go_ret2
          exact ⟨by rw [HM.out]; rfl, rfl⟩
        · have HV : Hid (goodUp L (k + 1)) := goodUp_next HU.out hg
          rw [hg] at HG
          generalize L.getD k .empty = s at *
          clear hg
          go_wp2_with (first
            | (go_at_call 22; refine (HG.out _).mono ?_; rintro e w1 ⟨rfl, hw1⟩; subst w1))
          go_round
          case rel => exact ⟨k + 1, by omega, by go_num, by rw [HN.out]; go_num, HV.out⟩
          case measure => simp [intOf]; omega
      · obtain rfl : k = L.length := by omega
        have HT : Hid (L.take L.length = L) := List.take_length
        rw [HT.out]
        have HM : Hid (sizeA f L = (((evI (hd + totN L) : Nat) : Int), (0 : Int))) := by show _ = _; rw [HHD.out, HEV.out]; exact sizeA_ok HKN.out (goodAll_yes L HU.out)
        obtain ⟨x, hx⟩ : ∃ x, x = hd + totN L := ⟨_, rfl⟩
        rw [← hx] at HM ⊢
        have hx2 : x < 17592186044416 := by omega
        clear hx
        by_cases ho : x % 2 = 1
        · have c1 : ((x : Int).tmod 2 == 1) = true := by rw [Int.tmod_eq_emod_of_nonneg (by omega)]; simp; omega
          have HX : Hid (evI x = x + 1) := by show _ = _; unfold evI; rw [if_pos ho]
          go_wp2
          go_ret2
          exact ⟨by rw [HM.out, HX.out]; simp, rfl⟩
        · have c1 : ((x : Int).tmod 2 == 1) = false := by rw [Int.tmod_eq_emod_of_nonneg (by omega)]; simp; omega
          have HX : Hid (evI x = x) := by show _ = _; unfold evI; rw [if_neg ho]
          go_wp2
          go_ret2
          exact ⟨by rw [HM.out, HX.out]; simp, rfl⟩
  · rw [decide_eq_false hk] at HK
    rw [sizeA_no L hk]
    clear hk
    go_enter Tryd.func8, Tryd.ntmps8
    go_wp2_with (first
      | (go_at_call 20; refine (HK.out _).mono ?_; rintro e w1 ⟨rfl, hw1⟩; subst w1))
    go_ret2
    exact ⟨rfl, rfl⟩
end Go.Proofs.YtcmldlcdgmmafaaDoor
