
-- shelfref11: get, name: contracts.
import Derived.Test.YtcmldlcdgmmafaaDoorI1
import Derived.Test.YtcmldlcdgmmafaaDoorKQ
import Derived.WalkLawsBesides
import Derived.Lib.IndexBytes
namespace Go.Proofs.YtcmldlcdgmmafaaDoor
open Go.ChangeShapes Go.WideShapes Go.ChangeAt Go.RowKit
set_option linter.unusedVariables false
set_option maxRecDepth 100000
theorem beNat_snoc (l : List UInt8) (x : UInt8) : beNat (l ++ [x]) = beNat l * 256 + x.toNat := by
  unfold beNat; rw [List.reverse_append]; simp only [List.reverse_cons, List.reverse_nil, List.nil_append, List.singleton_append, leNat]; omega
theorem beW_next (b : List UInt8) (p k : Nat) (x : UInt8) (h : b[p + k]? = some x) : beW b p (k + 1) = beW b p k * 256 + x.toNat := by
  unfold beW
  rw [List.take_add_one, List.getElem?_drop, h]
  exact beNat_snoc _ _
theorem beG_lt (b : List UInt8) (p w : Nat) : beW b p w < 256 ^ w := by
  unfold beW beNat
  refine Nat.lt_of_lt_of_le (leNat_lt _) (Nat.pow_le_pow_right (by omega) ?_)
  rw [List.length_reverse]; exact List.length_take_le _ _
def lastW (b : List UInt8) (p n k : Nat) : Nat := leNat ((b.drop (p + n - k)).take k)
theorem lastW_lt (b : List UInt8) (p n k : Nat) : lastW b p n k < 256 ^ k := by
  unfold lastW
  exact Nat.lt_of_lt_of_le (leNat_lt _) (Nat.pow_le_pow_right (by omega) (List.length_take_le _ _))
theorem lastW_next (b : List UInt8) (p n k : Nat) (x : UInt8) (hk : k < n) (h : b[p + n - 1 - k]? = some x) : lastW b p n (k + 1) = lastW b p n k * 256 + x.toNat := by
  obtain ⟨h1, h2⟩ := List.getElem?_eq_some_iff.1 h
  unfold lastW
  have e : p + n - (k + 1) = p + n - 1 - k := by omega
  rw [e, List.drop_eq_getElem_cons h1, h2, show p + n - 1 - k + 1 = p + n - k by omega]
  simp only [List.take_succ_cons, leNat]; omega
theorem at_someG (s : ByteArray) (k : Nat) (h : k < s.size) : s.data.toList[k]? = some s[k] := by
  have hl : s.data.toList.length = s.size := by simp
  rw [List.getElem?_eq_getElem (by omega)]; rfl
theorem idxG (s : ByteArray) (k : Nat) (z : Int) (hz : z = (k : Int)) (h : k < s.size) : ∀ w, (Instr.index 9 (.string s) (.int .i64 z)).run Tryd.prog w = .ok (.int .u8 (s[k].toNat : Int)) w := by
  subst hz
  intro w
  rw [run_index_string w 9 s .i64 k Tryd.underlying9, dif_pos (by omega)]
  simp
def getI (v : Nat) : Int := if v ≤ mostI then v else -1
theorem int_eqG {k : IntKind} {a b : Int} (h : a = b) : Value.int k a = .int k b := by rw [h]
theorem pow_le8 (k : Nat) (h : k ≤ 7) : 256 ^ k ≤ 72057594037927936 := Nat.le_trans (Nat.pow_le_pow_right (by omega) h) (by decide)
set_option maxHeartbeats 2000000 in
theorem rget_be (s : ByteArray) (p n : Nat) (w : World) (hn : n ≤ 8) (hp : p + n ≤ s.size) (hm : s.size ≤ 4611686018427387904) :
    Calls Tryd.prog 30 #[.string s, .int .i64 p, .int .i64 n, .bool false] w fun e w' => e = .returned (.int .i64 (getI (beW s.data.toList p n))) ∧ w' = w := by
  go_enter Tryd.func30, Tryd.ntmps30
  go_wp2
  go_loop [9, 10] (fun v i => ∃ k : Nat, k ≤ n ∧ i = .int .i64 k ∧ v = .int .u64 (beW s.data.toList p k : Nat)) (fun _ i => n - (intOf i).toNat)
  case atStart => exact ⟨0, Nat.zero_le _, rfl, rfl⟩
  case round =>
    obtain ⟨k, hk, rfl, rfl⟩ := hrel
    by_cases hlt : k < n
    · have hidx := idxG s (p + k) ((p : Int) + (k : Int)) (by omega) (by omega)
      have HN : Hid (beW s.data.toList p (k + 1) = beW s.data.toList p k * 256 + s[p + k].toNat) := beW_next _ _ _ _ (at_someG s (p + k) (by omega))
      have hB : beW s.data.toList p k < 72057594037927936 := Nat.lt_of_lt_of_le (beG_lt _ _ _) (pow_le8 k (by omega))
      have hx := u8_lt s[p + k]
      generalize beW s.data.toList p k = V at *
      generalize s[p + k].toNat = x at *
      go_wp2
      go_round
      case rel => exact ⟨k + 1, by omega, by go_num, int_eqG (by rw [HN.out]; omega)⟩
      case measure => simp [intOf]; omega
    · obtain rfl : k = n := by omega
      have hB : beW s.data.toList p k < 18446744073709551616 := Nat.lt_of_lt_of_le (beG_lt _ _ _) (Nat.le_trans (Nat.pow_le_pow_right (by omega) hn) (by decide))
      by_cases hc : beW s.data.toList p k ≤ mostI
      · have HG : Hid (getI (beW s.data.toList p k) = (beW s.data.toList p k : Nat)) := by show _ = _; unfold getI; rw [if_pos hc]
        unfold mostI at hc
        generalize hV : beW s.data.toList p k = V at *
        have HV : Hid _ := hV
        clear hV
        go_wp2
        go_ret
        exact ⟨by rw [HV.out, HG.out]; rfl, rfl⟩
      · have HG : Hid (getI (beW s.data.toList p k) = -1) := by show _ = _; unfold getI; rw [if_neg hc]
        unfold mostI at hc
        generalize hV : beW s.data.toList p k = V at *
        have HV : Hid _ := hV
        clear hV
        go_wp2
        go_ret
        exact ⟨by rw [HV.out, HG.out]; rfl, rfl⟩
set_option maxHeartbeats 2000000 in
theorem rget_last (s : ByteArray) (p n : Nat) (w : World) (hn : n ≤ 8) (hp : p + n ≤ s.size) (hm : s.size ≤ 4611686018427387904) :
    Calls Tryd.prog 30 #[.string s, .int .i64 p, .int .i64 n, .bool true] w fun e w' => e = .returned (.int .i64 (getI (lastW s.data.toList p n n))) ∧ w' = w := by
  go_enter Tryd.func30, Tryd.ntmps30
  go_wp2
  go_loop [9, 10] (fun v i => ∃ k : Nat, k ≤ n ∧ i = .int .i64 k ∧ v = .int .u64 (lastW s.data.toList p n k : Nat)) (fun _ i => n - (intOf i).toNat)
  case atStart => exact ⟨0, Nat.zero_le _, rfl, rfl⟩
  case round =>
    obtain ⟨k, hk, rfl, rfl⟩ := hrel
    by_cases hlt : k < n
    · have hidx := idxG s (p + n - 1 - k) ((p : Int) + (n : Int) - 1 - (k : Int)) (by omega) (by omega)
      have HN : Hid (lastW s.data.toList p n (k + 1) = lastW s.data.toList p n k * 256 + s[p + n - 1 - k].toNat) := lastW_next _ _ _ _ _ hlt (at_someG s (p + n - 1 - k) (by omega))
      have hB : lastW s.data.toList p n k < 72057594037927936 := Nat.lt_of_lt_of_le (lastW_lt _ _ _ _) (pow_le8 k (by omega))
      have hx := u8_lt s[p + n - 1 - k]
      generalize lastW s.data.toList p n k = V at *
      generalize s[p + n - 1 - k].toNat = x at *
      go_wp2
      go_round
      case rel => exact ⟨k + 1, by omega, by go_num, int_eqG (by rw [HN.out]; omega)⟩
      case measure => simp [intOf]; omega
    · obtain rfl : k = n := by omega
      have hB : lastW s.data.toList p k k < 18446744073709551616 := Nat.lt_of_lt_of_le (lastW_lt _ _ _ _) (Nat.le_trans (Nat.pow_le_pow_right (by omega) hn) (by decide))
      by_cases hc : lastW s.data.toList p k k ≤ mostI
      · have HG : Hid (getI (lastW s.data.toList p k k) = (lastW s.data.toList p k k : Nat)) := by show _ = _; unfold getI; rw [if_pos hc]
        unfold mostI at hc
        generalize hV : lastW s.data.toList p k k = V at *
        have HV : Hid _ := hV
        clear hV
        go_wp2
        go_ret
        exact ⟨by rw [HV.out, HG.out]; rfl, rfl⟩
      · have HG : Hid (getI (lastW s.data.toList p k k) = -1) := by show _ = _; unfold getI; rw [if_neg hc]
        unfold mostI at hc
        generalize hV : lastW s.data.toList p k k = V at *
        have HV : Hid _ := hV
        clear hV
        go_wp2
        go_ret
        exact ⟨by rw [HV.out, HG.out]; rfl, rfl⟩
theorem rget_le (s : ByteArray) (p n : Nat) (w : World) (hn : n ≤ 8) (hp : p + n ≤ s.size) (hm : s.size ≤ 4611686018427387904) :
    Calls Tryd.prog 30 #[.string s, .int .i64 p, .int .i64 n, .bool true] w fun e w' => e = .returned (.int .i64 (getI (leW s.data.toList p n))) ∧ w' = w := by
  have h := rget_last s p n w hn hp hm
  have e : lastW s.data.toList p n n = leW s.data.toList p n := by unfold lastW leW; rw [show p + n - n = p by omega]
  rwa [e] at h
def nmV (b : List UInt8) (p : Nat) : ByteArray := if (zAt b p).isSome = true then strL ((b.drop p).take ((zAt b p).getD 0 - p)) else ⟨#[]⟩
theorem nmV_ok {b : List UInt8} {p e : Nat} (h : nmE b p = some e) : nmV b p = nmS b p := by
  have hz : zAt b p = some e := by
    unfold nmE at h
    cases q : zAt b p with
    | none => rw [q] at h; cases h
    | some x =>
      rw [q] at h; simp only [Option.bind_some] at h
      by_cases hx : p < x
      · rw [if_pos hx] at h; exact h
      · rw [if_neg hx] at h; cases h
  unfold nmV nmS; rw [h, hz]; rfl
set_option maxHeartbeats 2000000 in
theorem rname_c (s : ByteArray) (p : Nat) (w : World) (hm : s.size ≤ 4611686018427387904) (hp : p ≤ 4611686018427387904) :
    Calls Tryd.prog 31 #[.string s, .int .i64 p] w fun e w' => e = .returned (.tuple #[.string (nmV s.data.toList p), .bool (nmE s.data.toList p).isSome]) ∧ w' = w := by
  have hl : s.data.toList.length = s.size := by simp
  go_enter Tryd.func31, Tryd.ntmps31
  go_wp2
  go_loop [6] (fun i => ∃ k : Nat, p ≤ k ∧ i = .int .i64 k ∧ (k = p ∨ k ≤ s.size) ∧ (∀ j, p ≤ j → j < k → s.data.toList[j]? ≠ some 0)) (fun i => s.size - (intOf i).toNat)
  case atStart => exact ⟨p, Nat.le_refl _, rfl, .inl rfl, fun j h1 h2 => absurd h1 (by omega)⟩
  case round =>
    obtain ⟨k, hpk, rfl, hk, hz⟩ := hrel
    have HZ : Hid (∀ j, p ≤ j → j < k → s.data.toList[j]? ≠ some 0) := hz
    clear hz
    have hki : k ≤ 4611686018427387904 := by omega
    by_cases hlt : k < s.size
    · have hidx := idxG s k (k : Int) rfl hlt
      have HAT : Hid (s.data.toList[k]? = some s[k]) := at_someG s k hlt
      by_cases h0 : s[k].toNat = 0
      · have c1 : ((s[k].toNat : Int) == 0) = true := by simp; omega
        have HE : Hid (zAt s.data.toList p = some k) := zAt_at _ _ _ hpk (by rw [HAT.out, UInt8.toNat_inj.1 (show s[k].toNat = (0 : UInt8).toNat from h0)]) HZ.out
        have hsl : ∀ w, (Instr.slice 9 (.string s) (some (.int .i64 (p : Int))) (some (.int .i64 (k : Int))) none).run Tryd.prog w = .ok (.string (strL ((s.data.toList.drop p).take (k - p)))) w := by
          intro w
          rw [run_slice_string w 9 s .i64 .i64 p (k : Int) Tryd.underlying9 (by omega) (by omega) (by omega), Int.toNat_natCast, Int.toNat_natCast, Lib.extract_eq]
          rfl
        have HD : Hid ((nmE s.data.toList p).isSome = decide (p < k)) := by
          show _ = _; unfold nmE; rw [HE.out]; simp only [Option.bind_some]; by_cases h : p < k <;> simp [h]
        have HV : Hid (nmV s.data.toList p = strL ((s.data.toList.drop p).take (k - p))) := by show _ = _; unfold nmV; rw [HE.out]; rfl
        clear h0
        go_wp2
        go_ret2
        exact ⟨by rw [HD.out, HV.out]; simp, rfl⟩
      · have c1 : ((s[k].toNat : Int) == 0) = false := by simp; omega
        have HNX : Hid (∀ j, p ≤ j → j < k + 1 → s.data.toList[j]? ≠ some 0) := fun j h1 h2 => by
          by_cases e : j = k
          · subst e; rw [HAT.out]; intro q; injection q with q; rw [q] at h0; exact h0 rfl
          · exact HZ.out j h1 (by omega)
        clear h0
        go_wp2
        go_round
        case rel => exact ⟨k + 1, by omega, by go_num, .inr (by omega), HNX.out⟩
        case measure => simp [intOf]; omega
    · have HE : Hid (zAt s.data.toList p = none) := zAt_no _ _ (fun j h1 h2 => by
        have := (List.getElem?_eq_some_iff.1 h2).1
        exact HZ.out j h1 (by omega) h2)
      have HD : Hid ((nmE s.data.toList p).isSome = false) := by show _ = _; unfold nmE; rw [HE.out]; rfl
      have HV : Hid (nmV s.data.toList p = ⟨#[]⟩) := by show _ = _; unfold nmV; rw [HE.out]; rfl
      go_wp2
      go_ret2
      exact ⟨by rw [HD.out, HV.out]; rfl, rfl⟩
end Go.Proofs.YtcmldlcdgmmafaaDoor
