
-- The statements' small functions: good, code, pieces, fileName, size.
import Derived.Test.YtbbblncoicjacaaGreatDoorFA
import Derived.Test.YtbbblncoicjacaaGreatDoorU9
namespace Go.Proofs.YtbbblncoicjacaaGreatDoor
open Go.ChangeShapes Go.WideShapes Go.ChangeAt Go.RowKit
set_option linter.unusedVariables false
theorem good_c (c : Int) (w : World) : Calls Tryz.prog 6 #[.int .i64 c] w fun e w' => e = .returned (.bool (decide (0 ≤ c ∧ c ≤ 1073741824))) ∧ w' = w := by
  by_cases h0 : 0 ≤ c
  · by_cases h1 : c ≤ 1073741824
    all_goals
      go_enter Tryz.func6, Tryz.ntmps6
      go_wp2
      go_ret
      exact ⟨by simp [h0, h1], rfl⟩
  · go_enter Tryz.func6, Tryz.ntmps6
    go_wp2
    go_ret
    exact ⟨by simp; omega, rfl⟩
theorem assertFE16 (v : Value) (w : World) : (Instr.typeAssert (.iface 79 v) 36 79 true).run Tryz.prog w = .ok (.tuple #[v, .bool true]) w := by kernel_rfl
set_option maxHeartbeats 4000000 in
theorem code_c (B : Nat) (op name : ByteArray) (e : Nat) (ev : Value) (w : World) (h : ErrIs w B op name e ev) :
    Calls Tryz.prog 18 #[ev] w fun r w' => r = .returned (.int .i64 e) ∧ w' = w := by
  rcases h with ⟨rfl, rfl⟩ | ⟨h0, b, h1, rfl, h3⟩
  · go_enter Tryz.func18, Tryz.ntmps18
    go_wp2
    go_ret
    exact ⟨rfl, rfl⟩
  · have hta := assertFE16
    have c2 : w.cell? ⟨b, 2, none⟩ = some (.int .i64 e) := by rw [Lib.cell_of_heap h3]; rfl
    clear h3 h1 h0
    go_enter Tryz.func18, Tryz.ntmps18
    go_wp2
    go_ret
    exact ⟨rfl, rfl⟩
theorem pieces_c (d : ByteArray) (w : World) (hd : d.size ≤ 140737488355328) : Calls Tryz.prog 17 #[.string d] w fun e w' => e = .returned (.int .i64 (nP d)) ∧ w' = w := by
  have h1 : ((d.size : Int) + 511).tdiv 512 = (nP d : Int) := by
    unfold nP
    rw [Int.tdiv_eq_ediv_of_nonneg (by omega)]; omega
  have b1 : IntKind.i64.wrap ((d.size : Int) + 511) = (d.size : Int) + 511 := wrap_i64 (by omega)
  have hnp : nP d ≤ 140737488355328 := by unfold nP; omega
  have b3 : wrap64 (nP d : Int) = (nP d : Int) := by unfold wrap64; omega
  go_enter Tryz.func17, Tryz.ntmps17
  go_wp2
  go_ret
  refine ⟨?_, rfl⟩
  rfl
theorem idx16 (s : ByteArray) (k : Nat) (h : k < s.size) : ∀ w, (Instr.index 9 (.string s) (.int .i64 (k : Int))).run Tryz.prog w = .ok (.int .u8 (s[k].toNat : Int)) w := by
  intro w
  rw [run_index_string w 9 s .i64 k Tryz.underlying9, dif_pos (by omega)]
  simp
theorem all_at16 (s : ByteArray) (k : Nat) (h : k < s.size) : (s.data.toList.drop k).all okByte = (okByte s[k] && (s.data.toList.drop (k + 1)).all okByte) := by
  rw [List.drop_eq_getElem_cons (by simpa using h)]; rfl
set_option maxHeartbeats 4000000 in
theorem lawName_c (s : ByteArray) (w : World) (hs : s.size ≤ 140737488355328) : Calls Tryz.prog 5 #[.string s] w fun e w' => e = .returned (.bool (okName s)) ∧ w' = w := by
  go_enter Tryz.func5, Tryz.ntmps5
  go_wp2
  go_loop [3] (fun i => ∃ k : Nat, i = .int .i64 k ∧ k ≤ s.size ∧ s.data.toList.all okByte = (s.data.toList.drop k).all okByte) (fun i => s.size - (intOf i).toNat)
  case atStart => exact ⟨0, rfl, Nat.zero_le _, rfl⟩
  case round =>
    obtain ⟨k, rfl, hks, hE⟩ := hrel
    by_cases hk : k < s.size
    · have hidx := idx16 s k hk
      have b3 : decide ((k : Int) < (s.size : Int)) = true := by simp; omega
      rw [all_at16 s k hk] at hE
      obtain ⟨c, hc⟩ : ∃ c, c = s[k] := ⟨_, rfl⟩
      rw [← hc] at hidx hE
      have HE : Hid (s.data.toList.all okByte = (okByte c && (s.data.toList.drop (k + 1)).all okByte)) := hE
      clear hc hE
      by_cases c1 : c = 47
      · have b4 : ((c.toNat : Int) == 47) = true := by rw [c1]; rfl
        have HR : Hid (okName s = false) := by show _ = _; unfold okName; rw [HE.out, c1]; simp [okByte]
        have HC : Hid (c = 47) := c1
        clear c1
        go_wp2
        go_ret
        exact ⟨by rw [HR.out]; rfl, rfl⟩
      · have b4 : ((c.toNat : Int) == 47) = false := by
          have : c.toNat ≠ 47 := fun h => c1 (UInt8.toNat_inj.1 h)
          simp; omega
        by_cases c2 : c = 0
        · have b5 : ((c.toNat : Int) == 0) = true := by rw [c2]; rfl
          have HR : Hid (okName s = false) := by show _ = _; unfold okName; rw [HE.out, c2]; simp [okByte]
          have HC : Hid (c = 0) := c2
          clear c2
          go_wp2
          go_ret
          exact ⟨by rw [HR.out]; rfl, rfl⟩
        · have b5 : ((c.toNat : Int) == 0) = false := by
            have : c.toNat ≠ 0 := fun h => c2 (UInt8.toNat_inj.1 h)
            simp; omega
          have HR : Hid (s.data.toList.all okByte = (s.data.toList.drop (k + 1)).all okByte) := by show _ = _; rw [HE.out]; simp [okByte, c1, c2]
          go_wp2
          exact ⟨⟨k + 1, by go_num, by omega, HR.out⟩, by simp [intOf]; omega⟩
    · obtain rfl : k = s.size := by omega
      have b3 : decide ((s.size : Int) < (s.size : Int)) = false := by simp
      have hA : s.data.toList.all okByte = true := by
        rw [hE, show s.data.toList.drop s.size = [] from List.drop_eq_nil_of_le (by simp)]; rfl
      clear hE
      by_cases h0 : s = ⟨#[]⟩
      · subst h0
        go_wp2
        go_ret
        exact ⟨by rfl, rfl⟩
      · have h1 := empty_no h0
        have hs1 : 1 ≤ s.size := by
          rcases Nat.eq_zero_or_pos s.size with h | h
          · exact absurd (by cases s with | mk d => have e : d = #[] := Array.eq_empty_of_size_eq_zero h; rw [e]) h0
          · exact h
        have hl : s.toList.isEmpty = false := by
          cases h : s.toList with
          | nil => exact absurd h h1
          | cons _ _ => rfl
        by_cases h64 : s.size ≤ 64
        · have HR : Hid (okName s = true) := by show _ = _; unfold okName; rw [hA]; simp [hs1, h64]
          have b1 : decide ((s.size : Int) ≤ 64) = true := decide_eq_true (by omega)
          clear hA h0
          go_wp2
          go_ret
          exact ⟨by rw [HR.out]; rfl, rfl⟩
        · have HR : Hid (okName s = false) := by show _ = _; unfold okName; simp [h64]
          have b1 : decide ((s.size : Int) ≤ 64) = false := decide_eq_false (by omega)
          clear hA h0
          go_wp2
          go_ret
          exact ⟨by rw [HR.out]; rfl, rfl⟩
set_option maxHeartbeats 4000000 in
theorem size_c (v : Value) (L : List Fil) (w : World) (h : RowF w v L) (hn : L.length ≤ 4194304) (hz : sizeF L ≤ 140737488355328) :
    Calls Tryz.prog 8 #[v] w fun e w' => e = .returned (.int .i64 (sizeF L)) ∧ w' = w := by
  obtain ⟨ao, cap, q1, _, _⟩ := h.form
  obtain ⟨n, hnn⟩ : ∃ n, n = L.length := ⟨_, rfl⟩
  have HN := hidK hnn
  have HQ := hidK h
  have HZ : Hid (sizeF L ≤ 140737488355328) := hz
  subst q1
  rw [← hnn] at hn HQ ⊢
  clear h hnn hz
  go_enter Tryz.func8, Tryz.ntmps8
  go_wp2
  go_loopw [3, 4] (fun s i wx => ∃ k : Nat, i = .int .i64 k ∧ k ≤ n ∧ s = .int .i64 (sizeF (L.take k)) ∧ wx = w) (fun _ i _ => n - (intOf i).toNat)
  case atStart => exact ⟨0, rfl, Nat.zero_le _, rfl, rfl⟩
  case round =>
    obtain ⟨k, rfl, hkn, rfl, hw⟩ := hrel
    subst hw
    have hZ := HZ.out
    by_cases hk : k < n
    · have kI : (k : Int) < (n : Int) := by omega
      have k0 : (0 : Int) ≤ (k : Int) := by omega
      have hkl : k < L.length := by have := HN.out; omega
      obtain ⟨⟨nn, ⟨m0, m1, m2, m3⟩, dt⟩, hx⟩ : ∃ x, L[k]? = some x := ⟨_, List.getElem?_eq_getElem hkl⟩
      have hst : sizeF (L.take (k + 1)) = sizeF (L.take k) + dt.size := by
        unfold sizeF; rw [List.take_add_one, hx]; simp
      have hle : sizeF (L.take (k + 1)) ≤ sizeF L := by
        have e : sizeF L = sizeF (L.take (k + 1)) + sizeF (L.drop (k + 1)) := by
          unfold sizeF; rw [← List.sum_append, ← List.map_append, List.take_append_drop]
        omega
      obtain ⟨b1, o1, p1, e1, d0, d1, d2, d3, d4, d5⟩ := HQ.out.fil hx
      injection e1 with e1 e1b e1c
      subst e1
      obtain ⟨z, hzz⟩ : ∃ z, z = sizeF (L.take k) := ⟨_, rfl⟩
      rw [← hzz] at hst ⊢
      have HST := hidK hst
      have bz : (z : Int) + (dt.size : Int) ≤ 140737488355328 := by omega
      have b0 : IntKind.i64.wrap ((z : Int) + (dt.size : Int)) = (z : Int) + (dt.size : Int) := wrap_i64 (by omega)
      clear hx HQ hkl e1b e1c d0 d1 d2 d3 d4 hle hst hzz
      go_wp2
      refine ⟨⟨k + 1, by go_num, by omega, ?_, by first | rfl | trivial⟩, by simp [intOf]; omega⟩
      rw [HST.out]
      first | rfl | (push_cast; rfl)
    · obtain rfl : k = n := by omega
      have hall : L.take k = L := by rw [HN.out]; exact List.take_length
      clear HQ
      go_wp2
      go_ret
      exact ⟨by rw [hall]; rfl, rfl⟩
end Go.Proofs.YtbbblncoicjacaaGreatDoor
