
-- The document's Find, over what its Decode says.
import Derived.Test.YtcmldlcdgmmafaaDoorFW
namespace Go.Proofs.YtcmldlcdgmmafaaDoor
open Go.ChangeShapes Go.WideShapes Go.ChangeAt Go.RowKit
set_option linter.unusedVariables false
set_option maxRecDepth 100000
set_option maxHeartbeats 4000000 in
theorem rfind_e (f : Int) (s nm : ByteArray) (E : Int) (L : List En) (w : World) (hE : E ≠ 0)
    (HD : Hid (Calls Tryd.prog 11 #[.int .i64 f, .string s] w fun e w'' => DecSays E L w e w'')) :
    Calls Tryd.prog 14 #[.int .i64 f, .string s, .string nm] w fun e w' => FdSays E L nm w e w' := by
  have h1 : (E == 0) = false := by simpa using hE
  have h2 : (E != 0) = true := by simpa using hE
  have HE := hidK hE
  clear hE
  go_enter Tryd.func14, Tryd.ntmps14
  go_wp2_with (go_at_call 11; refine HD.out.mono ?_; rintro e w1 ⟨a, n, c, rfl, o1, b1⟩)
  go_ret2
  exact FdSays.err HE.out b1
set_option maxHeartbeats 4000000 in
theorem rfind_0 (f : Int) (s nm : ByteArray) (L : List En) (w : World) (hL : L.length < 4294967296)
    (HD : Hid (Calls Tryd.prog 11 #[.int .i64 f, .string s] w fun e w'' => DecSays 0 L w e w'')) :
    Calls Tryd.prog 14 #[.int .i64 f, .string s, .string nm] w fun e w' => FdSays 0 L nm w e w' := by
  go_enter Tryd.func14, Tryd.ntmps14
  go_upto_region 4 with (first
    | (go_at_call 11; refine HD.out.mono ?_; rintro e w1 ⟨a, n, c, rfl, o1, b1⟩))
  have O1 := hidK (rowE_own o1)
  obtain ⟨a', c', e1⟩ := O1.out.form
  injection e1 with e1 e2 e3
  subst e1
  subst e2
  subst e3
  obtain ⟨n, hnn⟩ : ∃ n, n = L.length := ⟨_, rfl⟩
  have HN := hidK hnn
  rw [← hnn] at hL ⊢ O1
  clear o1 hnn HD
  go_wp2
  go_loopw [10] (fun i wx => ∃ k : Nat, i = .int .i64 k ∧ k ≤ n ∧ (∀ j y, j < k → L[j]? = some y → y.name ≠ nm) ∧ wx = w1) (fun i _ => n - (intOf i).toNat)
  case atStart => exact ⟨0, rfl, Nat.zero_le _, fun j y h => absurd h (Nat.not_lt_zero _), rfl⟩
  case round =>
    obtain ⟨k, rfl, hkn, hno, rfl⟩ := hrel
    have HNO := hidK hno
    clear hno
    by_cases hk : k < n
    · have kI : (k : Int) < (n : Int) := by omega
      have k0 : (0 : Int) ≤ (k : Int) := by omega
      have hkl : k < L.length := by have := HN.out; omega
      obtain ⟨⟨x, pl⟩, hx⟩ : ∃ x, L[k]? = some x := ⟨_, List.getElem?_eq_getElem hkl⟩
      obtain ⟨b, off, cap, e1, d1, d2⟩ := O1.out.at hx
      have HX := hidK hx
      injection e1 with e1 e2 e3
      subst e1
      simp only [] at d1 d2
      clear hx hkl e2 e3
      by_cases hq : x = nm
      · subst hq
        have HE := hidK (fstN_at HX.out rfl HNO.out)
        go_wp2
        go_ret2
        exact FdSays.at HE.out HX.out b1
      · have HQ := hidK hq
        have hs := strNe hq
        clear hq
        go_wp2
        go_roundw
        case rel =>
          refine ⟨k + 1, by go_num, by omega, fun j y hj hy => ?_, trivial⟩
          by_cases e : j = k
          · subst e; rw [HX.out] at hy; injection hy with hy; rw [← hy]; exact HQ.out
          · exact HNO.out j y (by omega) hy
        case measure => simp [intOf]; omega
    · obtain rfl : k = n := by omega
      have HE := hidK (fstN_no (L := L) (nm := nm) (fun j y hj hy => HNO.out j y (by have := HN.out; omega) hy))
      clear O1
      go_wp2
      go_ret2
      exact FdSays.none HE.out b1
theorem rfind_c (f : Int) (s nm : ByteArray) (E : Int) (L : List En) (w : World) (hL : L.length < 4294967296)
    (HD : Calls Tryd.prog 11 #[.int .i64 f, .string s] w fun e w'' => DecSays E L w e w'') :
    Calls Tryd.prog 14 #[.int .i64 f, .string s, .string nm] w fun e w' => FdSays E L nm w e w' := by
  by_cases hE : E = 0
  · subst hE; exact rfind_0 f s nm L w hL HD
  · exact rfind_e f s nm E L w hE HD
end Go.Proofs.YtcmldlcdgmmafaaDoor
