
-- The document's own runes: does a form stand here?
import Derived.Test.YtjpoifoejbabiabDoorF1
namespace Go.Proofs.YtjpoifoejbabiabDoor
open Go.RowKit
set_option linter.unusedVariables false
set_option maxRecDepth 100000
theorem dropq_cons (s : ByteArray) (k : Nat) (h : k < s.size) : (lsq s).drop k = s[k] :: (lsq s).drop (k + 1) := by
  have hl := lsq_len s
  rw [List.drop_eq_getElem_cons (by omega)]; rfl
theorem fits_step0 (n L0 H0 L1 H1 L2 H2 L3 H3 : Nat) (h : 0 < n) {c : UInt8} {r : List UInt8} :
    fitsL ((([(L0, H0), (L1, H1), (L2, H2), (L3, H3)] : List (Nat × Nat)).take n).drop 0) (c :: r) = (decide (L0 ≤ c.toNat) && decide (c.toNat ≤ H0) && fitsL ((([(L0, H0), (L1, H1), (L2, H2), (L3, H3)] : List (Nat × Nat)).take n).drop 1) r) := by
  obtain ⟨m, rfl⟩ : ∃ m, n = m + 1 := ⟨n - 1, by omega⟩
  simp [fitsL]
theorem fits_step1 (n L0 H0 L1 H1 L2 H2 L3 H3 : Nat) (h : 1 < n) {c : UInt8} {r : List UInt8} :
    fitsL ((([(L0, H0), (L1, H1), (L2, H2), (L3, H3)] : List (Nat × Nat)).take n).drop 1) (c :: r) = (decide (L1 ≤ c.toNat) && decide (c.toNat ≤ H1) && fitsL ((([(L0, H0), (L1, H1), (L2, H2), (L3, H3)] : List (Nat × Nat)).take n).drop 2) r) := by
  obtain ⟨m, rfl⟩ : ∃ m, n = m + 2 := ⟨n - 2, by omega⟩
  simp [fitsL]
theorem fits_step2 (n L0 H0 L1 H1 L2 H2 L3 H3 : Nat) (h : 2 < n) {c : UInt8} {r : List UInt8} :
    fitsL ((([(L0, H0), (L1, H1), (L2, H2), (L3, H3)] : List (Nat × Nat)).take n).drop 2) (c :: r) = (decide (L2 ≤ c.toNat) && decide (c.toNat ≤ H2) && fitsL ((([(L0, H0), (L1, H1), (L2, H2), (L3, H3)] : List (Nat × Nat)).take n).drop 3) r) := by
  obtain ⟨m, rfl⟩ : ∃ m, n = m + 3 := ⟨n - 3, by omega⟩
  simp [fitsL]
theorem fits_step3 (n L0 H0 L1 H1 L2 H2 L3 H3 : Nat) (h : 3 < n) {c : UInt8} {r : List UInt8} :
    fitsL ((([(L0, H0), (L1, H1), (L2, H2), (L3, H3)] : List (Nat × Nat)).take n).drop 3) (c :: r) = (decide (L3 ≤ c.toNat) && decide (c.toNat ≤ H3) && fitsL ((([(L0, H0), (L1, H1), (L2, H2), (L3, H3)] : List (Nat × Nat)).take n).drop 4) r) := by
  obtain ⟨m, rfl⟩ : ∃ m, n = m + 4 := ⟨n - 4, by omega⟩
  simp [fitsL]
theorem fits_short (f : List (Nat × Nat)) : ∀ l : List UInt8, l.length < f.length → fitsL f l = false := by
  induction f with
  | nil => intro l h; simp at h
  | cons x f ih =>
    intro l h
    obtain ⟨lo, hi⟩ := x
    cases l with
    | nil => rfl
    | cons c l => simp only [fitsL]; rw [ih l (by simpa using h)]; simp
set_option maxHeartbeats 2000000 in
theorem fits_c (n L0 H0 L1 H1 L2 H2 L3 H3 : Nat) (s : ByteArray) (at_ : Nat) (w : World) (hn : 1 ≤ n ∧ n ≤ 4) (hm : s.size ≤ 4194304) (ha : at_ ≤ s.size) (hs : L0 < 256 ∧ H0 < 256 ∧ L1 < 256 ∧ H1 < 256 ∧ L2 < 256 ∧ H2 < 256 ∧ L3 < 256 ∧ H3 < 256) :
    Calls Tryd.prog 76 #[.agg (formC n L0 H0 L1 H1 L2 H2 L3 H3), .string s, .int .i64 at_] w fun e w' => e = .returned (.bool (fitsL (([(L0, H0), (L1, H1), (L2, H2), (L3, H3)] : List (Nat × Nat)).take n) ((lsq s).drop at_))) ∧ Below w.heap.size w w' := by
  obtain ⟨prs, hprs⟩ : ∃ prs, prs = ([(L0, H0), (L1, H1), (L2, H2), (L3, H3)] : List (Nat × Nat)) := ⟨_, rfl⟩
  rw [← hprs]
  have hpl : prs.length = 4 := by rw [hprs]; rfl
  unfold formC
  by_cases hfit : at_ + n ≤ s.size
  · have b0 : decide ((s.size : Int) < (at_ : Int) + (n : Int)) = false := by simp; omega
    go_enter Tryd.func76, Tryd.ntmps76
    go_wp2
    go_loopw [7] (fun i wx => ∃ k : Nat, i = .int .i64 k ∧ k ≤ n ∧ wx = w.alloc (.cells #[.int .i64 n, .int .u8 L0, .int .u8 H0, .int .u8 L1, .int .u8 H1, .int .u8 L2, .int .u8 H2, .int .u8 L3, .int .u8 H3] 103) ∧ fitsL (prs.take n) ((lsq s).drop at_) = fitsL ((prs.take n).drop k) ((lsq s).drop (at_ + k))) (fun i _ => n - (intOf i).toNat)
    case atStart => exact ⟨0, rfl, Nat.zero_le _, rfl, by simp⟩
    case round =>
    obtain ⟨k, rfl, hkn0, rfl, hfe⟩ := hrel
    have HFE : Hid (fitsL (prs.take n) ((lsq s).drop at_) = fitsL ((prs.take n).drop k) ((lsq s).drop (at_ + k))) := hfe
    have hk4 : k = 0 ∨ k = 1 ∨ k = 2 ∨ k = 3 ∨ k = 4 := by omega
    clear hfe
    rcases hk4 with rfl | rfl | rfl | rfl | rfl
    · -- place 0
      by_cases hkn : 0 < n
      · have b1 : decide ((0 : Int) < (n : Int)) = true := by simp; omega
        have hin : at_ + 0 < s.size := by omega
        have hix : ∀ w, (Instr.index 9 (.string s) (.int .i64 ((at_ : Int)))).run Tryd.prog w = .ok (.int .u8 ((s[at_ + 0]'hin).toNat : Int)) w := by
          have := idxq s (at_ + 0) hin
          simpa using this
        have hdr := dropq_cons s (at_ + 0) hin
        obtain ⟨c, hc⟩ : ∃ c, c = s[at_ + 0]'hin := ⟨_, rfl⟩
        rw [← hc] at hix hdr
        have hc9 := c.toNat_lt
        have HST : Hid (fitsL ((prs.take n).drop 0) ((lsq s).drop (at_ + 0)) = (decide (L0 ≤ c.toNat) && decide (c.toNat ≤ H0) && fitsL ((prs.take n).drop 1) ((lsq s).drop (at_ + 0 + 1)))) := by
          show _ = _
          rw [hdr, hprs, fits_step0 n L0 H0 L1 H1 L2 H2 L3 H3 hkn]
        obtain ⟨cn, hcn⟩ : ∃ cn : Nat, cn = c.toNat := ⟨_, rfl⟩
        rw [← hcn] at hix hc9 HST
        clear hdr hc hcn
        by_cases hlo : L0 ≤ cn
        · have b2 : decide ((cn : Int) < (L0 : Int)) = false := by simp; omega
          by_cases hhi : cn ≤ H0
          · have b3 : decide ((H0 : Int) < (cn : Int)) = false := by simp; omega
            have HNX : Hid (fitsL (prs.take n) ((lsq s).drop at_) = fitsL ((prs.take n).drop 1) ((lsq s).drop (at_ + 1))) := by
              show _ = _
              rw [HFE.out, HST.out, decide_eq_true hlo, decide_eq_true hhi]; rfl
            clear HST HFE
            go_wp2
            go_roundw
            case rel => exact ⟨1, rfl, by omega, (by first | rfl | trivial), HNX.out⟩
            case measure => simp [intOf]; omega
          · have b3 : decide ((H0 : Int) < (cn : Int)) = true := by simp; omega
            have HNO : Hid (fitsL (prs.take n) ((lsq s).drop at_) = false) := by
              show _ = _
              rw [HFE.out, HST.out, decide_eq_false hhi]; simp
            clear HST HFE
            go_wp2
            go_ret
            exact ⟨by rw [HNO.out]; rfl, by go_grown⟩
        · have b2 : decide ((cn : Int) < (L0 : Int)) = true := by simp; omega
          have HNO : Hid (fitsL (prs.take n) ((lsq s).drop at_) = false) := by
            show _ = _
            rw [HFE.out, HST.out, decide_eq_false hlo]; simp
          clear HST HFE
          go_wp2
          go_ret
          exact ⟨by rw [HNO.out]; rfl, by go_grown⟩
      · omega
    · -- place 1
      by_cases hkn : 1 < n
      · have b1 : decide ((1 : Int) < (n : Int)) = true := by simp; omega
        have hin : at_ + 1 < s.size := by omega
        have hix : ∀ w, (Instr.index 9 (.string s) (.int .i64 ((at_ : Int) + 1))).run Tryd.prog w = .ok (.int .u8 ((s[at_ + 1]'hin).toNat : Int)) w := by
          have := idxq s (at_ + 1) hin
          simpa using this
        have hdr := dropq_cons s (at_ + 1) hin
        obtain ⟨c, hc⟩ : ∃ c, c = s[at_ + 1]'hin := ⟨_, rfl⟩
        rw [← hc] at hix hdr
        have hc9 := c.toNat_lt
        have HST : Hid (fitsL ((prs.take n).drop 1) ((lsq s).drop (at_ + 1)) = (decide (L1 ≤ c.toNat) && decide (c.toNat ≤ H1) && fitsL ((prs.take n).drop 2) ((lsq s).drop (at_ + 1 + 1)))) := by
          show _ = _
          rw [hdr, hprs, fits_step1 n L0 H0 L1 H1 L2 H2 L3 H3 hkn]
        obtain ⟨cn, hcn⟩ : ∃ cn : Nat, cn = c.toNat := ⟨_, rfl⟩
        rw [← hcn] at hix hc9 HST
        clear hdr hc hcn
        by_cases hlo : L1 ≤ cn
        · have b2 : decide ((cn : Int) < (L1 : Int)) = false := by simp; omega
          by_cases hhi : cn ≤ H1
          · have b3 : decide ((H1 : Int) < (cn : Int)) = false := by simp; omega
            have HNX : Hid (fitsL (prs.take n) ((lsq s).drop at_) = fitsL ((prs.take n).drop 2) ((lsq s).drop (at_ + 2))) := by
              show _ = _
              rw [HFE.out, HST.out, decide_eq_true hlo, decide_eq_true hhi]; rfl
            clear HST HFE
            go_wp2
            go_roundw
            case rel => exact ⟨2, rfl, by omega, (by first | rfl | trivial), HNX.out⟩
            case measure => simp [intOf]; omega
          · have b3 : decide ((H1 : Int) < (cn : Int)) = true := by simp; omega
            have HNO : Hid (fitsL (prs.take n) ((lsq s).drop at_) = false) := by
              show _ = _
              rw [HFE.out, HST.out, decide_eq_false hhi]; simp
            clear HST HFE
            go_wp2
            go_ret
            exact ⟨by rw [HNO.out]; rfl, by go_grown⟩
        · have b2 : decide ((cn : Int) < (L1 : Int)) = true := by simp; omega
          have HNO : Hid (fitsL (prs.take n) ((lsq s).drop at_) = false) := by
            show _ = _
            rw [HFE.out, HST.out, decide_eq_false hlo]; simp
          clear HST HFE
          go_wp2
          go_ret
          exact ⟨by rw [HNO.out]; rfl, by go_grown⟩
      · have b1 : decide ((1 : Int) < (n : Int)) = false := by simp; omega
        have HYES : Hid (fitsL (prs.take n) ((lsq s).drop at_) = true) := by
          show _ = _
          rw [HFE.out, List.drop_eq_nil_of_le (by rw [List.length_take]; omega)]; simp [fitsL]
        clear HFE
        go_wp2
        go_ret
        exact ⟨by rw [HYES.out]; rfl, by go_grown⟩
    · -- place 2
      by_cases hkn : 2 < n
      · have b1 : decide ((2 : Int) < (n : Int)) = true := by simp; omega
        have hin : at_ + 2 < s.size := by omega
        have hix : ∀ w, (Instr.index 9 (.string s) (.int .i64 ((at_ : Int) + 2))).run Tryd.prog w = .ok (.int .u8 ((s[at_ + 2]'hin).toNat : Int)) w := by
          have := idxq s (at_ + 2) hin
          simpa using this
        have hdr := dropq_cons s (at_ + 2) hin
        obtain ⟨c, hc⟩ : ∃ c, c = s[at_ + 2]'hin := ⟨_, rfl⟩
        rw [← hc] at hix hdr
        have hc9 := c.toNat_lt
        have HST : Hid (fitsL ((prs.take n).drop 2) ((lsq s).drop (at_ + 2)) = (decide (L2 ≤ c.toNat) && decide (c.toNat ≤ H2) && fitsL ((prs.take n).drop 3) ((lsq s).drop (at_ + 2 + 1)))) := by
          show _ = _
          rw [hdr, hprs, fits_step2 n L0 H0 L1 H1 L2 H2 L3 H3 hkn]
        obtain ⟨cn, hcn⟩ : ∃ cn : Nat, cn = c.toNat := ⟨_, rfl⟩
        rw [← hcn] at hix hc9 HST
        clear hdr hc hcn
        by_cases hlo : L2 ≤ cn
        · have b2 : decide ((cn : Int) < (L2 : Int)) = false := by simp; omega
          by_cases hhi : cn ≤ H2
          · have b3 : decide ((H2 : Int) < (cn : Int)) = false := by simp; omega
            have HNX : Hid (fitsL (prs.take n) ((lsq s).drop at_) = fitsL ((prs.take n).drop 3) ((lsq s).drop (at_ + 3))) := by
              show _ = _
              rw [HFE.out, HST.out, decide_eq_true hlo, decide_eq_true hhi]; rfl
            clear HST HFE
            go_wp2
            go_roundw
            case rel => exact ⟨3, rfl, by omega, (by first | rfl | trivial), HNX.out⟩
            case measure => simp [intOf]; omega
          · have b3 : decide ((H2 : Int) < (cn : Int)) = true := by simp; omega
            have HNO : Hid (fitsL (prs.take n) ((lsq s).drop at_) = false) := by
              show _ = _
              rw [HFE.out, HST.out, decide_eq_false hhi]; simp
            clear HST HFE
            go_wp2
            go_ret
            exact ⟨by rw [HNO.out]; rfl, by go_grown⟩
        · have b2 : decide ((cn : Int) < (L2 : Int)) = true := by simp; omega
          have HNO : Hid (fitsL (prs.take n) ((lsq s).drop at_) = false) := by
            show _ = _
            rw [HFE.out, HST.out, decide_eq_false hlo]; simp
          clear HST HFE
          go_wp2
          go_ret
          exact ⟨by rw [HNO.out]; rfl, by go_grown⟩
      · have b1 : decide ((2 : Int) < (n : Int)) = false := by simp; omega
        have HYES : Hid (fitsL (prs.take n) ((lsq s).drop at_) = true) := by
          show _ = _
          rw [HFE.out, List.drop_eq_nil_of_le (by rw [List.length_take]; omega)]; simp [fitsL]
        clear HFE
        go_wp2
        go_ret
        exact ⟨by rw [HYES.out]; rfl, by go_grown⟩
    · -- place 3
      by_cases hkn : 3 < n
      · have b1 : decide ((3 : Int) < (n : Int)) = true := by simp; omega
        have hin : at_ + 3 < s.size := by omega
        have hix : ∀ w, (Instr.index 9 (.string s) (.int .i64 ((at_ : Int) + 3))).run Tryd.prog w = .ok (.int .u8 ((s[at_ + 3]'hin).toNat : Int)) w := by
          have := idxq s (at_ + 3) hin
          simpa using this
        have hdr := dropq_cons s (at_ + 3) hin
        obtain ⟨c, hc⟩ : ∃ c, c = s[at_ + 3]'hin := ⟨_, rfl⟩
        rw [← hc] at hix hdr
        have hc9 := c.toNat_lt
        have HST : Hid (fitsL ((prs.take n).drop 3) ((lsq s).drop (at_ + 3)) = (decide (L3 ≤ c.toNat) && decide (c.toNat ≤ H3) && fitsL ((prs.take n).drop 4) ((lsq s).drop (at_ + 3 + 1)))) := by
          show _ = _
          rw [hdr, hprs, fits_step3 n L0 H0 L1 H1 L2 H2 L3 H3 hkn]
        obtain ⟨cn, hcn⟩ : ∃ cn : Nat, cn = c.toNat := ⟨_, rfl⟩
        rw [← hcn] at hix hc9 HST
        clear hdr hc hcn
        by_cases hlo : L3 ≤ cn
        · have b2 : decide ((cn : Int) < (L3 : Int)) = false := by simp; omega
          by_cases hhi : cn ≤ H3
          · have b3 : decide ((H3 : Int) < (cn : Int)) = false := by simp; omega
            have HNX : Hid (fitsL (prs.take n) ((lsq s).drop at_) = fitsL ((prs.take n).drop 4) ((lsq s).drop (at_ + 4))) := by
              show _ = _
              rw [HFE.out, HST.out, decide_eq_true hlo, decide_eq_true hhi]; rfl
            clear HST HFE
            go_wp2
            go_roundw
            case rel => exact ⟨4, rfl, by omega, (by first | rfl | trivial), HNX.out⟩
            case measure => simp [intOf]; omega
          · have b3 : decide ((H3 : Int) < (cn : Int)) = true := by simp; omega
            have HNO : Hid (fitsL (prs.take n) ((lsq s).drop at_) = false) := by
              show _ = _
              rw [HFE.out, HST.out, decide_eq_false hhi]; simp
            clear HST HFE
            go_wp2
            go_ret
            exact ⟨by rw [HNO.out]; rfl, by go_grown⟩
        · have b2 : decide ((cn : Int) < (L3 : Int)) = true := by simp; omega
          have HNO : Hid (fitsL (prs.take n) ((lsq s).drop at_) = false) := by
            show _ = _
            rw [HFE.out, HST.out, decide_eq_false hlo]; simp
          clear HST HFE
          go_wp2
          go_ret
          exact ⟨by rw [HNO.out]; rfl, by go_grown⟩
      · have b1 : decide ((3 : Int) < (n : Int)) = false := by simp; omega
        have HYES : Hid (fitsL (prs.take n) ((lsq s).drop at_) = true) := by
          show _ = _
          rw [HFE.out, List.drop_eq_nil_of_le (by rw [List.length_take]; omega)]; simp [fitsL]
        clear HFE
        go_wp2
        go_ret
        exact ⟨by rw [HYES.out]; rfl, by go_grown⟩
    · have b1 : decide ((4 : Int) < (n : Int)) = false := by simp; omega
      have HYES : Hid (fitsL (prs.take n) ((lsq s).drop at_) = true) := by
        show _ = _
        rw [HFE.out, List.drop_eq_nil_of_le (by rw [List.length_take]; omega)]; simp [fitsL]
      clear HFE
      go_wp2
      go_ret
      exact ⟨by rw [HYES.out]; rfl, by go_grown⟩
  · have b0 : decide ((s.size : Int) < (at_ : Int) + (n : Int)) = true := by simp; omega
    have HNO : Hid (fitsL (prs.take n) ((lsq s).drop at_) = false) := by
      refine fits_short _ _ ?_
      rw [List.length_drop, lsq_len, List.length_take, hpl]; omega
    go_enter Tryd.func76, Tryd.ntmps76
    go_wp2
    go_ret
    exact ⟨by rw [HNO.out]; rfl, by go_grown⟩
end Go.Proofs.YtjpoifoejbabiabDoor
