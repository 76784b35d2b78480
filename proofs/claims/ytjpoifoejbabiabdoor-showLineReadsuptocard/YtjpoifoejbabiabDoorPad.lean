
-- Runes counted, and blanks.
import Derived.Test.YtjpoifoejbabiabDoorF5
import Derived.Test.YtjpoifoejbabiabDoorShelfD
namespace Go.Proofs.YtjpoifoejbabiabDoor
open Go.RowKit
set_option linter.unusedVariables false
set_option maxRecDepth 100000
/-- How many runes. -/
def runesL (l : List UInt8) : Nat := (runsL l).length
theorem runesL_nil : runesL [] = 0 := rfl
theorem runesL_cons (l : List UInt8) (h : l ≠ []) : runesL l = 1 + runesL (l.drop (wid l)) := by
  unfold runesL; rw [runsL_cons l h, List.length_cons]; omega
theorem runesL_le (n : Nat) : ∀ l : List UInt8, l.length ≤ n → runesL l ≤ l.length := by
  induction n with
  | zero =>
    intro l hl
    obtain rfl : l = [] := List.eq_nil_of_length_eq_zero (by omega)
    rw [runesL_nil]; omega
  | succ n ih =>
    intro l hl
    by_cases h : l = []
    · subst h; rw [runesL_nil]; omega
    · rw [runesL_cons l h]
      have h1 := wid_pos l
      have h2 : 0 < l.length := List.length_pos_iff.2 h
      have := ih (l.drop (wid l)) (by simp; omega)
      simp at this; omega
set_option maxHeartbeats 1000000 in
theorem count_c (s : ByteArray) (w : World) (hm : s.size ≤ 4194304) :
    Calls Tryd.prog 57 #[.string s] w fun e w' => e = .returned (.int .i64 (runesL (lsq s))) ∧ Below w.heap.size w w' := by
  go_enter Tryd.func57, Tryd.ntmps57
  go_wp2
  go_loopw [3] (fun i wr => ∃ (pos n : Nat), i = .int .i64 n ∧ pos ≤ s.size ∧ n ≤ pos ∧ n + runesL ((lsq s).drop pos) = runesL (lsq s) ∧ wr.heap[w.heap.size]? = some (.stringIter s pos) ∧ Below w.heap.size w wr) (fun _ wr => s.size - wr.iterPos w.heap.size)
  case atStart =>
    refine ⟨0, 0, rfl, Nat.zero_le _, Nat.le_refl _, by simp, ?_, (Below.refl _ w).alloc (Nat.le_refl _) _⟩
    have := World.iter_heap w s 0
    simpa using this
  case round =>
    obtain ⟨pos, n, rfl, hps, hnp, hcnt, hit, hbw⟩ := hrel
    have HC : Hid (n + runesL ((lsq s).drop pos) = runesL (lsq s)) := hcnt
    clear hcnt
    by_cases hp : pos < s.size
    · have hd1 := dec1 s pos
      have hd2 := dec2 s pos hp
      have hwi := wid_in s pos hp
      have hw1 := wid_pos ((lsq s).drop pos)
      have hnx : ∀ ty, (Instr.next (.pointer (some ⟨w.heap.size, 0, none⟩)) true ty).run Tryd.prog wr = _ := fun ty => Lib.run_next_any_at wr w.heap.size s pos ty hit hp
      rw [hd1, hd2] at hnx
      have hne := dropq s pos hp
      have HB : Hid (runesL ((lsq s).drop pos) = 1 + runesL ((lsq s).drop (pos + wid ((lsq s).drop pos)))) := by
        show _ = _
        rw [runesL_cons _ hne, drop_wid]
      obtain ⟨n1, hn1⟩ : ∃ n, n = wid ((lsq s).drop pos) := ⟨_, rfl⟩
      obtain ⟨r, hr⟩ : ∃ r, r = valL ((lsq s).drop pos) := ⟨_, rfl⟩
      rw [← hn1] at hnx hwi hw1 HB
      rw [← hr] at hnx
      have hit2 := Lib.iterAt_heap wr w.heap.size s pos (pos + n1) hit
      have hbw2 := Lib.below_iterAt hbw (k := w.heap.size) (Nat.le_refl _) s (pos + n1)
      clear hn1 hr hd1 hd2 hne hbw
      go_wp2
      go_roundw
      case rel => exact ⟨pos + n1, n + 1, by go_num, hwi, by omega, by have h1 := HC.out; have h2 := HB.out; omega, hit2, hbw2⟩
      case measure =>
        simp only [World.iterPos, hit2, hit]
        omega
    · have hnx : ∀ ty, (Instr.next (.pointer (some ⟨w.heap.size, 0, none⟩)) true ty).run Tryd.prog wr = _ := fun ty => Lib.run_next_end_at wr w.heap.size s pos ty hit hp
      obtain rfl : pos = s.size := by omega
      have HE : Hid (n = runesL (lsq s)) := by
        show _ = _
        have := HC.out
        rw [List.drop_eq_nil_of_le (by rw [lsq_len]; exact Nat.le_refl _), runesL_nil] at this
        omega
      clear HC
      go_wp2
      go_ret
      exact ⟨by rw [HE.out]; rfl, hbw⟩
set_option maxHeartbeats 1000000 in
theorem runes_c (s : ByteArray) (w : World) (hm : s.size ≤ 4194304) :
    Calls Tryd.prog 72 #[.string s] w fun e w' => e = .returned (.int .i64 (runesL (lsq s))) ∧ Below w.heap.size w w' := by
  have HR : Hid (∀ (at_ : Nat) w, at_ ≤ s.size → Calls Tryd.prog 53 #[.string s, .int .i64 at_] w fun e w' => e = .returned (.int .i64 (runLen ((lsq s).drop at_))) ∧ Below w.heap.size w w') := fun at_ w h => runAt_c s at_ w hm h
  go_enter Tryd.func72, Tryd.ntmps72
  go_wp2
  go_loopw [3, 4] (fun i j wr => ∃ (pos n : Nat), i = .int .i64 n ∧ j = .int .i64 pos ∧ pos ≤ s.size ∧ n ≤ pos ∧ n + runesL ((lsq s).drop pos) = runesL (lsq s) ∧ Below w.heap.size w wr) (fun _ j _ => s.size - (intOf j).toNat)
  case atStart => exact ⟨0, 0, rfl, rfl, Nat.zero_le _, Nat.le_refl _, by simp, Below.refl _ w⟩
  case round =>
    obtain ⟨pos, n, rfl, rfl, hps, hnp, hcnt, hbw⟩ := hrel
    have HC : Hid (n + runesL ((lsq s).drop pos) = runesL (lsq s)) := hcnt
    clear hcnt
    by_cases hp : pos < s.size
    · have b1 : decide ((pos : Int) < (s.size : Int)) = true := by simp; omega
      have hwi := wid_in s pos hp
      have hw1 := wid_pos ((lsq s).drop pos)
      have hne := dropq s pos hp
      have HB : Hid (runesL ((lsq s).drop pos) = 1 + runesL ((lsq s).drop (pos + wid ((lsq s).drop pos)))) := by
        show _ = _
        rw [runesL_cons _ hne, drop_wid]
      have HRK := HR.out pos wr hps
      obtain ⟨n1, hn1⟩ : ∃ n, n = wid ((lsq s).drop pos) := ⟨_, rfl⟩
      obtain ⟨k, hk⟩ : ∃ k, k = runLen ((lsq s).drop pos) := ⟨_, rfl⟩
      have hnk : n1 = max 1 k := by rw [hn1, hk]; rfl
      rw [← hn1] at hwi hw1 HB
      rw [← hk] at HRK
      have HRK' : Hid (Calls Tryd.prog 53 #[.string s, .int .i64 pos] wr fun e w' => e = .returned (.int .i64 k) ∧ Below wr.heap.size wr w') := HRK
      clear hn1 hk hne HRK
      rcases Nat.eq_zero_or_pos k with hk0 | hk0
      · subst hk0
        obtain rfl : n1 = 1 := by omega
        clear hnk hw1
        go_wp2_with (go_at_call 53; refine (HRK'.out).mono ?_; rintro e w2 ⟨rfl, hb2⟩)
        go_roundw
        case rel => exact ⟨pos + 1, n + 1, by go_num, by go_num, hwi, by omega, by have h1 := HC.out; have h2 := HB.out; omega, hbw.trans (hb2.mono hbw.size)⟩
        case measure => simp [intOf]; omega
      · obtain rfl : n1 = k := by omega
        have b2 : ((n1 : Int) == 0) = false := beq_eq_false_iff_ne.2 (by omega)
        have HP : Hid (1 ≤ n1) := hw1
        clear hnk hk0 hw1
        go_wp2_with (go_at_call 53; refine (HRK'.out).mono ?_; rintro e w2 ⟨rfl, hb2⟩)
        go_roundw
        case rel => exact ⟨pos + n1, n + 1, by go_num, by go_num, hwi, by have := HP.out; omega, by have h1 := HC.out; have h2 := HB.out; omega, hbw.trans (hb2.mono hbw.size)⟩
        case measure => have := HP.out; simp [intOf]; omega
    · obtain rfl : pos = s.size := by omega
      have b1 : decide ((s.size : Int) < (s.size : Int)) = false := by simp
      have HE : Hid (n = runesL (lsq s)) := by
        show _ = _
        have := HC.out
        rw [List.drop_eq_nil_of_le (by rw [lsq_len]; exact Nat.le_refl _), runesL_nil] at this
        omega
      clear HC
      go_wp2
      go_ret
      exact ⟨by rw [HE.out]; rfl, hbw⟩
def spB (k : Nat) : ByteArray := strB (List.replicate k 32)
theorem repeat_one (d : Nat) : Lib.repeatL [32] d = List.replicate d 32 := by
  induction d with
  | zero => rfl
  | succ d ih => rw [Lib.repeatL, ih]; rfl
/-- How many blanks a text lacks. -/
def lackN (s : ByteArray) (n : Int) : Nat := (min (max n 0) 256).toNat - runesL (lsq s)
theorem lack_le (s : ByteArray) (n : Int) : lackN s n ≤ 256 := by unfold lackN; omega
set_option maxHeartbeats 1000000 in
theorem padding_c (s : ByteArray) (n : Int) (w : World) (hm : s.size ≤ 4194304) (hn : -9223372036854775808 ≤ n ∧ n ≤ 9223372036854775807) :
    Calls Tryd.prog 38 #[.string s, .int .i64 n] w fun e w' => e = .returned (.string (spB (lackN s n))) ∧ Below w.heap.size w w' := by
  have HC : Hid (∀ wx, Calls Tryd.prog 57 #[.string s] wx fun e w' => e = .returned (.int .i64 (runesL (lsq s))) ∧ Below wx.heap.size wx w') := fun wx => count_c s wx hm
  obtain ⟨d, hd⟩ : ∃ d, d = lackN s n := ⟨_, rfl⟩
  have hrl := runesL_le _ (lsq s) (Nat.le_refl _)
  rw [lsq_len] at hrl
  obtain ⟨c, hc⟩ : ∃ c : Nat, c = (min (max n 0) 256).toNat := ⟨_, rfl⟩
  have hc1 : min (max n 0) 256 = (c : Int) := by omega
  have hc2 : c ≤ 256 := by omega
  have hd1 : d = c - runesL (lsq s) := by rw [hd, hc]; rfl
  rw [← hd]
  obtain ⟨a, ha⟩ : ∃ a, a = runesL (lsq s) := ⟨_, rfl⟩
  rw [← ha] at HC hrl hd1
  have hd2 : max ((c : Int) - (a : Int)) 0 = (d : Int) := by omega
  have hd3 : d ≤ 256 := by omega
  have HR : Hid (∀ wx, Calls Tryd.prog 58 #[.string ⟨#[32]⟩, .int .i64 d] wx fun e w' => e = .returned (.string (spB d)) ∧ Below wx.heap.size wx w') := fun wx => by
    have := Tryd.strings_Repeat ⟨#[32]⟩ d wx (by omega) (by simp [ByteArray.size]; omega)
    rw [show (⟨#[32]⟩ : ByteArray).data.toList = [32] from rfl, repeat_one] at this
    exact this
  clear hc hd ha hd1 hn
  go_enter Tryd.func38, Tryd.ntmps38
  go_wp2_with (first
    | (go_at_call 57; refine (HC.out _).mono ?_; rintro e w2 ⟨rfl, hb2⟩)
    | (go_at_call 58; refine (HR.out _).mono ?_; rintro e w3 ⟨rfl, hb3⟩))
  go_ret
  exact ⟨rfl, hb2.trans (hb3.mono hb2.size)⟩
theorem sp_succ (k : Nat) : spB k ++ ⟨#[32]⟩ = spB (k + 1) := by
  apply ByteArray.ext
  apply Array.ext'
  simp [spB, strB, List.replicate_succ']
set_option maxHeartbeats 1000000 in
theorem blanks_c (s : ByteArray) (n : Int) (w : World) (hm : s.size ≤ 4194304) (hn : -9223372036854775808 ≤ n ∧ n ≤ 9223372036854775807) :
    Calls Tryd.prog 50 #[.string s, .int .i64 n] w fun e w' => e = .returned (.string (spB (lackN s n))) ∧ Below w.heap.size w w' := by
  have HC : Hid (∀ wx, Calls Tryd.prog 72 #[.string s] wx fun e w' => e = .returned (.int .i64 (runesL (lsq s))) ∧ Below wx.heap.size wx w') := fun wx => runes_c s wx hm
  have hrl := runesL_le _ (lsq s) (Nat.le_refl _)
  rw [lsq_len] at hrl
  obtain ⟨a, ha⟩ : ∃ a, a = runesL (lsq s) := ⟨_, rfl⟩
  have HL : Hid (lackN s n = (min (max n 0) 256).toNat - a) := by show _ = _; unfold lackN; rw [ha]
  rw [← ha] at HC hrl
  obtain ⟨d, hd⟩ : ∃ d, d = lackN s n := ⟨_, rfl⟩
  have hda := HL.out
  rw [← hd] at hda ⊢
  obtain ⟨m, hm1⟩ : ∃ m : Int, m = min n 256 := ⟨_, rfl⟩
  have HM : Hid (d = (m - (a : Int)).toNat ∧ d ≤ 256) := by
    show _ ∧ _
    constructor <;> omega
  have hm2 : m ≤ 256 ∧ -9223372036854775808 ≤ m := by omega
  have START : ∀ wx : World, Below w.heap.size w wx → True := fun _ _ => trivial
  clear START hda hd ha HL
  by_cases h : 256 < n
  · have b0 : decide ((256 : Int) < n) = true := by simp; omega
    obtain rfl : m = 256 := by omega
    clear hm1
    go_enter Tryd.func50, Tryd.ntmps50
    go_wp2_with (go_at_call 72; refine (HC.out _).mono ?_; rintro e w2 ⟨rfl, hb2⟩)
    go_loopw [5, 7] (fun o i wr => ∃ k : Nat, i = .int .i64 ((a : Int) + k) ∧ o = .string (spB k) ∧ k ≤ d ∧ wr = w2) (fun _ i _ => (256 - intOf i).toNat)
    case atStart => exact ⟨0, by simp, rfl, Nat.zero_le _, rfl⟩
    case round =>
      obtain ⟨k, rfl, rfl, hkd, hwr⟩ := hrel
      subst hwr
      have hMM := HM.out
      by_cases hk : k < d
      · have b1 : decide ((a : Int) + (k : Int) < 256) = true := by simp; omega
        have hks : (spB k).size = k := by simp [spB, strB, ByteArray.size]
        have HS := sp_succ k
        have HMM : Hid (d = (256 - (a : Int)).toNat ∧ d ≤ 256) := hMM
        have hk2 : k ≤ 256 := by omega
        clear hMM HM
        go_wp2
        go_roundw
        case rel => exact ⟨k + 1, by go_num, by first | rfl | (rw [sp_succ]), by omega, by first | rfl | trivial⟩
        case measure => have := HMM.out; simp [intOf]; omega
      · have b1 : decide ((a : Int) + (k : Int) < 256) = false := by simp; omega
        obtain rfl : k = d := by omega
        clear hMM HM
        go_wp2
        go_ret
        exact ⟨rfl, hb2⟩
  · have b0 : decide ((256 : Int) < n) = false := by simp; omega
    obtain rfl : m = n := by omega
    clear hm1
    go_enter Tryd.func50, Tryd.ntmps50
    go_wp2_with (go_at_call 72; refine (HC.out _).mono ?_; rintro e w2 ⟨rfl, hb2⟩)
    go_loopw [5, 7] (fun o i wr => ∃ k : Nat, i = .int .i64 ((a : Int) + k) ∧ o = .string (spB k) ∧ k ≤ d ∧ wr = w2) (fun _ i _ => (m - intOf i).toNat)
    case atStart => exact ⟨0, by simp, rfl, Nat.zero_le _, rfl⟩
    case round =>
      obtain ⟨k, rfl, rfl, hkd, hwr⟩ := hrel
      subst hwr
      have hMM := HM.out
      by_cases hk : k < d
      · have b1 : decide ((a : Int) + (k : Int) < m) = true := by simp; omega
        have hks : (spB k).size = k := by simp [spB, strB, ByteArray.size]
        have HS := sp_succ k
        have HMM : Hid (d = (m - (a : Int)).toNat ∧ d ≤ 256) := hMM
        have hk2 : k ≤ 256 := by omega
        clear hMM HM
        go_wp2
        go_roundw
        case rel => exact ⟨k + 1, by go_num, by first | rfl | (rw [sp_succ]), by omega, by first | rfl | trivial⟩
        case measure => have := HMM.out; simp [intOf]; omega
      · have b1 : decide ((a : Int) + (k : Int) < m) = false := by simp; omega
        obtain rfl : k = d := by omega
        clear hMM HM
        go_wp2
        go_ret
        exact ⟨rfl, hb2⟩
end Go.Proofs.YtjpoifoejbabiabDoor
