
-- Runes counted, and blanks.
import Derived.Test.YtjpoifoejbabiaaDoorF5
import Derived.Test.YtjpoifoejbabiaaDoorShelfD
namespace Go.Proofs.YtjpoifoejbabiaaDoor
open Go.RowKit
set_option linter.unusedVariables false
set_option maxRecDepth 100000
/-- How many runes. -/
def runesL (l : List UInt8) : Nat := (runsL l).length
theorem runesL_nil : runesL [] = 0 := rfl
theorem runesL_cons (l : List UInt8) (h : l ≠ []) : runesL l = 1 + runesL (l.drop (wid l)) := by
  unfold runesL; rw [runsL_cons l h, List.length_cons]; omega
theorem runesL_le (n : Nat) : ∀ l : List UInt8, l.length ≤ n → runesL l ≤ l.length := by
  induction n with
  | zero =>
    intro l hl
    obtain rfl : l = [] := List.eq_nil_of_length_eq_zero (by omega)
    rw [runesL_nil]; omega
  | succ n ih =>
    intro l hl
    by_cases h : l = []
    · subst h; rw [runesL_nil]; omega
    · rw [runesL_cons l h]
      have h1 := wid_pos l
      have h2 : 0 < l.length := List.length_pos_iff.2 h
      have := ih (l.drop (wid l)) (by simp; omega)
      simp at this; omega
set_option maxHeartbeats 1000000 in
theorem count_c (s : ByteArray) (w : World) (hm : s.size ≤ 4194304) :
    Calls Tryd.prog 39 #[.string s] w fun e w' => e = .returned (.int .i64 (runesL (lsq s))) ∧ Below w.heap.size w w' := by
  go_enter Tryd.func39, Tryd.ntmps39
  go_wp2
  go_loopw [3] (fun i wr => ∃ (pos n : Nat), i = .int .i64 n ∧ pos ≤ s.size ∧ n ≤ pos ∧ n + runesL ((lsq s).drop pos) = runesL (lsq s) ∧ wr.heap[w.heap.size]? = some (.stringIter s pos) ∧ Below w.heap.size w wr) (fun _ wr => s.size - wr.iterPos w.heap.size)
  case atStart =>
    refine ⟨0, 0, rfl, Nat.zero_le _, Nat.le_refl _, by simp, ?_, (Below.refl _ w).alloc (Nat.le_refl _) _⟩
    have := World.iter_heap w s 0
    simpa using this
  case round =>
    obtain ⟨pos, n, rfl, hps, hnp, hcnt, hit, hbw⟩ := hrel
    have HC : Hid (n + runesL ((lsq s).drop pos) = runesL (lsq s)) := hcnt
    clear hcnt
    by_cases hp : pos < s.size
    · have hd1 := dec1 s pos
      have hd2 := dec2 s pos hp
      have hwi := wid_in s pos hp
      have hw1 := wid_pos ((lsq s).drop pos)
      have hnx : ∀ ty, (Instr.next (.pointer (some ⟨w.heap.size, 0, none⟩)) true ty).run Tryd.prog wr = _ := fun ty => Lib.run_next_any_at wr w.heap.size s pos ty hit hp
      rw [hd1, hd2] at hnx
      have hne := dropq s pos hp
      have HB : Hid (runesL ((lsq s).drop pos) = 1 + runesL ((lsq s).drop (pos + wid ((lsq s).drop pos)))) := by
        show _ = _
        rw [runesL_cons _ hne, drop_wid]
      obtain ⟨n1, hn1⟩ : ∃ n, n = wid ((lsq s).drop pos) := ⟨_, rfl⟩
      obtain ⟨r, hr⟩ : ∃ r, r = valL ((lsq s).drop pos) := ⟨_, rfl⟩
      rw [← hn1] at hnx hwi hw1 HB
      rw [← hr] at hnx
      have hit2 := Lib.iterAt_heap wr w.heap.size s pos (pos + n1) hit
      have hbw2 := Lib.below_iterAt hbw (k := w.heap.size) (Nat.le_refl _) s (pos + n1)
      clear hn1 hr hd1 hd2 hne hbw
      go_wp2
      go_roundw
      case rel => exact ⟨pos + n1, n + 1, by go_num, hwi, by omega, by have h1 := HC.out; have h2 := HB.out; omega, hit2, hbw2⟩
      case measure =>
        simp only [World.iterPos, hit2, hit]
        omega
    · have hnx : ∀ ty, (Instr.next (.pointer (some ⟨w.heap.size, 0, none⟩)) true ty).run Tryd.prog wr = _ := fun ty => Lib.run_next_end_at wr w.heap.size s pos ty hit hp
      obtain rfl : pos = s.size := by omega
      have HE : Hid (n = runesL (lsq s)) := by
        show _ = _
        have := HC.out
        rw [List.drop_eq_nil_of_le (by rw [lsq_len]; exact Nat.le_refl _), runesL_nil] at this
        omega
      clear HC
      go_wp2
      go_ret
      exact ⟨by rw [HE.out]; rfl, hbw⟩
def spB (k : Nat) : ByteArray := strB (List.replicate k 32)
theorem repeat_one (d : Nat) : Lib.repeatL [32] d = List.replicate d 32 := by
  induction d with
  | zero => rfl
  | succ d ih => rw [Lib.repeatL, ih]; rfl
/-- How many blanks a text lacks. -/
def lackN (s : ByteArray) (n : Int) : Nat := (min (max n 0) 256).toNat - runesL (lsq s)
theorem lack_le (s : ByteArray) (n : Int) : lackN s n ≤ 256 := by unfold lackN; omega
set_option maxHeartbeats 1000000 in
theorem padding_c (s : ByteArray) (n : Int) (w : World) (hm : s.size ≤ 4194304) (hn : -9223372036854775808 ≤ n ∧ n ≤ 9223372036854775807) :
    Calls Tryd.prog 26 #[.string s, .int .i64 n] w fun e w' => e = .returned (.string (spB (lackN s n))) ∧ Below w.heap.size w w' := by
  have HC : Hid (∀ wx, Calls Tryd.prog 39 #[.string s] wx fun e w' => e = .returned (.int .i64 (runesL (lsq s))) ∧ Below wx.heap.size wx w') := fun wx => count_c s wx hm
  obtain ⟨d, hd⟩ : ∃ d, d = lackN s n := ⟨_, rfl⟩
  have hrl := runesL_le _ (lsq s) (Nat.le_refl _)
  rw [lsq_len] at hrl
  obtain ⟨c, hc⟩ : ∃ c : Nat, c = (min (max n 0) 256).toNat := ⟨_, rfl⟩
  have hc1 : min (max n 0) 256 = (c : Int) := by omega
  have hc2 : c ≤ 256 := by omega
  have hd1 : d = c - runesL (lsq s) := by rw [hd, hc]; rfl
  rw [← hd]
  obtain ⟨a, ha⟩ : ∃ a, a = runesL (lsq s) := ⟨_, rfl⟩
  rw [← ha] at HC hrl hd1
  have hd2 : max ((c : Int) - (a : Int)) 0 = (d : Int) := by omega
  have hd3 : d ≤ 256 := by omega
  have HR : Hid (∀ wx, Calls Tryd.prog 40 #[.string ⟨#[32]⟩, .int .i64 d] wx fun e w' => e = .returned (.string (spB d)) ∧ Below wx.heap.size wx w') := fun wx => by
    have := Tryd.strings_Repeat ⟨#[32]⟩ d wx (by omega) (by simp [ByteArray.size]; omega)
    rw [show (⟨#[32]⟩ : ByteArray).data.toList = [32] from rfl, repeat_one] at this
    exact this
  clear hc hd ha hd1 hn
  go_enter Tryd.func26, Tryd.ntmps26
  go_wp2_with (first
    | (go_at_call 39; refine (HC.out _).mono ?_; rintro e w2 ⟨rfl, hb2⟩)
    | (go_at_call 40; refine (HR.out _).mono ?_; rintro e w3 ⟨rfl, hb3⟩))
  go_ret
  exact ⟨rfl, hb2.trans (hb3.mono hb2.size)⟩
theorem sp_succ (k : Nat) : spB k ++ ⟨#[32]⟩ = spB (k + 1) := by
  apply ByteArray.ext
  apply Array.ext'
  simp [spB, strB, List.replicate_succ']
end Go.Proofs.YtjpoifoejbabiaaDoor
