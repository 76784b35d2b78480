import Derived.Test.YthdgkghefjnfgabLine
import Derived.Test.YthdgkghefjnfgabInner
import Derived.Test.YthdgkghefjnfgabSame
namespace Go.Proofs.Ythdgkghefjnfgab
open Go.RowKit
set_option linter.unusedVariables false
set_option maxHeartbeats 1000000 in
theorem oneLine_c (s : ByteArray) (w : World) (hm : s.size ≤ 4194304) (hok : okL (lsq s) = true) :
    Calls Try.prog 11 #[.string s] w fun e w' => e = .returned (.bool true) ∧ Below w.heap.size w w' := by
  go_enter Try.func11, Try.ntmps11
  go_wp2
  go_loopw [] (fun wr => ∃ pos : Nat, pos ≤ s.size ∧ wr.heap[w.heap.size]? = some (.stringIter s pos) ∧ Below w.heap.size w wr ∧ okL ((lsq s).drop pos) = true) (fun wr => s.size - wr.iterPos w.heap.size)
  case atStart => exact ⟨0, Nat.zero_le _, (by have := World.iter_heap w s 0; simpa using this), (Below.refl _ w).alloc (Nat.le_refl _) _, hok⟩
  case round =>
    obtain ⟨pos, hps, hit, hbw, hop⟩ := hrel
    have HOP : Hid (okL ((lsq s).drop pos) = true) := hop
    have hsz : w.heap.size < wr.heap.size := (Array.getElem?_eq_some_iff.1 hit).1
    clear hop hok
    by_cases hp : pos < s.size
    · have hd1 := dec1 s pos
      have hd2 := dec2 s pos hp
      have hwi := wid_in s pos hp
      have hw1 := wid_pos ((lsq s).drop pos)
      have hnx : ∀ ty, (Instr.next (.pointer (some ⟨w.heap.size, 0, none⟩)) true ty).run Try.prog wr = _ := fun ty => Lib.run_next_any_at wr w.heap.size s pos ty hit hp
      rw [hd1, hd2] at hnx
      have hne := dropq s pos hp
      have h9 := valL_le _ hne
      obtain ⟨hv1, hv2, hv3, hnext⟩ := ok_head _ hne HOP.out
      have HNX : Hid (okL ((lsq s).drop (pos + wid ((lsq s).drop pos))) = true) := by rw [← drop_wid]; exact hnext
      have hpre : valL ((lsq s).drop pos) = 65533 → pos + 3 ≤ s.size ∧ (s.extract pos (pos + 3)).toList = [239, 191, 189] := by
        intro hv
        obtain ⟨t, ht⟩ := hv3 hv
        have hl := congrArg List.length ht
        rw [List.length_drop, lsq_len] at hl
        refine ⟨by simp at hl; omega, ?_⟩
        have hx : (s.extract pos (pos + 3)).data.toList = ((lsq s).drop pos).take 3 := by simp [lsq]
        rw [ByteArray.toList_eq, hx, ← ht]; rfl
      obtain ⟨n, hn⟩ : ∃ n, n = wid ((lsq s).drop pos) := ⟨_, rfl⟩
      obtain ⟨r, hr⟩ : ∃ r, r = valL ((lsq s).drop pos) := ⟨_, rfl⟩
      rw [← hn] at hnx hwi hw1 HNX
      rw [← hr] at hnx h9 hv1 hv2 hpre
      have hit2 := Lib.iterAt_heap wr w.heap.size s pos (pos + n) hit
      have hbw2 := Lib.below_iterAt hbw (k := w.heap.size) (Nat.le_refl _) s (pos + n)
      have b1 : decide ((r : Int) < 32) = false := by simp; omega
      clear hn hr hv3 hnext hd1 hd2 hne
      have fin : ∀ b2 : ((r : Int) == 65533) = false ∨ (r = 65533), True := fun _ => trivial
      by_cases hr5 : r = 65533
      · obtain ⟨hp3, hext⟩ := hpre hr5
        subst hr5
        have b3 : decide ((s.size : Int) < (pos : Int) + 3) = false := by simp; omega
        clear fin hpre hv2
        go_wp2
        go_roundw
        case rel => exact ⟨pos + n, hwi, hit2, hbw2, HNX.out⟩
        case measure =>
          simp only [World.iterPos, hit2, hit]
          omega
      · have b2 : ((r : Int) == 65533) = false := by simp; omega
        clear fin hpre hr5
        by_cases h127 : 127 ≤ r
        · have b4 : decide ((127 : Int) ≤ (r : Int)) = true := by simp; omega
          have b5 : decide ((r : Int) ≤ 159) = false := by simp; omega
          go_wp2
          go_roundw
          case rel => exact ⟨pos + n, hwi, hit2, hbw2, HNX.out⟩
          case measure =>
            simp only [World.iterPos, hit2, hit]
            omega
        · have b4 : decide ((127 : Int) ≤ (r : Int)) = false := by simp; omega
          go_wp2
          go_roundw
          case rel => exact ⟨pos + n, hwi, hit2, hbw2, HNX.out⟩
          case measure =>
            simp only [World.iterPos, hit2, hit]
            omega
    · have hnx : ∀ ty, (Instr.next (.pointer (some ⟨w.heap.size, 0, none⟩)) true ty).run Try.prog wr = _ := fun ty => Lib.run_next_end_at wr w.heap.size s pos ty hit hp
      go_wp2
      go_ret
      exact ⟨rfl, hbw⟩
theorem lst_lsq (s : ByteArray) : lst s = lsq s := rfl
set_option maxHeartbeats 1000000 in
theorem one_c (s x : ByteArray) (w : World) (hm : s.size ≤ 4194304) (hw : wordsL (lsq s) = .inr [x]) :
    Calls Try.prog 12 #[.string s, .string x] w fun e w' => e = .returned (.bool true) ∧ Below w.heap.size w w' := by
  have HT : Hid (∀ w, Calls Try.prog 14 #[.string s] w (WordsGave (.inr [x]) w)) := fun w => by have := words_c s w hm; rwa [lst_lsq, hw] at this
  clear hw
  go_enter Try.func12, Try.ntmps12
  go_wp2_with (go_at_call 14; refine (HT.out _).mono ?_)
  rintro e w1 ⟨hb1, v1, rfl, ho1⟩
  have hrow := RowS.of_own ho1
  rcases hrow with ⟨h0, _⟩ | ⟨b, off, cap, rfl, hc⟩
  · cases h0
  · have c0 : w1.cell? ⟨b, off, none⟩ = some (.string x) := hc 0 (by simp)
    simp only [List.length_cons, List.length_nil]
    clear hc ho1
    go_wp2_with (go_at_call 15; refine (num_c _ _).mono ?_; rintro e w4 ⟨rfl, hw4⟩; subst w4)
    go_returns
    exact ⟨by simp, hb1⟩
end Go.Proofs.Ythdgkghefjnfgab
