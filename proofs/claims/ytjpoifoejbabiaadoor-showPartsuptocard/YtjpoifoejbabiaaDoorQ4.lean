
import Derived.Test.YtjpoifoejbabiaaDoorQ3
namespace Go.Proofs.YtjpoifoejbabiaaDoor
open Go.RowKit
set_option linter.unusedVariables false
set_option maxRecDepth 100000
theorem strB_lsq (s : ByteArray) : strB (lsq s) = s := by
  cases s; simp [strB, lsq]
set_option maxHeartbeats 2000000 in
theorem quote_c (s : ByteArray) (w : World) (hm : s.size ≤ 4194304) :
    Calls Tryd.prog 11 #[.string s] w fun e w' => e = .returned (.string (strB (quoteL (lsq s)))) ∧ Below w.heap.size w w' := by
  have HP : Hid (∀ w, Calls Tryd.prog 20 #[.string s] w fun e w' => e = .returned (.bool (bareL (lsq s))) ∧ Below w.heap.size w w') := fun w => isPlainName_c s w hm
  rcases hb : bareL (lsq s) with _ | _
  · rw [hb] at HP
    have HQ : Hid (quoteL (lsq s) = 34 :: (bodyL (lsq s) ++ [34])) := by show _ = _; unfold quoteL; rw [hb]; simp
    clear hb
    go_enter Tryd.func11, Tryd.ntmps11
    go_wp2_with (go_at_call 20; refine (HP.out _).mono ?_; rintro e w1 ⟨rfl, hb1⟩)
    have s1 := hb1.size
    have H34 : Hid (∀ (bs : List UInt8) (wx : World), bs.length + 1 ≤ 140737488355328 → IsB w1.heap.size w1.heap.size bs wx → w1.heap.size ≤ wx.heap.size → Calls Tryd.prog 21 #[.pointer (some ⟨w1.heap.size, 0, none⟩), .int .u8 34] wx fun e w' => e = .returned .nilIface ∧ IsB w1.heap.size w1.heap.size (bs ++ [34]) w' ∧ Below w1.heap.size wx w' ∧ Kept w1.heap.size wx w') := fun bs wx hl h hB => writeByte_c w1.heap.size w1.heap.size bs 34 wx h hl hB
    have hf : IsB w1.heap.size w1.heap.size [] (w1.alloc (.cells #[.pointer none, .slice none 0 0] 39)) := Lib.IsBuilderF.of (Lib.fresh_isBuilder 39 5 w1)
    have hs0 : w1.heap.size ≤ (w1.alloc (.cells #[.pointer none, .slice none 0 0] 39)).heap.size := by simp
    have hba : Below w1.heap.size w1 (w1.alloc (.cells #[.pointer none, .slice none 0 0] 39)) := (Below.refl _ w1).alloc (Nat.le_refl _) _
    go_wp2_with (go_at_call 21; refine (H34.out [] _ (by simp) hf hs0).mono ?_; rintro e w2 ⟨rfl, h2, hb2, hk2⟩)
    have s2 := hb2.size
    have hb12 := hba.trans hb2
    have s12 : w1.heap.size + 1 ≤ w2.heap.size := by simp at s2; omega
    clear hf hba hb2 hk2 s2
    go_loopw [] (fun wr => ∃ (pos : Nat) (acc : List UInt8), pos ≤ s.size ∧ IsB w1.heap.size w1.heap.size acc wr ∧ wr.heap[w2.heap.size]? = some (.stringIter s pos) ∧ Below w1.heap.size w1 wr ∧ 34 :: bodyL (lsq s) = acc ++ bodyL ((lsq s).drop pos) ∧ acc.length ≤ 4 * pos + 1) (fun wr => s.size - wr.iterPos w2.heap.size)
    case atStart =>
      refine ⟨0, [34], Nat.zero_le _, Lib.IsBuilderF.alloc (by simpa using h2) _, ?_, hb12.alloc (by omega) _, by simp, by simp⟩
      have := World.iter_heap w2 s 0
      simpa using this
    case round =>
      obtain ⟨pos, acc, hps, hI, hit, hbw, hacc, hal⟩ := hrel
      have HA : Hid (34 :: bodyL (lsq s) = acc ++ bodyL ((lsq s).drop pos)) := hacc
      have hsz : w2.heap.size < wr.heap.size := (Array.getElem?_eq_some_iff.1 hit).1
      clear hacc
      by_cases hp : pos < s.size
      · have hd1 := dec1 s pos
        have hd2 := dec2 s pos hp
        have hwi := wid_in s pos hp
        have hw1 := wid_pos ((lsq s).drop pos)
        have hnx : ∀ ty, (Instr.next (.pointer (some ⟨w2.heap.size, 0, none⟩)) true ty).run Tryd.prog wr = _ := fun ty => Lib.run_next_any_at wr w2.heap.size s pos ty hit hp
        rw [hd1, hd2] at hnx
        have hne := dropq s pos hp
        have hol := oneL_length _ hne
        have HB : Hid (bodyL ((lsq s).drop pos) = oneL ((lsq s).drop pos) ++ bodyL ((lsq s).drop (pos + wid ((lsq s).drop pos)))) := by
          show _ = _
          rw [bodyL_cons _ hne, drop_wid]
        have HW : Hid (∀ wx, IsB w1.heap.size w1.heap.size acc wx → w1.heap.size ≤ wx.heap.size → Calls Tryd.prog 22 #[.pointer (some ⟨w1.heap.size, 0, none⟩), .string (s.extract pos s.size), .int .i32 (valL ((lsq s).drop pos))] wx (Wrote w1.heap.size w1.heap.size (acc ++ oneL ((lsq s).drop pos)) wx)) := fun wx h hB => by
          have := writeRune_c w1.heap.size w1.heap.size acc (s.extract pos s.size) (valL ((lsq s).drop pos)) wx (by rw [sliceq]; exact hne) (by rw [sliceq]) h (by omega) hB
          rwa [sliceq] at this
        obtain ⟨o, ho⟩ : ∃ o, o = oneL ((lsq s).drop pos) := ⟨_, rfl⟩
        obtain ⟨n, hn⟩ : ∃ n, n = wid ((lsq s).drop pos) := ⟨_, rfl⟩
        obtain ⟨r, hr⟩ : ∃ r, r = valL ((lsq s).drop pos) := ⟨_, rfl⟩
        rw [← ho, ← hr] at HW
        rw [← hn] at hnx hwi hw1
        rw [← hr] at hnx
        rw [← ho, ← hn] at HB hol
        have hI2 := hI.iterAt hit (pos + n)
        have hit2 := Lib.iterAt_heap wr w2.heap.size s pos (pos + n) hit
        have hbw2 := Lib.below_iterAt hbw (k := w2.heap.size) (by omega) s (pos + n)
        have hsz2 : w1.heap.size ≤ (wr.iterAt w2.heap.size s (pos + n)).heap.size := by rw [Lib.iterAt_size]; omega
        clear ho hn hr hd1 hd2 hne hI hbw
        go_wp2_with (go_at_call 22; refine (HW.out _ hI2 hsz2).mono ?_; rintro e w3 ⟨rfl, h3, b3, k3⟩)
        go_roundw
        case rel => exact ⟨pos + n, acc ++ o, hwi, h3, k3.iter hit2 (by omega), hbw2.trans b3, by rw [HA.out, HB.out]; simp, by simp; omega⟩
        case measure =>
          simp only [World.iterPos, k3.iter hit2 (by omega), hit]
          omega
      · have hnx : ∀ ty, (Instr.next (.pointer (some ⟨w2.heap.size, 0, none⟩)) true ty).run Tryd.prog wr = _ := fun ty => Lib.run_next_end_at wr w2.heap.size s pos ty hit hp
        obtain rfl : pos = s.size := by omega
        have HE : Hid (acc = 34 :: bodyL (lsq s)) := by
          have := HA.out
          rw [List.drop_eq_nil_of_le (by rw [lsq_len]; exact Nat.le_refl _), bodyL_nil, List.append_nil] at this
          exact this.symm
        clear HA
        go_wp2_with (go_at_call 21; refine (H34.out acc _ (by omega) hI (by omega)).mono ?_; rintro e w3 ⟨rfl, h3, b3, k3⟩; have s3 := b3.size)
        go_wp2_with (go_at_call 18; refine (Tryd.Builder_String_any_k w1.heap.size w1.heap.size (acc ++ [34]) _ h3 (by omega)).mono ?_; rintro e w4 ⟨rfl, _, b4, _⟩)
        go_ret
        refine ⟨?_, (hb1.trans ((hbw.trans b3).trans b4 |>.mono s1))⟩
        rw [HQ.out, HE.out]; rfl
  · rw [hb] at HP
    have HQ : Hid (quoteL (lsq s) = lsq s) := by show _ = _; unfold quoteL; rw [hb]; simp
    clear hb
    go_enter Tryd.func11, Tryd.ntmps11
    go_wp2_with (go_at_call 20; refine (HP.out _).mono ?_; rintro e w1 ⟨rfl, hb1⟩)
    go_ret
    exact ⟨by rw [HQ.out, strB_lsq]; rfl, hb1⟩
end Go.Proofs.YtjpoifoejbabiaaDoor
