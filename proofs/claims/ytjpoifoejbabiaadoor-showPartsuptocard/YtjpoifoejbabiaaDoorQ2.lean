
import Derived.Test.YtjpoifoejbabiaaDoorQ1
namespace Go.Proofs.YtjpoifoejbabiaaDoor
open Go.RowKit
set_option linter.unusedVariables false
set_option maxRecDepth 100000
theorem dropq (s : ByteArray) (k : Nat) (h : k < s.size) : (lsq s).drop k ≠ [] := by
  intro e
  have := congrArg List.length e
  rw [List.length_drop, lsq_len] at this
  simp at this; omega
theorem sliceq (s : ByteArray) (k : Nat) : lsq (s.extract k s.size) = (lsq s).drop k := by
  simp [lsq]
  exact List.take_of_length_le (by simp)
theorem dec1 (s : ByteArray) (k : Nat) : (Utf8.decode s k).1 = valL ((lsq s).drop k) := by rw [decode_dec]; rfl
theorem dec2 (s : ByteArray) (k : Nat) (h : k < s.size) : (Utf8.decode s k).2 = wid ((lsq s).drop k) := by rw [decode_dec]; exact dec_wid _ (dropq s k h)
theorem wid_in (s : ByteArray) (k : Nat) (h : k < s.size) : k + wid ((lsq s).drop k) ≤ s.size := by
  have := wid_le _ (dropq s k h)
  rw [List.length_drop, lsq_len] at this; omega
theorem drop_wid (s : ByteArray) (k : Nat) : ((lsq s).drop k).drop (wid ((lsq s).drop k)) = (lsq s).drop (k + wid ((lsq s).drop k)) := List.drop_drop ..
set_option maxHeartbeats 1000000 in
theorem isPlainName_c (s : ByteArray) (w : World) (hm : s.size ≤ 4194304) :
    Calls Tryd.prog 20 #[.string s] w fun e w' => e = .returned (.bool (bareL (lsq s))) ∧ Below w.heap.size w w' := by
  have HP : Hid (∀ (t : ByteArray) (r : Nat) w, r = valL (lsq t) → r ≤ 1114111 → Calls Tryd.prog 33 #[.string t, .int .i32 r] w fun e w' => e = .returned (.bool (plainV (lsq t))) ∧ w' = w) := fun t r w h h9 => plain_c t r h h9 w
  go_enter Tryd.func20, Tryd.ntmps20
  go_wp2
  go_loopw [] (fun wr => ∃ pos : Nat, pos ≤ s.size ∧ wr.heap[w.heap.size]? = some (.stringIter s pos) ∧ Below w.heap.size w wr ∧ allPlain (lsq s) = allPlain ((lsq s).drop pos)) (fun wr => s.size - wr.iterPos w.heap.size)
  case atStart => exact ⟨0, Nat.zero_le _, (by have := World.iter_heap w s 0; simpa using this), (Below.refl _ w).alloc (Nat.le_refl _) _, rfl⟩
  case round =>
    obtain ⟨pos, hps, hit, hbw, hap⟩ := hrel
    have HAP : Hid (allPlain (lsq s) = allPlain ((lsq s).drop pos)) := hap
    have hsz : w.heap.size < wr.heap.size := (Array.getElem?_eq_some_iff.1 hit).1
    clear hap
    by_cases hp : pos < s.size
    · have hd1 := dec1 s pos
      have hd2 := dec2 s pos hp
      have hwi := wid_in s pos hp
      have hw1 := wid_pos ((lsq s).drop pos)
      have hnx : ∀ ty, (Instr.next (.pointer (some ⟨w.heap.size, 0, none⟩)) true ty).run Tryd.prog wr = _ := fun ty => Lib.run_next_any_at wr w.heap.size s pos ty hit hp
      rw [hd1, hd2] at hnx
      have h9 := valL_le _ (dropq s pos hp)
      have HAC : Hid (allPlain ((lsq s).drop pos) = (plainL ((lsq s).drop pos) && allPlain ((lsq s).drop (pos + wid ((lsq s).drop pos))))) := by
        show _ = _
        rw [allPlain_cons _ (dropq s pos hp), drop_wid]
      have hpi := plain_is _ (dropq s pos hp)
      have HQ : Hid (∀ w, Calls Tryd.prog 33 #[.string (s.extract pos s.size), .int .i32 (valL ((lsq s).drop pos))] w fun e w' => e = .returned (.bool (plainL ((lsq s).drop pos))) ∧ w' = w) := fun w => by
        have := HP.out (s.extract pos s.size) (valL ((lsq s).drop pos)) w (by rw [sliceq]) h9
        rwa [sliceq, hpi] at this
      obtain ⟨b, hb⟩ : ∃ b, b = plainL ((lsq s).drop pos) := ⟨_, rfl⟩
      obtain ⟨n, hn⟩ : ∃ n, n = wid ((lsq s).drop pos) := ⟨_, rfl⟩
      obtain ⟨r, hr⟩ : ∃ r, r = valL ((lsq s).drop pos) := ⟨_, rfl⟩
      rw [← hb, ← hr] at HQ
      rw [← hn] at hnx hwi hw1
      rw [← hr] at hnx h9
      rw [← hb, ← hn] at HAC
      have hit2 := Lib.iterAt_heap wr w.heap.size s pos (pos + n) hit
      have hbw2 := Lib.below_iterAt hbw (k := w.heap.size) (Nat.le_refl _) s (pos + n)
      clear hb hn hr hpi hd1 hd2 HP
      rcases b with _ | _
      · go_wp2_with (go_at_call 33; refine (HQ.out _).mono ?_; rintro e w1 ⟨rfl, hw1⟩; subst w1)
        go_ret
        refine ⟨?_, hbw2⟩
        rw [bareL, HAP.out, HAC.out]; simp
      · go_wp2_with (go_at_call 33; refine (HQ.out _).mono ?_; rintro e w1 ⟨rfl, hw1⟩; subst w1)
        go_roundw
        case rel => exact ⟨pos + n, hwi, hit2, hbw2, by rw [HAP.out, HAC.out]; simp⟩
        case measure =>
          simp only [World.iterPos, hit2, hit]
          omega
    · have hnx : ∀ ty, (Instr.next (.pointer (some ⟨w.heap.size, 0, none⟩)) true ty).run Tryd.prog wr = _ := fun ty => Lib.run_next_end_at wr w.heap.size s pos ty hit hp
      clear HP
      go_wp2
      go_ret
      refine ⟨?_, hbw⟩
      obtain rfl : pos = s.size := by omega
      have : allPlain (lsq s) = true := by
        rw [HAP.out, List.drop_eq_nil_of_le (by rw [lsq_len]; exact Nat.le_refl _), allPlain_nil]
      have e : s.toList = lsq s := ByteArray.toList_eq s
      rw [bareL, this, ← e]
      simp
def hexT : ByteArray := ⟨#[48, 49, 50, 51, 52, 53, 54, 55, 56, 57, 97, 98, 99, 100, 101, 102]⟩
theorem hexT_all : ∀ k : Fin 16, (hexT[k.val]'(k.isLt)).toNat = (hexD k.val).toNat := by decide
theorem hexT_in (n : Nat) (h : n < 16) : 0 ≤ (n : Int) ∧ (n : Int) < (hexT.size : Int) := by
  have hs : hexT.size = 16 := rfl
  omega
theorem hexT_at (n : Nat) (h : n < 16) : ∀ w, (Instr.index 9 (.string hexT) (.int .u8 (n : Int))).run Tryd.prog w = .ok (.int .u8 ((hexD n).toNat : Int)) w := by
  intro w
  rw [run_index_string w 9 hexT .u8 n Tryd.underlying9, dif_pos (hexT_in n h)]
  have := hexT_all ⟨n, h⟩
  simp only [Int.toNat_natCast]
  exact congrArg (fun k : Nat => (Result.ok (Value.int IntKind.u8 (k : Int)) w)) this
theorem and15 (n : Nat) (h : n < 256) : bits .and .u8 (n : Int) 15 = ((n % 16 : Nat) : Int) := by
  have : ∀ k : Fin 256, bits .and .u8 (k.val : Int) 15 = ((k.val % 16 : Nat) : Int) := by decide +kernel
  exact this ⟨n, h⟩
/-- A writer's answer: the builder with more bytes, and the rest as it was. -/
def Wrote (B b : Nat) (l : List UInt8) (w : World) (e : Ending) (w' : World) : Prop := e = .returned (.tuple #[]) ∧ IsB B b l w' ∧ Below B w w' ∧ Kept b w w'
set_option maxHeartbeats 1000000 in
theorem writeHex_c (B b : Nat) (bs : List UInt8) (c : UInt8) (w : World) (h : IsB B b bs w) (hlen : bs.length + 4 ≤ 140737488355328) (hBw : B ≤ w.heap.size) :
    Calls Tryd.prog 35 #[.pointer (some ⟨b, 0, none⟩), .int .u8 c.toNat] w (Wrote B b (bs ++ hexB c) w) := by
  have hc := c.toNat_lt
  have h1 := hexT_at (c.toNat / 16) (by omega)
  have h2 := hexT_at (c.toNat % 16) (by omega)
  have a15 : ((c.toNat : Int)) % 16 = ((c.toNat % 16 : Nat) : Int) := by omega
  unfold hexT at h1 h2
  have hq : ((c.toNat : Int)) / 16 = ((c.toNat / 16 : Nat) : Int) := by omega
  obtain ⟨n, hn⟩ : ∃ n : Nat, n = c.toNat := ⟨_, rfl⟩
  rw [← hn] at h1 h2 a15 hq hc ⊢
  have HN : Hid (n = c.toNat) := hn
  rw [← hq] at h1
  rw [← a15] at h2
  obtain ⟨d1, hd1⟩ : ∃ d, d = hexD (n / 16) := ⟨_, rfl⟩
  obtain ⟨d2, hd2⟩ : ∃ d, d = hexD (n % 16) := ⟨_, rfl⟩
  rw [← hd1] at h1
  rw [← hd2] at h2
  have HE : Hid (hexB c = [92, 120] ++ [d1] ++ [d2]) := by show _ = _; unfold hexB; rw [← hn, hd1, hd2]; rfl
  have hl2 : bs.length + (ByteArray.mk #[92, 120]).size ≤ 140737488355328 := by show _ + 2 ≤ _; omega
  clear hn hd1 hd2 hq a15
  go_enter Tryd.func35, Tryd.ntmps35
  go_wp2_with (go_at_call 17; refine (writeString_c B b bs _ _ h hl2 hBw).mono ?_)
  first | (rintro e w1 rfl h1' b1 k1) | (rintro e w1 ⟨rfl, h1', b1, k1⟩)
  have s1 := b1.size
  go_wp2_with (go_at_call 21; refine (writeByte_c B b _ d1 _ h1' (by simp; omega) (by omega)).mono ?_)
  first | (rintro e w2 rfl h2' b2 k2) | (rintro e w2 ⟨rfl, h2', b2, k2⟩)
  have s2 := b2.size
  go_wp2_with (go_at_call 21; refine (writeByte_c B b _ d2 _ h2' (by simp; omega) (by omega)).mono ?_)
  first | (rintro e w3 rfl h3' b3 k3) | (rintro e w3 ⟨rfl, h3', b3, k3⟩)
  go_wp2
  go_end0
  refine ⟨rfl, ?_, (b1.trans b2).trans b3, (k1.trans k2).trans k3⟩
  rw [HE.out]
  simpa using h3'
end Go.Proofs.YtjpoifoejbabiaaDoor
