
import Derived.Test.YtjpoifoejbabiaaDoorQ2
import Derived.Test.YtjpoifoejbabiaaDoorOne
namespace Go.Proofs.YtjpoifoejbabiaaDoor
open Go.RowKit
set_option linter.unusedVariables false
set_option maxRecDepth 100000
theorem at_lsq (s : ByteArray) (k : Nat) (h : k < s.size) : s[k] = (lsq s).getD k 0 := by
  have hl := lsq_len s
  simp [List.getD, List.getElem?_eq_getElem (show k < (lsq s).length by omega)]
  rfl
theorem enc_small (n : Nat) (h : n < 128) : Lib.encodeRune (n : Int) = [UInt8.ofNat n] := by
  rw [Lib.encodeRune, Lib.encodeRuneZ_one (by omega) (by omega)]; simp
set_option maxHeartbeats 1000000 in
theorem writeRune_stray (B b : Nat) (bs : List UInt8) (t : ByteArray) (r : Nat) (w : World) (hl : lsq t ≠ []) (hr : r = valL (lsq t)) (h0 : runLen (lsq t) = 0) (h : IsB B b bs w) (hlen : bs.length + 16 ≤ 140737488355328) (hBw : B ≤ w.heap.size) :
    Calls Tryd.prog 22 #[.pointer (some ⟨b, 0, none⟩), .string t, .int .i32 r] w (Wrote B b (bs ++ oneL (lsq t)) w) := by
  have h9 : r ≤ 1114111 := by rw [hr]; exact valL_le _ hl
  have hs : 0 < t.size := by rw [← lsq_len]; exact List.length_pos_iff.2 hl
  have HS : Hid (∀ w, Calls Tryd.prog 34 #[.string t, .int .i32 r] w fun e w' => e = .returned (.bool true) ∧ w' = w) := fun w => by
    have := stray_c t r hr h9 w
    rwa [stray_is _ hl, decide_eq_true h0] at this
  have i0 : ∀ w, (Instr.index 9 (.string t) (.int .i64 0)).run Tryd.prog w = .ok (.int .u8 ((t[0]'hs).toNat : Int)) w := idxq t 0 hs
  rw [at_lsq t 0 hs] at i0
  rw [oneL_stray _ hl h0]
  obtain ⟨c, hc⟩ : ∃ c, c = (lsq t).getD 0 0 := ⟨_, rfl⟩
  rw [← hc] at i0 ⊢
  clear hc hr h0 hl
  go_enter Tryd.func22, Tryd.ntmps22
  go_wp2_with (first
    | (go_at_call 34; refine (HS.out _).mono ?_; rintro e w1 ⟨rfl, hw1⟩; subst w1)
    | (go_at_call 35; refine (writeHex_c B b bs c _ h (by omega) hBw).mono ?_; rintro e w1 ⟨rfl, h1', b1, k1⟩))
  go_end0
  exact ⟨rfl, h1', b1, k1⟩
set_option maxHeartbeats 1000000 in
theorem writeRune_self (B b : Nat) (bs : List UInt8) (t : ByteArray) (r : Nat) (w : World) (hl : lsq t ≠ []) (hr : r = valL (lsq t)) (h0 : runLen (lsq t) ≠ 0) (hp : plainL (lsq t) = true ∨ r = 32) (h : IsB B b bs w) (hlen : bs.length + 16 ≤ 140737488355328) (hBw : B ≤ w.heap.size) :
    Calls Tryd.prog 22 #[.pointer (some ⟨b, 0, none⟩), .string t, .int .i32 r] w (Wrote B b (bs ++ oneL (lsq t)) w) := by
  have h9 : r ≤ 1114111 := by rw [hr]; exact valL_le _ hl
  have HS : Hid (∀ w, Calls Tryd.prog 34 #[.string t, .int .i32 r] w fun e w' => e = .returned (.bool false) ∧ w' = w) := fun w => by
    have := stray_c t r hr h9 w
    rwa [stray_is _ hl, decide_eq_false h0] at this
  have HP : Hid (∀ w, Calls Tryd.prog 33 #[.string t, .int .i32 r] w fun e w' => e = .returned (.bool (plainL (lsq t))) ∧ w' = w) := fun w => by
    have := plain_c t r hr h9 w
    rwa [plain_is _ hl] at this
  rw [oneL_plain _ hl h0 (by rw [← hr]; exact hp), ← hr]
  have HW : Hid (∀ w, IsB B b bs w → B ≤ w.heap.size → Calls Tryd.prog 36 #[.pointer (some ⟨b, 0, none⟩), .int .i32 r] w fun e w' => e = .returned (.tuple #[.int .i64 (Lib.runeCells r).length, .nilIface]) ∧ IsB B b (bs ++ Lib.encodeRune r) w' ∧ Below B w w' ∧ Kept b w w') := fun w h hb => writeRune_i B b bs r (by omega) (by omega) w h (by omega) hb
  obtain ⟨bp, hbp⟩ : ∃ bp, bp = plainL (lsq t) := ⟨_, rfl⟩
  rw [← hbp] at HP hp
  obtain ⟨er, her⟩ : ∃ er, er = Lib.encodeRune r := ⟨_, rfl⟩
  obtain ⟨en, hen⟩ : ∃ en : Int, en = (Lib.runeCells r).length := ⟨_, rfl⟩
  rw [← her, ← hen] at HW
  rw [← her]
  clear hr h0 hl hbp her hen
  by_cases hr32 : r = 32
  · subst hr32
    go_enter Tryd.func22, Tryd.ntmps22
    go_wp2_with (first
      | (go_at_call 34; refine (HS.out _).mono ?_; rintro e w1 ⟨rfl, hw1⟩; subst w1)
      | (go_at_call 36; refine (HW.out _ h hBw).mono ?_; rintro e w1 ⟨rfl, h1', b1, k1⟩))
    go_end0
    exact ⟨rfl, h1', b1, k1⟩
  · obtain rfl : bp = true := by rcases hp with hp | hp; exact hp; exact absurd hp hr32
    have n1 : ((r : Int) == 32) = false := by simp; omega
    go_enter Tryd.func22, Tryd.ntmps22
    go_wp2_with (first
      | (go_at_call 34; refine (HS.out _).mono ?_; rintro e w1 ⟨rfl, hw1⟩; subst w1)
      | (go_at_call 33; refine (HP.out _).mono ?_; rintro e w1 ⟨rfl, hw1⟩; subst w1)
      | (go_at_call 36; refine (HW.out _ h hBw).mono ?_; rintro e w1 ⟨rfl, h1', b1, k1⟩))
    go_end0
    exact ⟨rfl, h1', b1, k1⟩
set_option maxHeartbeats 1000000 in
theorem writeRune_mark (B b : Nat) (bs : List UInt8) (t : ByteArray) (r : Nat) (w : World) (hl : lsq t ≠ []) (hr : r = valL (lsq t)) (h0 : runLen (lsq t) ≠ 0) (hp : plainL (lsq t) = false) (hq : r = 34 ∨ r = 92) (h : IsB B b bs w) (hlen : bs.length + 16 ≤ 140737488355328) (hBw : B ≤ w.heap.size) :
    Calls Tryd.prog 22 #[.pointer (some ⟨b, 0, none⟩), .string t, .int .i32 r] w (Wrote B b (bs ++ oneL (lsq t)) w) := by
  have h9 : r ≤ 1114111 := by rw [hr]; exact valL_le _ hl
  have HS : Hid (∀ w, Calls Tryd.prog 34 #[.string t, .int .i32 r] w fun e w' => e = .returned (.bool false) ∧ w' = w) := fun w => by
    have := stray_c t r hr h9 w
    rwa [stray_is _ hl, decide_eq_false h0] at this
  have HP : Hid (∀ w, Calls Tryd.prog 33 #[.string t, .int .i32 r] w fun e w' => e = .returned (.bool false) ∧ w' = w) := fun w => by
    have := plain_c t r hr h9 w
    rwa [plain_is _ hl, hp] at this
  have hone : oneL (lsq t) = [92] ++ [UInt8.ofNat r] := by
    rcases hq with rfl | rfl
    · exact oneL_esc _ hl 34 34 (.inl ⟨rfl, rfl⟩) hr.symm
    · exact oneL_esc _ hl 92 92 (.inr (.inl ⟨rfl, rfl⟩)) hr.symm
  have HW : Hid (∀ w bs', bs'.length ≤ bs.length + 1 → IsB B b bs' w → B ≤ w.heap.size → Calls Tryd.prog 36 #[.pointer (some ⟨b, 0, none⟩), .int .i32 r] w fun e w' => e = .returned (.tuple #[.int .i64 (Lib.runeCells r).length, .nilIface]) ∧ IsB B b (bs' ++ [UInt8.ofNat r]) w' ∧ Below B w w' ∧ Kept b w w') := fun w bs' hb' h hb => by
    have := writeRune_i B b bs' r (by omega) (by omega) w h (by omega) hb
    rwa [enc_small r (by omega)] at this
  have H92 : Hid (Calls Tryd.prog 21 #[.pointer (some ⟨b, 0, none⟩), .int .u8 92] w fun e w' => e = .returned .nilIface ∧ IsB B b (bs ++ [92]) w' ∧ Below B w w' ∧ Kept b w w') := writeByte_c B b bs 92 w h (by omega) hBw
  obtain ⟨en, hen⟩ : ∃ en : Int, en = (Lib.runeCells r).length := ⟨_, rfl⟩
  rw [← hen] at HW
  rw [hone]
  clear hr h0 hl hone hen hp
  have HWW := HW
  rcases hq with rfl | rfl
  · go_enter Tryd.func22, Tryd.ntmps22
    go_wp2_with (first
      | (go_at_call 34; refine (HS.out _).mono ?_; rintro e w1 ⟨rfl, hw1⟩; subst w1)
      | (go_at_call 33; refine (HP.out _).mono ?_; rintro e w1 ⟨rfl, hw1⟩; subst w1)
      | (go_at_call 21; refine (H92.out).mono ?_; rintro e w1 ⟨rfl, h1', b1, k1⟩; have s1 := b1.size)
      | (go_at_call 36; refine (HW.out _ _ (by simp) h1' (by omega)).mono ?_; rintro e w2 ⟨rfl, h2', b2, k2⟩))
    go_end0
    exact ⟨rfl, by simpa using h2', b1.trans b2, k1.trans k2⟩
  · go_enter Tryd.func22, Tryd.ntmps22
    go_wp2_with (first
      | (go_at_call 34; refine (HS.out _).mono ?_; rintro e w1 ⟨rfl, hw1⟩; subst w1)
      | (go_at_call 33; refine (HP.out _).mono ?_; rintro e w1 ⟨rfl, hw1⟩; subst w1)
      | (go_at_call 21; refine (H92.out).mono ?_; rintro e w1 ⟨rfl, h1', b1, k1⟩; have s1 := b1.size)
      | (go_at_call 36; refine (HW.out _ _ (by simp) h1' (by omega)).mono ?_; rintro e w2 ⟨rfl, h2', b2, k2⟩))
    go_end0
    exact ⟨rfl, by simpa using h2', b1.trans b2, k1.trans k2⟩
set_option maxHeartbeats 1000000 in
theorem writeRune_nt (B b : Nat) (bs : List UInt8) (t : ByteArray) (r : Nat) (w : World) (hl : lsq t ≠ []) (hr : r = valL (lsq t)) (h0 : runLen (lsq t) ≠ 0) (hp : plainL (lsq t) = false) (hq : r = 10 ∨ r = 9) (h : IsB B b bs w) (hlen : bs.length + 16 ≤ 140737488355328) (hBw : B ≤ w.heap.size) :
    Calls Tryd.prog 22 #[.pointer (some ⟨b, 0, none⟩), .string t, .int .i32 r] w (Wrote B b (bs ++ oneL (lsq t)) w) := by
  have h9 : r ≤ 1114111 := by rw [hr]; exact valL_le _ hl
  have HS : Hid (∀ w, Calls Tryd.prog 34 #[.string t, .int .i32 r] w fun e w' => e = .returned (.bool false) ∧ w' = w) := fun w => by
    have := stray_c t r hr h9 w
    rwa [stray_is _ hl, decide_eq_false h0] at this
  have HP : Hid (∀ w, Calls Tryd.prog 33 #[.string t, .int .i32 r] w fun e w' => e = .returned (.bool false) ∧ w' = w) := fun w => by
    have := plain_c t r hr h9 w
    rwa [plain_is _ hl, hp] at this
  rcases hq with rfl | rfl
  · rw [oneL_esc _ hl 10 110 (.inr (.inr (.inl ⟨rfl, rfl⟩))) hr.symm]
    have HW : Hid (Calls Tryd.prog 17 #[.pointer (some ⟨b, 0, none⟩), .string ⟨#[92, 110]⟩] w fun e w' => e = .returned (.tuple #[.int .i64 2, .nilIface]) ∧ IsB B b (bs ++ [92, 110]) w' ∧ Below B w w' ∧ Kept b w w') := writeString_c B b bs ⟨#[92, 110]⟩ w h (by show _ + 2 ≤ _; omega) hBw
    clear hr h0 hl hp
    go_enter Tryd.func22, Tryd.ntmps22
    go_wp2_with (first
      | (go_at_call 34; refine (HS.out _).mono ?_; rintro e w1 ⟨rfl, hw1⟩; subst w1)
      | (go_at_call 33; refine (HP.out _).mono ?_; rintro e w1 ⟨rfl, hw1⟩; subst w1)
      | (go_at_call 17; refine (HW.out).mono ?_; rintro e w1 ⟨rfl, h1', b1, k1⟩))
    go_end0
    exact ⟨rfl, h1', b1, k1⟩
  · rw [oneL_esc _ hl 9 116 (.inr (.inr (.inr ⟨rfl, rfl⟩))) hr.symm]
    have HW : Hid (Calls Tryd.prog 17 #[.pointer (some ⟨b, 0, none⟩), .string ⟨#[92, 116]⟩] w fun e w' => e = .returned (.tuple #[.int .i64 2, .nilIface]) ∧ IsB B b (bs ++ [92, 116]) w' ∧ Below B w w' ∧ Kept b w w') := writeString_c B b bs ⟨#[92, 116]⟩ w h (by show _ + 2 ≤ _; omega) hBw
    clear hr h0 hl hp
    go_enter Tryd.func22, Tryd.ntmps22
    go_wp2_with (first
      | (go_at_call 34; refine (HS.out _).mono ?_; rintro e w1 ⟨rfl, hw1⟩; subst w1)
      | (go_at_call 33; refine (HP.out _).mono ?_; rintro e w1 ⟨rfl, hw1⟩; subst w1)
      | (go_at_call 17; refine (HW.out).mono ?_; rintro e w1 ⟨rfl, h1', b1, k1⟩))
    go_end0
    exact ⟨rfl, h1', b1, k1⟩
set_option maxHeartbeats 1000000 in
theorem writeRune_hexs (B b : Nat) (bs : List UInt8) (t : ByteArray) (r : Nat) (w : World) (hl : lsq t ≠ []) (hr : r = valL (lsq t)) (h0 : runLen (lsq t) ≠ 0) (hp : plainL (lsq t) = false) (hq : r ≠ 32 ∧ r ≠ 34 ∧ r ≠ 92 ∧ r ≠ 10 ∧ r ≠ 9) (h : IsB B b bs w) (hlen : bs.length + 16 ≤ 140737488355328) (hBw : B ≤ w.heap.size) :
    Calls Tryd.prog 22 #[.pointer (some ⟨b, 0, none⟩), .string t, .int .i32 r] w (Wrote B b (bs ++ oneL (lsq t)) w) := by
  have h9 : r ≤ 1114111 := by rw [hr]; exact valL_le _ hl
  have HS : Hid (∀ w, Calls Tryd.prog 34 #[.string t, .int .i32 r] w fun e w' => e = .returned (.bool false) ∧ w' = w) := fun w => by
    have := stray_c t r hr h9 w
    rwa [stray_is _ hl, decide_eq_false h0] at this
  have HP : Hid (∀ w, Calls Tryd.prog 33 #[.string t, .int .i32 r] w fun e w' => e = .returned (.bool false) ∧ w' = w) := fun w => by
    have := plain_c t r hr h9 w
    rwa [plain_is _ hl, hp] at this
  obtain ⟨ho, hw, hv⟩ := oneL_hex _ hl h0 hp (by rw [← hr]; exact hq)
  rw [← hr] at hw hv
  have hwl := wid_le _ hl
  rw [lsq_len] at hwl
  obtain ⟨n, hn⟩ : ∃ n, n = wid (lsq t) := ⟨_, rfl⟩
  rw [← hn] at ho hw hwl
  have hn12 : 1 ≤ n ∧ n ≤ 2 := by split at hw <;> omega
  have HR : Hid (∀ w, Calls Tryd.prog 37 #[.int .i32 r] w fun e w' => e = .returned (.int .i64 n) ∧ w' = w) := fun w => by
    have := Tryd.utf8_RuneLen r w
    have e : Lib.runeLen r = n := by
      unfold Lib.runeLen
      rw [if_neg (by omega)]
      by_cases h7 : r < 128
      · rw [if_pos h7] at hw; rw [if_pos (by omega)]; omega
      · rw [if_neg h7] at hw; rw [if_neg (by omega), if_pos (by omega)]; omega
    rwa [e] at this
  have HX : Hid (oneL (lsq t) = hexs ((lsq t).take n)) := ho
  have n1 : ((r : Int) == 32) = false := by simp; omega
  have n2 : ((r : Int) == 34) = false := by simp; omega
  have n3 : ((r : Int) == 92) = false := by simp; omega
  have n4 : ((r : Int) == 10) = false := by simp; omega
  have n5 : ((r : Int) == 9) = false := by simp; omega
  clear hr h0 hl hp hn hw hv ho hq
  go_enter Tryd.func22, Tryd.ntmps22
  go_wp2_with (first
    | (go_at_call 34; refine (HS.out _).mono ?_; rintro e w1 ⟨rfl, hw1⟩; subst w1)
    | (go_at_call 33; refine (HP.out _).mono ?_; rintro e w1 ⟨rfl, hw1⟩; subst w1)
    | (go_at_call 37; refine (HR.out _).mono ?_; rintro e w1 ⟨rfl, hw1⟩; subst w1))
  go_loopw [9] (fun i wx => ∃ k : Nat, i = .int .i64 k ∧ k ≤ n ∧ IsB B b (bs ++ hexs ((lsq t).take k)) wx ∧ Below B w wx ∧ Kept b w wx) (fun i _ => n - (intOf i).toNat)
  case atStart => exact ⟨0, rfl, Nat.zero_le _, by simpa [hexs] using h, Below.refl _ _, Lib.OthersKept.refl _ _ _⟩
  case round =>
    obtain ⟨k, rfl, hkn, hI, hb, hk⟩ := hrel
    have hbs := hb.size
    by_cases hc : k < n
    · have i0 := idxq t k (by omega)
      rw [at_lsq t k (by omega)] at i0
      obtain ⟨c, hcc⟩ : ∃ c, c = (lsq t).getD k 0 := ⟨_, rfl⟩
      have HC : Hid (hexs ((lsq t).take (k + 1)) = hexs ((lsq t).take k) ++ hexB c) := by rw [hcc]; exact hexs_take _ _ (by rw [lsq_len]; omega)
      have hxl : (hexs ((lsq t).take k)).length ≤ 8 := by rw [hexs_length]; simp; omega
      rw [← hcc] at i0
      clear hcc
      go_wp2_with (go_at_call 35; refine (writeHex_c B b _ c _ hI (by simp; omega) (by omega)).mono ?_; rintro e w1 ⟨rfl, h1', b1, k1⟩)
      go_roundw
      case rel => exact ⟨k + 1, by go_num, by omega, by rw [HC.out, ← List.append_assoc]; exact h1', hb.trans b1, hk.trans k1⟩
      case measure => simp [intOf]; omega
    · obtain rfl : k = n := by omega
      go_wp2
      go_end0
      exact ⟨rfl, by rw [HX.out]; exact hI, hb, hk⟩
theorem writeRune_c (B b : Nat) (bs : List UInt8) (t : ByteArray) (r : Nat) (w : World) (hl : lsq t ≠ []) (hr : r = valL (lsq t)) (h : IsB B b bs w) (hlen : bs.length + 16 ≤ 140737488355328) (hBw : B ≤ w.heap.size) :
    Calls Tryd.prog 22 #[.pointer (some ⟨b, 0, none⟩), .string t, .int .i32 r] w (Wrote B b (bs ++ oneL (lsq t)) w) := by
  by_cases h0 : runLen (lsq t) = 0
  · exact writeRune_stray B b bs t r w hl hr h0 h hlen hBw
  by_cases hp : plainL (lsq t) = true ∨ r = 32
  · exact writeRune_self B b bs t r w hl hr h0 hp h hlen hBw
  have hp' : plainL (lsq t) = false := by
    cases e : plainL (lsq t) with
    | false => rfl
    | true => exact absurd (.inl e) hp
  by_cases hq : r = 34 ∨ r = 92
  · exact writeRune_mark B b bs t r w hl hr h0 hp' hq h hlen hBw
  by_cases hn : r = 10 ∨ r = 9
  · exact writeRune_nt B b bs t r w hl hr h0 hp' hn h hlen hBw
  exact writeRune_hexs B b bs t r w hl hr h0 hp' (by omega) h hlen hBw
end Go.Proofs.YtjpoifoejbabiaaDoor
