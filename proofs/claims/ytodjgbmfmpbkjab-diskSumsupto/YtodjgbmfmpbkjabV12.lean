-- A body's own calls: loose, crash; and cutOf.
import Derived.Test.YtodjgbmfmpbkjabV11
namespace Go.Proofs.Ytodjgbmfmpbkjab
open Go.RowKit
set_option linter.unusedVariables false
theorem BodyAt.drewN {w : World} {b : Nat} {x : Bd} (h : BodyAt w b x) (n : Nat) : BodyAt (w.drewN n) b x := h.keep (by rw [(drewN_eq w n).1]) fun k _ => by rw [(drewN_eq w n).1]
theorem Only.drewN {b : Nat} {w w' : World} (h : Only b w w') (n : Nat) : Only b w (w'.drewN n) := by
  induction n with
  | zero => exact h
  | succ n ih => exact ih.drew
theorem BodyAt.cell6 {w : World} {b : Nat} {x : Bd} (h : BodyAt w b x) : w.cell? ⟨b, 6, none⟩ = some (.int .i64 x.safe) ∧ w.frozen? ⟨b, 6, none⟩ = false := by
  obtain ⟨ad, v, hh, _⟩ := h
  exact ⟨(body_cell hh).2.2, Lib.frozen_of_heap hh 6⟩
set_option maxHeartbeats 4000000 in
theorem bloose_c (b : Nat) (x : Bd) (w : World) (h : BodyAt w b x) (hs : x.safe ≤ x.data.size) (hl : x.data.size ≤ 1099511627776) :
    Calls Try.prog 54 #[.pointer (some ⟨b, 0, none⟩)] w fun e w' => e = .returned (.int .i64 (x.data.size - x.safe : Nat)) ∧ ∃ m, w' = w.drewN m := by
  have c6 := h.cell6.1
  have HL : Hid (∀ n, Calls Try.prog 28 #[.pointer (some ⟨b, 4, none⟩)] (w.drewN n) fun e w' => e = .returned (.int .i64 x.data.size) ∧ w' = w.drewN n) := fun n => blen_c b x _ (h.drewN n)
  have hw : IntKind.i64.wrap ((x.data.size : Int) - (x.safe : Int)) = ((x.data.size - x.safe : Nat) : Int) := by rw [wrap_i64 (by omega)]; omega
  obtain ⟨n, hn⟩ : ∃ n, n = x.data.size - x.safe := ⟨_, rfl⟩
  rw [← hn] at hw ⊢
  clear h hn
  go_enter Try.func54, Try.ntmps54
  go_wp2
  go_quiet (first | (go_at_call 28; exact Calls.quiet_of_same (HL.out _)))
  go_wp2
  go_ret
  exact ⟨by simp, _, rfl⟩
set_option maxHeartbeats 4000000 in
theorem cutOf_c (cv : Value) (cuts : List Int) (j : Nat) (w : World) (h : RowI w cv cuts) (hl : cuts.length ≤ 4194304) (hj : j ≤ 4194304) :
    Calls Try.prog 51 #[cv, .int .i64 j] w fun e w' => e = .returned (.int .i64 (if cuts = [] then 0 else cuts.getD (j % cuts.length) 0)) ∧ w' = w := by
  rcases h with ⟨rfl, ao, c, rfl⟩ | ⟨b, off, cap, rfl, hp, hc⟩
  · rw [if_pos rfl]
    go_enter Try.func51, Try.ntmps51
    go_wp2
    go_ret
    exact ⟨rfl, rfl⟩
  · rw [if_neg (List.length_pos_iff.1 hp)]
    have hm : j % cuts.length < cuts.length := Nat.mod_lt _ hp
    have c0 := hc _ hm
    obtain ⟨x, hx⟩ : ∃ x, x = cuts.getD (j % cuts.length) 0 := ⟨_, rfl⟩
    obtain ⟨n, hn⟩ : ∃ n, n = cuts.length := ⟨_, rfl⟩
    rw [← hx] at c0 ⊢
    rw [← hn] at c0 hm hp hl ⊢
    have b0 : ((n : Int) == 0) = false := by simp; omega
    have b1 : ((n : Int) = 0) = False := by simp; omega
    have ht : (j : Int).tmod (n : Int) = ((j % n : Nat) : Int) := by rw [Int.tmod_eq_emod_of_nonneg (by omega)]; omega
    have hw : IntKind.i64.wrap ((j % n : Nat) : Int) = ((j % n : Nat) : Int) := wrap_i64 (by omega)
    have i0 : (0 : Int) ≤ ((j % n : Nat) : Int) := by omega
    have i1 : ((j % n : Nat) : Int) < (n : Int) := by omega
    obtain ⟨k, hk⟩ : ∃ k, k = j % n := ⟨_, rfl⟩
    rw [← hk] at ht hw i0 i1 c0
    clear hx hn hk hc
    go_enter Try.func51, Try.ntmps51
    go_wp2
    go_ret
    exact ⟨rfl, rfl⟩
/-- What a crash leaves of a body. -/
def cutX (x : Bd) (c : Nat) : Bd := { x with data := x.data.extract 0 (x.safe + c), safe := (x.data.extract 0 (x.safe + c)).size }
set_option maxHeartbeats 8000000 in
theorem bcrash_c (b : Nat) (x : Bd) (keep : Int) (w : World) (h : BodyAt w b x) (hs : x.safe ≤ x.data.size) (hl : x.data.size ≤ 1099511627776) :
    Calls Try.prog 50 #[.pointer (some ⟨b, 0, none⟩), .int .i64 keep] w fun e w' => e = .returned (.tuple #[]) ∧ BodyAt w' b (cutX x (within keep 0 ((x.data.size - x.safe : Nat) : Int)).toNat) ∧ Only b w w' := by
  obtain ⟨c, hc, hcl⟩ := within_nat keep (x.data.size - x.safe)
  rw [hc, Int.toNat_natCast]
  have HC : Hid (within keep 0 ((x.data.size - x.safe : Nat) : Int) = c) := hc
  have HX : Hid (BodyAt w b x) := h
  have HLO : Hid (∀ W x', BodyAt W b x' → x'.safe ≤ x'.data.size → x'.data.size ≤ 1099511627776 → Calls Try.prog 54 #[.pointer (some ⟨b, 0, none⟩)] W fun e w' => e = .returned (.int .i64 (x'.data.size - x'.safe : Nat)) ∧ ∃ m, w' = W.drewN m) := fun W x' h1 h2 h3 => bloose_c b x' W h1 h2 h3
  have c6 := h.cell6.1
  have f6 := h.cell6.2
  have hmm : min (max keep 0) ((x.data.size - x.safe : Nat) : Int) = (c : Int) := by
    rw [← hc]; unfold within
    rcases (by omega : keep < 0 ∨ 0 ≤ keep) with h1 | h1
    · rw [if_pos h1, Int.max_eq_right (by omega), Int.min_eq_left (by omega)]
    · rw [if_neg (by omega), Int.max_eq_left h1]
      split
      · rw [Int.min_eq_right (by omega)]
      · rw [Int.min_eq_left (by omega)]
  obtain ⟨n, hn⟩ : ∃ n, n = x.data.size - x.safe := ⟨_, rfl⟩
  obtain ⟨t, ht⟩ : ∃ t, t = x.safe + c := ⟨_, rfl⟩
  have hw : IntKind.i64.wrap ((x.safe : Int) + (c : Int)) = (t : Int) := by rw [wrap_i64 (by omega)]; omega
  have HN : Hid (n = x.data.size - x.safe ∧ t = x.safe + c ∧ c ≤ n) := ⟨hn, ht, by omega⟩
  have HLN : Hid (∀ W, BodyAt W b x → Calls Try.prog 54 #[.pointer (some ⟨b, 0, none⟩)] W fun e w' => e = .returned (.int .i64 n) ∧ ∃ m, w' = W.drewN m) := fun W hW => by rw [hn]; exact HLO.out W x hW hs hl
  rw [← hn] at hmm
  obtain ⟨s6, hs6⟩ : ∃ s, s = x.safe := ⟨_, rfl⟩
  rw [← hs6] at c6 hw
  clear h hc hn ht hs6
  go_enter Try.func50, Try.ntmps50
  go_wp2_with fail
  rename_i Q2 K2 hK2
  have fin : ∀ m, Exit.then K2 Q2 Exit.normal { tmps := #[.pointer (some ⟨b, 0, none⟩), .int .i64 keep, undef, undef, undef, .pointer (some ⟨b, 0, none⟩), .pointer (some ⟨b, 0, none⟩), .pointer (some ⟨b, 6, none⟩), .int .i64 s6, .int .i64 keep, .int .i64 (max keep 0), .pointer (some ⟨b, 0, none⟩), .int .i64 n, .int .i64 c, .int .i64 t, .pointer (some ⟨b, 0, none⟩), .pointer (some ⟨b, 6, none⟩), undef, undef, undef, undef, undef, undef, undef, undef, undef, undef, undef, undef, undef, undef, undef, undef, undef, undef, undef, undef, undef], defers := [] } ((w.drewN m).setCell ⟨b, 6, none⟩ (.int .i64 t)) := by
    intro m
    refine hK2 _ _ ?_
    obtain ⟨hN1, hN2, hN3⟩ := HN.out
    obtain ⟨ad, v, hh, had, hown⟩ := HX.out.drewN m
    have h1 := (set_body hh).2.2 t
    obtain ⟨W, hW⟩ : ∃ W, W = (w.drewN m).setCell ⟨b, 6, none⟩ (.int .i64 t) := ⟨_, rfl⟩
    have hB : BodyAt W b { x with safe := t } := by
      rw [hW]
      exact ⟨ad, v, h1, had, ownF_keep hown fun k hk => Below.heap_setCell _ _ _ _ (fun e => buf_ne hh hown (by rw [hk, e]))⟩
    have hO : Only b w W := by
      rw [hW]
      refine ((Only.refl b w).drewN m).set _ fun i hi => .inl ?_
      rw [bufOf_eq h1] at hi
      rw [← bufOf_eq hh, bufOf_keep (show (w.drewN m).heap[b]? = w.heap[b]? by rw [(drewN_eq w m).1])] at hi
      exact hi
    rw [← hW]
    have HB : Hid (BodyAt W b { x with safe := t }) := hB
    have HO : Hid (Only b w W) := hO
    have HL2 : Hid (∀ V, BodyAt V b { x with safe := t } → Calls Try.prog 54 #[.pointer (some ⟨b, 0, none⟩)] V fun e w' => e = .returned (.int .i64 (x.data.size - t : Nat)) ∧ ∃ m, w' = V.drewN m) := fun V hV => HLO.out V { x with safe := t } hV (show t ≤ x.data.size by omega) hl
    have htl : t ≤ x.data.size := by omega
    have HT : Hid (t = x.safe + c) := hN2
    clear hh h1 hown had hW hB hO hN1 hN2 hN3 HLN HLO c6 f6 hmm hw
    by_cases hz : x.data.size - t = 0
    · have HE : Hid (cutX x c = { x with safe := t }) := by
        show cutX x c = _
        have e1 : x.data.extract 0 (x.safe + c) = x.data := by rw [← HT.out, show t = x.data.size by omega]; exact ByteArray.extract_zero_size
        unfold cutX
        rw [e1, show x.data.size = t by omega]
      rw [hz] at HL2
      clear hz
      go_wp2_with (go_at_call 54; refine (HL2.out _ HB.out).mono ?_; rintro e w1 ⟨rfl, m1, rfl⟩)
      go_end0
      exact ⟨rfl, by rw [HE.out]; exact HB.out.drewN m1, HO.out.drewN m1⟩
    · obtain ⟨k, hk⟩ : ∃ k, k + 1 = x.data.size - t := ⟨x.data.size - t - 1, by omega⟩
      rw [← hk] at HL2
      have b0 : decide ((0 : Int) < ((k + 1 : Nat) : Int)) = true := decide_eq_true (by omega)
      have b1 : decide ((0 : Int) < (k : Int) + 1) = true := decide_eq_true (by omega)
      clear hk hz
      go_wp2_with (go_at_call 54; refine (HL2.out _ HB.out).mono ?_; rintro e w1 ⟨rfl, m1, rfl⟩)
      obtain ⟨W1, hW1⟩ : ∃ W1, W1 = W.drewN m1 := ⟨_, rfl⟩
      have HB1 : Hid (BodyAt W1 b { x with safe := t }) := by rw [hW1]; exact HB.out.drewN m1
      have HO1 : Hid (Only b w W1) := by rw [hW1]; exact HO.out.drewN m1
      rw [← hW1]
      clear hW1 HB HO
      have c6 : W1.cell? ⟨b, 6, none⟩ = some (.int .i64 t) := HB1.out.cell6.1
      have HST : Hid (∀ V, BodyAt V b { x with safe := t } → Calls Try.prog 53 #[.pointer (some ⟨b, 4, none⟩)] V fun e w' => e = .returned (.string x.data) ∧ BodyAt w' b { x with safe := t } ∧ Only b V w') := fun V hV => bstr_c b _ V hV
      have i1 : (0 : Int) ≤ (t : Int) := by omega
      have i2 : (t : Int) ≤ (x.data.size : Int) := by omega
      go_region_with (first | (go_at_call 53; refine (HST.out _ (by exact HB1.out)).mono ?_; rintro e w2 ⟨rfl, hb2, ho2⟩; have c6' : w2.cell? ⟨b, 6, none⟩ = some (.int .i64 t) := hb2.cell6.1))
      all_goals
        have HB2 : Hid (BodyAt w2 b { x with safe := t }) := hb2
        have HO2 : Hid (Only b w w2) := HO1.out.trans ⟨ho2.os, ho2.tape, ho2.output, ho2.size, ho2.block, ho2.buf⟩
        have hsz : (x.data.extract 0 t).size = t := by rw [ByteArray.size_extract]; omega
        have HSZ : Hid ((x.data.extract 0 t).size = t) := hsz
        have HRE : Hid (Calls Try.prog 72 #[.pointer (some ⟨b, 4, none⟩)] w2 fun e w' => e = .returned (.tuple #[]) ∧ BodyAt w' b { x with safe := t, data := ⟨#[]⟩ } ∧ Only b w2 w') := breset_c b _ w2 hb2
        have HWS : Hid (∀ V, BodyAt V b { x with safe := t, data := ⟨#[]⟩ } → Calls Try.prog 47 #[.pointer (some ⟨b, 4, none⟩), .string (x.data.extract 0 t)] V fun e w' => e = .returned (.tuple #[.int .i64 (x.data.extract 0 t).size, .nilIface]) ∧ BodyAt w' b (cutX x c) ∧ Only b V w') := fun V hV => (bwrite_c b _ (x.data.extract 0 t) V hV (by rw [hsz]; show 0 + t ≤ _; omega)).mono (by
          rintro e w' ⟨rfl, h1, h2⟩
          refine ⟨rfl, ?_, h2⟩
          have e1 : (⟨#[]⟩ : ByteArray) ++ x.data.extract 0 t = x.data.extract 0 t := ByteArray.empty_append
          simp only [e1] at h1
          unfold cutX
          rw [← HT.out, HSZ.out]
          exact h1)
        obtain ⟨S, hS⟩ : ∃ S, S = x.data.extract 0 t := ⟨_, rfl⟩
        rw [← hS] at HWS
        have hS' : x.data.extract 0 t = S := hS.symm
        clear hb2 ho2 hsz HSZ hS c6' c6
        go_wp2_with (first
          | (go_at_call 72; refine HRE.out.mono ?_; rintro e w3 ⟨rfl, hb3, ho3⟩; have HB3 : Hid (BodyAt w3 b { x with safe := t, data := ⟨#[]⟩ } ∧ Only b w2 w3) := ⟨hb3, ho3⟩; clear hb3 ho3)
          | (go_at_call 47; refine (HWS.out _ HB3.out.1).mono ?_; rintro e w4 ⟨rfl, hb4, ho4⟩))
        go_end0
        exact ⟨rfl, hb4, (HO2.out.trans HB3.out.2).trans ho4⟩
  have FIN : Hid (∀ m, Exit.then K2 Q2 Exit.normal { tmps := #[.pointer (some ⟨b, 0, none⟩), .int .i64 keep, undef, undef, undef, .pointer (some ⟨b, 0, none⟩), .pointer (some ⟨b, 0, none⟩), .pointer (some ⟨b, 6, none⟩), .int .i64 s6, .int .i64 keep, .int .i64 (max keep 0), .pointer (some ⟨b, 0, none⟩), .int .i64 n, .int .i64 c, .int .i64 t, .pointer (some ⟨b, 0, none⟩), .pointer (some ⟨b, 6, none⟩), undef, undef, undef, undef, undef, undef, undef, undef, undef, undef, undef, undef, undef, undef, undef, undef, undef, undef, undef, undef, undef], defers := [] } ((w.drewN m).setCell ⟨b, 6, none⟩ (.int .i64 t))) := fin
  clear fin hs hl hcl HC HN HLO
  go_region_with (first | (go_at_call 54; refine (HLN.out _ (by exact HX.out)).mono ?_; rintro e w1 ⟨rfl, m, rfl⟩))
  all_goals exact FIN.out _
end Go.Proofs.Ytodjgbmfmpbkjab
