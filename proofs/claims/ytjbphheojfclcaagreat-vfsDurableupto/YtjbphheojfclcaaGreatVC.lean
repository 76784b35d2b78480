
import Derived.Test.YtjbphheojfclcaaGreatVB
-- A body's own calls: loose, crash; and cutOf.
namespace Go.Proofs.YtjbphheojfclcaaGreat
open Go.RowKit
set_option linter.unusedVariables false
set_option maxRecDepth 100000
theorem BodyAt.drewN {w : World} {b : Nat} {x : Bd} (h : BodyAt w b x) (n : Nat) : BodyAt (w.drewN n) b x := h.keep (by rw [(drewN_eq w n).1]) fun k _ => by rw [(drewN_eq w n).1]
theorem Only.drewN {b : Nat} {w w' : World} (h : Only b w w') (n : Nat) : Only b w (w'.drewN n) := by
  induction n with
  | zero => exact h
  | succ n ih => exact ih.drew
theorem BodyAt.cell6 {w : World} {b : Nat} {x : Bd} (h : BodyAt w b x) : w.cell? ⟨b, 6, none⟩ = some (.int .i64 x.safe) ∧ w.frozen? ⟨b, 6, none⟩ = false := by
  obtain ⟨ad, v, hh, _⟩ := h
  exact ⟨(body_cell hh).2.2, Lib.frozen_of_heap hh 6⟩
set_option maxHeartbeats 4000000 in
theorem bloose_c (b : Nat) (x : Bd) (w : World) (h : BodyAt w b x) (hs : x.safe ≤ x.data.size) (hl : x.data.size ≤ 1099511627776) :
    Calls Tryz.prog 64 #[.pointer (some ⟨b, 0, none⟩)] w fun e w' => e = .returned (.int .i64 (x.data.size - x.safe : Nat)) ∧ ∃ m, w' = w.drewN m := by
  have c6 := h.cell6.1
  have HL : Hid (∀ n, Calls Tryz.prog 69 #[.pointer (some ⟨b, 4, none⟩)] (w.drewN n) fun e w' => e = .returned (.int .i64 x.data.size) ∧ w' = w.drewN n) := fun n => blen_c b x _ (h.drewN n)
  have hw : IntKind.i64.wrap ((x.data.size : Int) - (x.safe : Int)) = ((x.data.size - x.safe : Nat) : Int) := by rw [wrap_i64 (by omega)]; omega
  obtain ⟨n, hn⟩ : ∃ n, n = x.data.size - x.safe := ⟨_, rfl⟩
  rw [← hn] at hw ⊢
  clear h hn
  go_enter Tryz.func64, Tryz.ntmps64
  go_wp2
  go_quiet (first | (go_at_call 69; exact Calls.quiet_of_same (HL.out _)))
  go_wp2
  go_ret
  exact ⟨by simp, _, rfl⟩
set_option maxHeartbeats 4000000 in
theorem cutOf_c (cv : Value) (cuts : List Int) (j : Nat) (w : World) (h : RowI w cv cuts) (hl : cuts.length ≤ 4194304) (hj : j ≤ 4194304) :
    Calls Tryz.prog 47 #[cv, .int .i64 j] w fun e w' => e = .returned (.int .i64 (if cuts = [] then 0 else cuts.getD (j % cuts.length) 0)) ∧ w' = w := by
  rcases h with ⟨rfl, ao, c, rfl⟩ | ⟨b, off, cap, rfl, hp, hc⟩
  · rw [if_pos rfl]
    go_enter Tryz.func47, Tryz.ntmps47
    go_wp2
    go_ret
    exact ⟨rfl, rfl⟩
  · rw [if_neg (List.length_pos_iff.1 hp)]
    have hm : j % cuts.length < cuts.length := Nat.mod_lt _ hp
    have c0 := hc _ hm
    obtain ⟨x, hx⟩ : ∃ x, x = cuts.getD (j % cuts.length) 0 := ⟨_, rfl⟩
    obtain ⟨n, hn⟩ : ∃ n, n = cuts.length := ⟨_, rfl⟩
    rw [← hx] at c0 ⊢
    rw [← hn] at c0 hm hp hl ⊢
    have b0 : ((n : Int) == 0) = false := by simp; omega
    have b1 : ((n : Int) = 0) = False := by simp; omega
    have ht : (j : Int).tmod (n : Int) = ((j % n : Nat) : Int) := by rw [Int.tmod_eq_emod_of_nonneg (by omega)]; omega
    have hw : IntKind.i64.wrap ((j % n : Nat) : Int) = ((j % n : Nat) : Int) := wrap_i64 (by omega)
    have i0 : (0 : Int) ≤ ((j % n : Nat) : Int) := by omega
    have i1 : ((j % n : Nat) : Int) < (n : Int) := by omega
    obtain ⟨k, hk⟩ : ∃ k, k = j % n := ⟨_, rfl⟩
    rw [← hk] at ht hw i0 i1 c0
    clear hx hn hk hc
    go_enter Tryz.func47, Tryz.ntmps47
    go_wp2
    go_ret
    exact ⟨rfl, rfl⟩
/-- What a crash leaves of a body. -/
def cutX (x : Bd) (c : Nat) : Bd := { x with data := x.data.extract 0 (x.safe + c), safe := (x.data.extract 0 (x.safe + c)).size }
set_option maxHeartbeats 8000000 in
theorem bcrash_c (b : Nat) (x : Bd) (keep : Int) (w : World) (h : BodyAt w b x) (hs : x.safe ≤ x.data.size) (hl : x.data.size ≤ 1099511627776) :
    Calls Tryz.prog 46 #[.pointer (some ⟨b, 0, none⟩), .int .i64 keep] w fun e w' => e = .returned (.tuple #[]) ∧ BodyAt w' b (cutX x (within keep 0 ((x.data.size - x.safe : Nat) : Int)).toNat) ∧ Only b w w' := by
  obtain ⟨c, hc, hcl⟩ := within_nat keep (x.data.size - x.safe)
  rw [hc, Int.toNat_natCast]
  have HC : Hid (within keep 0 ((x.data.size - x.safe : Nat) : Int) = c) := hc
  have HX : Hid (BodyAt w b x) := h
  have HLO : Hid (∀ W x', BodyAt W b x' → x'.safe ≤ x'.data.size → x'.data.size ≤ 1099511627776 → Calls Tryz.prog 64 #[.pointer (some ⟨b, 0, none⟩)] W fun e w' => e = .returned (.int .i64 (x'.data.size - x'.safe : Nat)) ∧ ∃ m, w' = W.drewN m) := fun W x' h1 h2 h3 => bloose_c b x' W h1 h2 h3
  have c6 := h.cell6.1
  have f6 := h.cell6.2
  have hmm : min (max keep 0) ((x.data.size - x.safe : Nat) : Int) = (c : Int) := by
    rw [← hc]; unfold within
    rcases (by omega : keep < 0 ∨ 0 ≤ keep) with h1 | h1
    · rw [if_pos h1, Int.max_eq_right (by omega), Int.min_eq_left (by omega)]
    · rw [if_neg (by omega), Int.max_eq_left h1]
      split
      · rw [Int.min_eq_right (by omega)]
      · rw [Int.min_eq_left (by omega)]
  obtain ⟨n, hn⟩ : ∃ n, n = x.data.size - x.safe := ⟨_, rfl⟩
  obtain ⟨t, ht⟩ : ∃ t, t = x.safe + c := ⟨_, rfl⟩
  have hw : IntKind.i64.wrap ((x.safe : Int) + (c : Int)) = (t : Int) := by rw [wrap_i64 (by omega)]; omega
  have HN : Hid (n = x.data.size - x.safe ∧ t = x.safe + c ∧ c ≤ n) := ⟨hn, ht, by omega⟩
  have HLN : Hid (∀ W, BodyAt W b x → Calls Tryz.prog 64 #[.pointer (some ⟨b, 0, none⟩)] W fun e w' => e = .returned (.int .i64 n) ∧ ∃ m, w' = W.drewN m) := fun W hW => by rw [hn]; exact HLO.out W x hW hs hl
  rw [← hn] at hmm
  obtain ⟨s6, hs6⟩ : ∃ s, s = x.safe := ⟨_, rfl⟩
  rw [← hs6] at c6 hw
  clear h hc hn ht hs6
  go_enter Tryz.func46, Tryz.ntmps46
  go_wp2_with fail
  rename_i Q2 K2 hK2
  have fin : ∀ m, Exit.then K2 Q2 Exit.normal { tmps := #[.pointer (some ⟨b, 0, none⟩), .int .i64 keep, undef, undef, undef, .pointer (some ⟨b, 0, none⟩), .pointer (some ⟨b, 0, none⟩), .pointer (some ⟨b, 6, none⟩), .int .i64 s6, .int .i64 keep, .int .i64 (max keep 0), .pointer (some ⟨b, 0, none⟩), .int .i64 n, .int .i64 c, .int .i64 t, .pointer (some ⟨b, 0, none⟩), .pointer (some ⟨b, 6, none⟩), undef, undef, undef, undef, undef, undef, undef, undef, undef, undef, undef, undef, undef, undef, undef, undef, undef, undef, undef, undef, undef], defers := [] } ((w.drewN m).setCell ⟨b, 6, none⟩ (.int .i64 t)) := by
    intro m
    refine hK2 _ _ ?_
    obtain ⟨hN1, hN2, hN3⟩ := HN.out
    obtain ⟨ad, v, hh, had, hown⟩ := HX.out.drewN m
    have h1 := (set_body hh).2.2 t
    obtain ⟨W, hW⟩ : ∃ W, W = (w.drewN m).setCell ⟨b, 6, none⟩ (.int .i64 t) := ⟨_, rfl⟩
    have hB : BodyAt W b { x with safe := t } := by
      rw [hW]
      exact ⟨ad, v, h1, had, ownF_keep hown fun k hk => Below.heap_setCell _ _ _ _ (fun e => buf_ne hh hown (by rw [hk, e]))⟩
    have hO : Only b w W := by
      rw [hW]
      refine ((Only.refl b w).drewN m).set _ fun i hi => .inl ?_
      rw [bufOf_eq h1] at hi
      rw [← bufOf_eq hh, bufOf_keep (show (w.drewN m).heap[b]? = w.heap[b]? by rw [(drewN_eq w m).1])] at hi
      exact hi
    rw [← hW]
    have HB : Hid (BodyAt W b { x with safe := t }) := hB
    have HO : Hid (Only b w W) := hO
    have HL2 : Hid (∀ V, BodyAt V b { x with safe := t } → Calls Tryz.prog 64 #[.pointer (some ⟨b, 0, none⟩)] V fun e w' => e = .returned (.int .i64 (x.data.size - t : Nat)) ∧ ∃ m, w' = V.drewN m) := fun V hV => HLO.out V { x with safe := t } hV (show t ≤ x.data.size by omega) hl
    have htl : t ≤ x.data.size := by omega
    have HT : Hid (t = x.safe + c) := hN2
    clear hh h1 hown had hW hB hO hN1 hN2 hN3 HLN HLO c6 f6 hmm hw
    by_cases hz : x.data.size - t = 0
    · have HE : Hid (cutX x c = { x with safe := t }) := by
        show cutX x c = _
        have e1 : x.data.extract 0 (x.safe + c) = x.data := by rw [← HT.out, show t = x.data.size by omega]; exact ByteArray.extract_zero_size
        unfold cutX
        rw [e1, show x.data.size = t by omega]
      rw [hz] at HL2
      clear hz
      go_wp2_with (go_at_call 64; refine (HL2.out _ HB.out).mono ?_; rintro e w1 ⟨rfl, m1, rfl⟩)
      go_end0
      exact ⟨rfl, by rw [HE.out]; exact HB.out.drewN m1, HO.out.drewN m1⟩
    · obtain ⟨k, hk⟩ : ∃ k, k + 1 = x.data.size - t := ⟨x.data.size - t - 1, by omega⟩
      rw [← hk] at HL2
      have b0 : decide ((0 : Int) < ((k + 1 : Nat) : Int)) = true := decide_eq_true (by omega)
      have b1 : decide ((0 : Int) < (k : Int) + 1) = true := decide_eq_true (by omega)
      clear hk hz
      go_wp2_with (go_at_call 64; refine (HL2.out _ HB.out).mono ?_; rintro e w1 ⟨rfl, m1, rfl⟩)
      obtain ⟨W1, hW1⟩ : ∃ W1, W1 = W.drewN m1 := ⟨_, rfl⟩
      have HB1 : Hid (BodyAt W1 b { x with safe := t }) := by rw [hW1]; exact HB.out.drewN m1
      have HO1 : Hid (Only b w W1) := by rw [hW1]; exact HO.out.drewN m1
      rw [← hW1]
      clear hW1 HB HO
      have c6 : W1.cell? ⟨b, 6, none⟩ = some (.int .i64 t) := HB1.out.cell6.1
      have HST : Hid (∀ V, BodyAt V b { x with safe := t } → Calls Tryz.prog 65 #[.pointer (some ⟨b, 4, none⟩)] V fun e w' => e = .returned (.string x.data) ∧ BodyAt w' b { x with safe := t } ∧ Only b V w') := fun V hV => bstr_c b _ V hV
      have i1 : (0 : Int) ≤ (t : Int) := by omega
      have i2 : (t : Int) ≤ (x.data.size : Int) := by omega
      go_region_with (first | (go_at_call 65; refine (HST.out _ (by exact HB1.out)).mono ?_; rintro e w2 ⟨rfl, hb2, ho2⟩; have c6' : w2.cell? ⟨b, 6, none⟩ = some (.int .i64 t) := hb2.cell6.1))
      all_goals
        have HB2 : Hid (BodyAt w2 b { x with safe := t }) := hb2
        have HO2 : Hid (Only b w w2) := HO1.out.trans ⟨ho2.os, ho2.tape, ho2.output, ho2.size, ho2.block, ho2.buf⟩
        have hsz : (x.data.extract 0 t).size = t := by rw [ByteArray.size_extract]; omega
        have HSZ : Hid ((x.data.extract 0 t).size = t) := hsz
        have HRE : Hid (Calls Tryz.prog 66 #[.pointer (some ⟨b, 4, none⟩)] w2 fun e w' => e = .returned (.tuple #[]) ∧ BodyAt w' b { x with safe := t, data := ⟨#[]⟩ } ∧ Only b w2 w') := breset_c b _ w2 hb2
        have HWS : Hid (∀ V, BodyAt V b { x with safe := t, data := ⟨#[]⟩ } → Calls Tryz.prog 67 #[.pointer (some ⟨b, 4, none⟩), .string (x.data.extract 0 t)] V fun e w' => e = .returned (.tuple #[.int .i64 (x.data.extract 0 t).size, .nilIface]) ∧ BodyAt w' b (cutX x c) ∧ Only b V w') := fun V hV => (bwrite_c b _ (x.data.extract 0 t) V hV (by rw [hsz]; show 0 + t ≤ _; omega)).mono (by
          rintro e w' ⟨rfl, h1, h2⟩
          refine ⟨rfl, ?_, h2⟩
          have e1 : (⟨#[]⟩ : ByteArray) ++ x.data.extract 0 t = x.data.extract 0 t := ByteArray.empty_append
          simp only [e1] at h1
          unfold cutX
          rw [← HT.out, HSZ.out]
          exact h1)
        obtain ⟨S, hS⟩ : ∃ S, S = x.data.extract 0 t := ⟨_, rfl⟩
        rw [← hS] at HWS
        have hS' : x.data.extract 0 t = S := hS.symm
        clear hb2 ho2 hsz HSZ hS c6' c6
        go_wp2_with (first
          | (go_at_call 66; refine HRE.out.mono ?_; rintro e w3 ⟨rfl, hb3, ho3⟩; have HB3 : Hid (BodyAt w3 b { x with safe := t, data := ⟨#[]⟩ } ∧ Only b w2 w3) := ⟨hb3, ho3⟩; clear hb3 ho3)
          | (go_at_call 67; refine (HWS.out _ HB3.out.1).mono ?_; rintro e w4 ⟨rfl, hb4, ho4⟩))
        go_end0
        exact ⟨rfl, hb4, (HO2.out.trans HB3.out.2).trans ho4⟩
  have FIN : Hid (∀ m, Exit.then K2 Q2 Exit.normal { tmps := #[.pointer (some ⟨b, 0, none⟩), .int .i64 keep, undef, undef, undef, .pointer (some ⟨b, 0, none⟩), .pointer (some ⟨b, 0, none⟩), .pointer (some ⟨b, 6, none⟩), .int .i64 s6, .int .i64 keep, .int .i64 (max keep 0), .pointer (some ⟨b, 0, none⟩), .int .i64 n, .int .i64 c, .int .i64 t, .pointer (some ⟨b, 0, none⟩), .pointer (some ⟨b, 6, none⟩), undef, undef, undef, undef, undef, undef, undef, undef, undef, undef, undef, undef, undef, undef, undef, undef, undef, undef, undef, undef, undef], defers := [] } ((w.drewN m).setCell ⟨b, 6, none⟩ (.int .i64 t))) := fin
  clear fin hs hl hcl HC HN HLO
  go_region_with (first | (go_at_call 64; refine (HLN.out _ (by exact HX.out)).mono ?_; rintro e w1 ⟨rfl, m, rfl⟩))
  all_goals exact FIN.out _
end Go.Proofs.YtjbphheojfclcaaGreat

-- The program's volume as a whole: what its calls meet.
namespace Go.Proofs.YtjbphheojfclcaaGreat
open Go.RowKit
set_option linter.unusedVariables false
section
variable {F : Nat → Prop} {p cap made : Nat} {now d0 : Dr} {cs : List Chg} {T K : List (Nat × Nat)} {bs : List Bd} {w : World}
theorem Maps4.v {F : Nat → Prop} {w : World} {vd vs vt vk : Value} {now d0 : Dr} {T K : List (Nat × Nat)} (h : Maps4 F w vd vs vt vk now d0 T K) : MapV .string w vd (dv now) ∧ MapV .string w vs (dv d0) ∧ MapV (.int .i64) w vt (bv T) ∧ MapV (.int .i64) w vk (bv K) := by
  rcases h with ⟨rfl, rfl, rfl, rfl, rfl, rfl, rfl, h8⟩ | ⟨bd, bf, bt, bk, rfl, rfl, rfl, rfl, f1, f2, f3, f4, n1, n2, n3, n4, n5, n6, m1, m2, m3, m4⟩
  · refine ⟨.inl ⟨rfl, rfl⟩, .inl ⟨rfl, rfl⟩, ?_, .inl ⟨rfl, rfl⟩⟩
    rcases h8 with rfl | ⟨bt, rfl, _, hm⟩
    · exact .inl ⟨rfl, rfl⟩
    · exact .inr ⟨bt, rfl, hm⟩
  · exact ⟨.inr ⟨_, rfl, m1⟩, .inr ⟨_, rfl, m2⟩, .inr ⟨_, rfl, m3⟩, .inr ⟨_, rfl, m4⟩⟩
theorem MapV.sv_look (c : Bool) {v : Value} {d : Dr} (h : MapV .string w v (dv d)) (hp : ∀ e ∈ d, 1 ≤ e.2) (n : ByteArray) :
    (Instr.lookup 99 v (.string n) c).run Tryz.prog w = .ok (if c then .tuple #[.int .i64 (leads d n), .bool (decide (leads d n ≠ 0))] else .int .i64 (leads d n)) w := by
  rcases h with ⟨rfl, hd⟩ | ⟨b, rfl, hm⟩
  · have : d = [] := by cases d with | nil => rfl | cons _ _ => simp [dv] at hd
    subst this
    exact look_nil c Tryz.underlying99 Tryz.underlying9 (key_s n) (zero3 w)
  · exact Go.Proofs.YtjbphheojfclcaaGreat.sv_look c hm hp n
theorem MapV.bv_look (c : Bool) {v : Value} {l : List (Nat × Nat)} (h : MapV (.int .i64) w v (bv l)) {n x : Nat} (hx : (n, x) ∈ l) :
    (Instr.lookup 100 v (.int .i64 n) c).run Tryz.prog w = .ok (if c then .tuple #[.pointer (some ⟨x, 0, none⟩), .bool true] else .pointer (some ⟨x, 0, none⟩)) w := by
  rcases h with ⟨rfl, hd⟩ | ⟨b, rfl, hm⟩
  · have : l = [] := by cases l with | nil => rfl | cons _ _ => simp [bv] at hd
    subst this; simp at hx
  · exact Go.Proofs.YtjbphheojfclcaaGreat.bv_look c hm hx
theorem MapV.bv_look_no (c : Bool) {v : Value} {l : List (Nat × Nat)} (h : MapV (.int .i64) w v (bv l)) {n : Int} (hx : ∀ e ∈ l, (e.1 : Int) ≠ n) :
    (Instr.lookup 100 v (.int .i64 n) c).run Tryz.prog w = .ok (if c then .tuple #[.pointer none, .bool false] else .pointer none) w := by
  rcases h with ⟨rfl, hd⟩ | ⟨b, rfl, hm⟩
  · exact look_nil c Tryz.underlying100 Tryz.underlying3 (key_i n) (zeroP w)
  · exact Go.Proofs.YtjbphheojfclcaaGreat.bv_look_no c hm hx
theorem disk_cells {vd vs vt vk vp : Value} (hp : w.heap[p]? = some (.cells (diskV cap made vd vs vt vk vp) 103 (0, 0))) : w.cell? ⟨p, 0, none⟩ = some (.int .i64 cap) ∧ w.cell? ⟨p, 1, none⟩ = some (.int .i64 made) ∧ w.cell? ⟨p, 2, none⟩ = some vd ∧ w.cell? ⟨p, 3, none⟩ = some vs ∧ w.cell? ⟨p, 4, none⟩ = some vt ∧ w.cell? ⟨p, 5, none⟩ = some vk ∧ w.cell? ⟨p, 6, none⟩ = some vp := by
  refine ⟨?_, ?_, ?_, ?_, ?_, ?_, ?_⟩ <;> (rw [Lib.cell_of_heap hp]; rfl)
/-- The numbers of the bodies that are laid by are all unlike. -/
def Uniq (L : List (Nat × Nat)) : Prop := ∀ e ∈ L, ∀ f ∈ L, e.1 = f.1 → e = f
/-- One body turned. -/
theorem Raw.body (h : Raw F p cap made now d0 cs T K bs w) (hu : Uniq (T ++ K)) {i b : Nat} {x x' : Bd} (hx : bs[i]? = some x) (hin : (i + 1, b) ∈ T ++ K) {w' : World} (ho : Only b w w') (hb' : BodyAt w' b x') {G : Nat → Prop} (hG : ∀ k, F k → G k) (hGb : ∀ k, bufOf w' b = some k → G k) :
    Raw G p cap made now d0 cs T K (bs.set i x') w' ∧ Kp F w w' := by
  obtain ⟨vd, vs, vt, vk, vp, hp, hF, hm, hr, hrF, hb, hn⟩ := h
  obtain ⟨_, xb, _, _, hxb⟩ := hb.at_ _ hin
  obtain ⟨cb, hcb⟩ := hxb.blk
  have hbF := hb.own _ hin
  simp only at hxb hcb hbF
  have ne1 : ∀ {k : Nat} {c : Array Value} {t : TypeId} {fr : Nat × Nat}, w.heap[k]? = some (.cells c t fr) → t ≠ 147 → t ≠ 5 → w'.heap[k]? = w.heap[k]? := fun {k c t fr} hk h1 h2 => ho.block k (blk_lt hk) (fun e => typed_ne hk hcb h1 e) (fun e => by
    obtain ⟨c', fz, hh⟩ := hxb.buf e
    exact typed_ne hk hh h2 rfl)
  have neM : ∀ v ∈ [vd, vs, vt, vk], ∀ k, v = .map (some k) → w'.heap[k]? = w.heap[k]? := fun v hv k hk => ho.block k (hm.inF hv hk).2 (fun e => hm.ne_cells hv hk hcb e) (fun e => by
    obtain ⟨c', fz, hh⟩ := hxb.buf e
    exact hm.ne_cells hv hk hh rfl)
  refine ⟨⟨vd, vs, vt, vk, vp, (ne1 hp (by decide) (by decide)).trans hp, hG _ hF, hm.keep neM hG, own_keep hr fun k hk => ?_, fun k hk => hG _ (hrF k hk), ?_, hn⟩, ho.kp hbF.1 hbF.2⟩
  · obtain ⟨cur, hh⟩ := own_typed hr hk
    exact ne1 hh (by decide) (by decide)
  · have other : ∀ e ∈ T ++ K, e.2 ≠ b → ∀ k, (k = e.2 ∨ bufOf w e.2 = some k) → w'.heap[k]? = w.heap[k]? := fun e he hne k hk => by
      obtain ⟨_, xe, _, _, hxe⟩ := hb.at_ e he
      obtain ⟨ce, hce⟩ := hxe.blk
      rcases hk with rfl | hk
      · refine ho.block _ (blk_lt hce) hne (fun e1 => ?_)
        obtain ⟨c', fz, hh⟩ := hxb.buf e1
        exact typed_ne hce hh (by decide) rfl
      · obtain ⟨c', fz, hh⟩ := hxe.buf hk
        exact ho.block _ (blk_lt hh) (fun e1 => typed_ne hh hcb (by decide) e1) (fun e1 => hb.buf e he _ hin hne k hk e1)
    have keepB : ∀ e ∈ T ++ K, e.2 ≠ b → bufOf w' e.2 = bufOf w e.2 := fun e he hne => bufOf_keep (other e he hne _ (.inl rfl))
    have isB : ∀ e ∈ T ++ K, e.2 = b → e = (i + 1, b) := fun e he hbe => hb.sep e he _ hin hbe
    refine ⟨fun e he => ?_, fun e he => ?_, hb.sep, fun e he f hf hne k h1 => ?_⟩
    · by_cases hbe : e.2 = b
      · obtain rfl := isB e he hbe
        exact ⟨i, x', rfl, by rw [List.getElem?_set_self (List.getElem?_eq_some_iff.1 hx).1], hb'⟩
      · obtain ⟨j, y, h1, h2, h3⟩ := hb.at_ e he
        refine ⟨j, y, h1, ?_, h3.keep (other e he hbe _ (.inl rfl)) fun k hk => other e he hbe k (.inr hk)⟩
        rw [List.getElem?_set_ne (fun e1 => hbe ?_)]
        · exact h2
        · have := hu e he _ hin (by rw [h1, e1])
          rw [this]
    · by_cases hbe : e.2 = b
      · obtain rfl := isB e he hbe
        exact ⟨hG _ hbF.1, hGb⟩
      · rw [keepB e he hbe]
        exact ⟨hG _ (hb.own e he).1, fun k hk => hG _ ((hb.own e he).2 k hk)⟩
    · by_cases h2 : e.2 = b
      · have h3 : f.2 ≠ b := fun e1 => hne (h2.trans e1.symm)
        rw [keepB f hf h3]
        rw [h2] at h1
        rcases ho.buf k h1 with h4 | h4
        · exact hb.buf e he f hf hne k (by rw [h2]; exact h4)
        · intro h5
          have := (hb.lt hf).2 k h5
          omega
      · rw [keepB e he h2] at h1
        by_cases h3 : f.2 = b
        · rw [h3]
          intro h4
          rcases ho.buf k h4 with h5 | h5
          · exact hb.buf e he f hf hne k h1 (by rw [h3]; exact h5)
          · have := (hb.lt he).2 k h1
            omega
        · rw [keepB f hf h3]; exact hb.buf e he f hf hne k h1
end
theorem Inv.uniq {st : St} {d0 : Dr} {cs : List Chg} {T K : List (Nat × Nat)} (h : Inv st d0 cs T K) (hT : (T.map (·.1)).Nodup) (hK : (K.map (·.1)).Nodup) : Uniq (T ++ K) := by
  have key : ∀ {l : List (Nat × Nat)}, (l.map (·.1)).Nodup → ∀ e ∈ l, ∀ f ∈ l, e.1 = f.1 → e = f := fun {l} hn e he f hf hef => by
    obtain ⟨i, hi, rfl⟩ := List.getElem_of_mem he
    obtain ⟨j, hj, rfl⟩ := List.getElem_of_mem hf
    have hp := List.pairwise_iff_getElem.1 hn
    rcases Nat.lt_trichotomy i j with h1 | h1 | h1
    · exact absurd (by rw [List.getElem_map, List.getElem_map]; exact hef) (hp i j (by simpa using hi) (by simpa using hj) h1)
    · subst h1; rfl
    · exact absurd (by rw [List.getElem_map, List.getElem_map]; exact hef.symm) (hp j i (by simpa using hj) (by simpa using hi) h1)
  intro e he f hf hef
  rcases List.mem_append.1 he with he | he <;> rcases List.mem_append.1 hf with hf | hf
  · exact key hT e he f hf hef
  · exact absurd hef.symm (h.apart f hf e he)
  · exact absurd hef (h.apart e he f hf)
  · exact key hK e he f hf hef
theorem MapV.uniq {w : World} {v : Value} {l : List (Nat × Nat)} (h : MapV (.int .i64) w v (bv l)) : (l.map (·.1)).Nodup := by
  rcases h with ⟨rfl, hd⟩ | ⟨b, rfl, hm⟩
  · have : l = [] := by cases l with | nil => rfl | cons _ _ => simp [bv] at hd
    subst this; simp
  · exact bv_uniq hm.apart
/-- A number, and the body that is there. -/
theorem body_of {F : Nat → Prop} {p : Nat} {st : St} {w : World} {d0 : Dr} {cs : List Chg} {T K : List (Nat × Nat)} (hr : Bods F w st.bodies (T ++ K)) (hi : Inv st d0 cs T K) (hw : Wf st) (n : Int) :
    (there st.now n = false ∧ st.at_ n = none ∧ ∀ e ∈ T, (e.1 : Int) ≠ n) ∨ ∃ i b x, n = ((i + 1 : Nat) : Int) ∧ (i + 1, b) ∈ T ∧ st.bodies[i]? = some x ∧ st.at_ n = some x ∧ there st.now n = true ∧ BodyAt w b x := by
  by_cases h : there st.now n = true
  · refine .inr ?_
    obtain ⟨i, x, hn, hx⟩ := there_body hw h
    obtain ⟨e, he, hen⟩ := there_mem h
    have hm : e.2 ∈ T.map (·.1) := hi.num.mem_iff.2 (List.mem_map.2 ⟨e, he, rfl⟩)
    obtain ⟨f, hf, hfe⟩ := List.mem_map.1 hm
    have hf1 : f.1 = i + 1 := by omega
    obtain ⟨j, y, h1, h2, h3⟩ := hr.at_ f (List.mem_append_left _ hf)
    have : j = i := by omega
    subst this
    rw [hx] at h2; cases h2
    refine ⟨j, f.2, x, by omega, by rw [← h1]; exact hf, hx, ?_, h, h3⟩
    rw [hn]; exact at_some (by rw [← hn]; exact h) hx
  · have h' : there st.now n = false := by simpa using h
    refine .inl ⟨h', at_none h', fun e he hne => h ?_⟩
    obtain ⟨f, hf, hfe⟩ := List.mem_map.1 (hi.num.mem_iff.1 (List.mem_map.2 ⟨e, he, rfl⟩))
    unfold there
    rw [List.any_eq_true]
    exact ⟨f, hf, by simp only [decide_eq_true_eq]; rw [hfe]; exact hne⟩
theorem Inv.put {st : St} {d0 : Dr} {cs : List Chg} {T K : List (Nat × Nat)} (h : Inv st d0 cs T K) (n : Int) (x : Bd) : Inv (st.put n x) d0 cs T K := ⟨h.dirs, h.dw, h.num, h.all, h.apart⟩
theorem Inv.pos {st : St} (hw : Wf st) : ∀ e ∈ st.now, 1 ≤ e.2 := fun e he => (hw.led _ (now_mem hw) e he).1
theorem Inv.now_eq {st : St} {d0 : Dr} {cs : List Chg} {T K : List (Nat × Nat)} (h : Inv st d0 cs T K) : st.now = endOf d0 cs := by
  unfold St.now; rw [h.dirs, chain_last]; rfl
theorem Inv.cs_len {st : St} {d0 : Dr} {cs : List Chg} {T K : List (Nat × Nat)} (h : Inv st d0 cs T K) : st.dirs.length = cs.length + 1 := by rw [h.dirs, chain_len]
end Go.Proofs.YtjbphheojfclcaaGreat

-- The program's questions.
namespace Go.Proofs.YtjbphheojfclcaaGreat
open Go.RowKit
set_option linter.unusedVariables false
/-- What the calls begin with: the struct's cells, and what the maps say. -/
structure Open (F : Nat → Prop) (p : Nat) (st : St) (w : World) (d0 : Dr) (cs : List Chg) (T K : List (Nat × Nat)) (vd vs vt vk vp : Value) : Prop where
  raw : Raw F p st.cap st.bodies.length st.now d0 cs T K st.bodies w
  inv : Inv st d0 cs T K
  blk : w.heap[p]? = some (.cells (diskV st.cap st.bodies.length vd vs vt vk vp) 103 (0, 0))
  maps : Maps4 F w vd vs vt vk st.now d0 T K
  bod : Bods F w st.bodies (T ++ K)
  row : w.ownsRow 0 137 3 vp cs.length (chgV cs)
  fp : F p
theorem psx_open {F : Nat → Prop} {p : Nat} {st : St} {w : World} (h : PSx F p st w) : ∃ d0 cs T K vd vs vt vk vp, Open F p st w d0 cs T K vd vs vt vk vp := by
  obtain ⟨d0, cs, T, K, hr, hi⟩ := h
  have hr' := hr
  obtain ⟨vd, vs, vt, vk, vp, hp, hF, hm, ho, hoF, hb, hn⟩ := hr
  exact ⟨d0, cs, T, K, vd, vs, vt, vk, vp, hr', hi, hp, hm, hb, ho, hF⟩
theorem Open.psx {F : Nat → Prop} {p : Nat} {st : St} {w : World} {d0 : Dr} {cs : List Chg} {T K : List (Nat × Nat)} {vd vs vt vk vp : Value} (h : Open F p st w d0 cs T K vd vs vt vk vp) : PSx F p st w := ⟨d0, cs, T, K, h.raw, h.inv⟩
theorem psx_below {F : Nat → Prop} {p : Nat} {st : St} {w w' : World} (h : PSx F p st w) (hb : Below w.heap.size w w') : PSx F p st w' ∧ Kp F w w' := ⟨psx_same h fun k _ hk => hb.block k hk, Kp.of_below hb⟩
theorem Open.uniq {F : Nat → Prop} {p : Nat} {st : St} {w : World} {d0 : Dr} {cs : List Chg} {T K : List (Nat × Nat)} {vd vs vt vk vp : Value} (h : Open F p st w d0 cs T K vd vs vt vk vp) : Uniq (T ++ K) := h.inv.uniq h.maps.v.2.2.1.uniq h.maps.v.2.2.2.uniq
/-- A body turned: the volume behind it. -/
theorem Open.put {F : Nat → Prop} {p : Nat} {st : St} {w : World} {d0 : Dr} {cs : List Chg} {T K : List (Nat × Nat)} {vd vs vt vk vp : Value} (h : Open F p st w d0 cs T K vd vs vt vk vp) {i b : Nat} {x x' : Bd} (hx : st.bodies[i]? = some x) (hin : (i + 1, b) ∈ T) {w' : World} (ho : Only b w w') (hb' : BodyAt w' b x') :
    PSx (ext F w w') p (st.put ((i + 1 : Nat) : Int) x') w' ∧ Kp F w w' := by
  have hbF := h.bod.own _ (List.mem_append_left K hin)
  obtain ⟨h1, h2⟩ := h.raw.body h.uniq hx (List.mem_append_left _ hin) ho hb' (G := ext F w w') (fun k hk => .inl hk) (fun k hk => by
    obtain ⟨c', fz, hh⟩ := hb'.buf hk
    rcases ho.buf k hk with h1 | h1
    · exact .inl (hbF.2 k h1)
    · exact .inr ⟨h1, blk_lt hh⟩)
  refine ⟨⟨d0, cs, T, K, ?_, h.inv.put _ _⟩, h2⟩
  have e : st.put ((i + 1 : Nat) : Int) x' = { st with bodies := st.bodies.set i x' } := by
    unfold St.put; rw [Int.toNat_natCast, Nat.add_sub_cancel]
  rw [e]
  simp only [List.length_set]
  exact h1
set_option maxHeartbeats 2000000 in
theorem read_p (F : Nat → Prop) (p : Nat) (st : St) (n : Int) (w : World) (h : PSx F p st w) (hw : Wf st) :
    Calls Tryz.prog 49 #[.pointer (some ⟨p, 0, none⟩), .int .i64 n] w fun e w' => e = .returned (.tuple #[.string (st.read n).1, .int .i64 (st.read n).2]) ∧ PSx F p st w' ∧ Kp F w w' := by
  obtain ⟨d0, cs, T, K, vd, vs, vt, vk, vp, O⟩ := psx_open h
  have c4 := (disk_cells O.blk).2.2.2.2.1
  unfold St.read
  rcases body_of (p := p) O.bod O.inv hw n with ⟨_, h1, h2⟩ | ⟨i, b, x, rfl, h1, h2, h3, h4, h5⟩
  · rw [h1]
    have hl := O.maps.v.2.2.1.bv_look_no true h2
    simp only [if_true] at hl
    have HR : Hid (PSx F p st w ∧ Kp F w w) := ⟨h, Kp.refl _ _⟩
    clear O h hw h1 h2
    go_enter Tryz.func49, Tryz.ntmps49
    go_wp2_with (at_lookup; refine wp_look _ rfl _ _ 100 true rfl _ _ _ rfl rfl hl ?_)
    go_ret2
    exact ⟨rfl, HR.out⟩
  · rw [h3]
    have hl := O.maps.v.2.2.1.bv_look true h1
    simp only [if_true] at hl
    have HS : Hid (Calls Tryz.prog 65 #[.pointer (some ⟨b, 4, none⟩)] w fun e w' => e = .returned (.string x.data) ∧ PSx F p st w' ∧ Kp F w w') := (bstr_k b x w h5).mono (by
      rintro e w' ⟨rfl, hb, ho, hk⟩
      refine ⟨rfl, ?_⟩
      have hbF := O.bod.own _ (List.mem_append_left K h1)
      obtain ⟨r1, r2⟩ := O.raw.body O.uniq h2 (List.mem_append_left _ h1) ho hb (G := F) (fun k hk => hk) (fun k hk' => by rw [bufOf_keep hk] at hk'; exact hbF.2 k hk')
      have e : st.bodies.set i x = st.bodies := by
        apply List.ext_getElem?
        intro j
        rw [List.getElem?_set]
        split
        · rename_i hij; subst hij; rw [h2, if_pos (List.getElem?_eq_some_iff.1 h2).1]
        · rfl
      rw [e] at r1
      exact ⟨⟨d0, cs, T, K, r1, O.inv⟩, r2⟩)
    clear O h hw h1 h2 h3 h4 h5
    go_enter Tryz.func49, Tryz.ntmps49
    go_wp2_with (first
      | (at_lookup; refine wp_look _ rfl _ _ 100 true rfl _ _ _ rfl rfl hl ?_)
      | (go_at_call 65; refine HS.out.mono ?_; rintro e w1 ⟨rfl, hr⟩))
    go_ret2
    exact ⟨rfl, hr⟩
theorem names_p (F : Nat → Prop) (p : Nat) (st : St) (w : World) (h : PSx F p st w) (hw : Wf st) :
    Calls Tryz.prog 45 #[.pointer (some ⟨p, 0, none⟩)] w fun e w' => (∃ v, e = .returned v ∧ w'.ownsRow w.heap.size 9 1 v st.names.length (strV st.names)) ∧ PSx F p st w' ∧ Kp F w w' := by
  obtain ⟨d0, cs, T, K, vd, vs, vt, vk, vp, O⟩ := psx_open h
  refine (pnames_c p vd st.now w (disk_cells O.blk).2.2.1 O.maps.v.1 (O.inv.dw.now hw) (now_len hw)).mono ?_
  rintro e w' ⟨⟨v, rfl, ho⟩, hb⟩
  refine ⟨⟨v, rfl, ?_⟩, psx_below h hb⟩
  unfold St.names
  rw [List.length_map]
  exact ho
theorem used_sum {F : Nat → Prop} {p : Nat} {st : St} {w : World} {d0 : Dr} {cs : List Chg} {T K : List (Nat × Nat)} (hi : Inv st d0 cs T K) : (T.map fun e => szOf st.bodies e.1).sum = st.used := by
  unfold St.used usedIn
  have := (hi.num.map (szOf st.bodies)).sum_nat
  simpa [List.map_map, Function.comp_def] using this
theorem used_p (F : Nat → Prop) (p : Nat) (st : St) (w : World) (h : PSx F p st w) (hw : Wf st) :
    Calls Tryz.prog 73 #[.pointer (some ⟨p, 0, none⟩)] w fun e w' => e = .returned (.int .i64 st.used) ∧ Below w.heap.size w w' := by
  obtain ⟨d0, cs, T, K, vd, vs, vt, vk, vp, O⟩ := psx_open h
  have hs := used_sum (F := F) (p := p) (w := w) O.inv
  have hle := usedIn_le hw st.now
  have hl := now_len hw
  have hu : st.used ≤ 64 * 1073741824 := Nat.le_trans hle (Nat.mul_le_mul_right _ hl)
  refine (pused_c p vt T (szOf st.bodies) w (disk_cells O.blk).2.2.2.2.1 O.maps.v.2.2.1 (fun e he => ?_) (by rw [hs]; omega)).mono ?_
  · obtain ⟨i, x, h1, h2, h3⟩ := O.bod.at_ e (List.mem_append_left _ he)
    exact ⟨x, h3, by rw [h1]; simp [szOf, h2]⟩
  · rintro e w' ⟨rfl, hb⟩
    rw [hs]
    exact ⟨rfl, hb⟩
end Go.Proofs.YtjbphheojfclcaaGreat

-- Find.
namespace Go.Proofs.YtjbphheojfclcaaGreat
open Go.RowKit
set_option linter.unusedVariables false
theorem sizeInf : (Tryz.prog.info? 29).map (·.size) = some 6 := by kernel_rfl
def inf0 : Array Value := #[.int .i64 0, .int .i64 0, .int .i64 0, .int .i64 0, .string ⟨#[]⟩, .int .i64 0]
set_option maxHeartbeats 8000000 in
theorem find_p (F : Nat → Prop) (p : Nat) (st : St) (name : ByteArray) (w : World) (h : PSx F p st w) (hw : Wf st) :
    Calls Tryz.prog 48 #[.pointer (some ⟨p, 0, none⟩), .string name] w fun e w' => e = .returned (.tuple #[.agg (infoV (st.find name).1.1 (st.find name).1.2), .int .i64 (st.find name).2.1, .int .i64 (st.find name).2.2]) ∧ PSx F p st w' ∧ Kp F w w' := by
  obtain ⟨d0, cs, T, K, vd, vs, vt, vk, vp, O⟩ := psx_open h
  obtain ⟨X, hX⟩ : ∃ X, X = Obj.cells #[.int .i64 0, .int .i64 0, .int .i64 0, .int .i64 0, .string ⟨#[]⟩, .int .i64 0] 29 := ⟨_, rfl⟩
  have hbA : Below w.heap.size w (w.alloc X) := (Below.refl _ w).alloc (Nat.le_refl _) X
  have hs1 : (w.alloc X).heap.size = w.heap.size + 1 := by simp
  have HN : Hid (Calls Tryz.prog 68 #[.string name] (w.alloc X) fun e w' => e = .returned (.bool (okName name)) ∧ Below w.heap.size w w' ∧ w'.heap[w.heap.size]? = some (.cells #[.int .i64 0, .int .i64 0, .int .i64 0, .int .i64 0, .string ⟨#[]⟩, .int .i64 0] 29 (0, 0))) := (isName_c name (w.alloc X)).mono (by
    rintro e w' ⟨rfl, hb⟩
    refine ⟨rfl, hbA.trans (hb.mono (by omega)), ?_⟩
    rw [hb.block _ (by omega), heap_alloc_new, hX])
  have six : ∀ W : World, W.heap[w.heap.size]? = some (.cells #[.int .i64 0, .int .i64 0, .int .i64 0, .int .i64 0, .string ⟨#[]⟩, .int .i64 0] 29 (0, 0)) → W.cell? ⟨w.heap.size, 0, none⟩ = some (.int .i64 0) ∧ W.cell? ⟨w.heap.size, 1, none⟩ = some (.int .i64 0) ∧ W.cell? ⟨w.heap.size, 2, none⟩ = some (.int .i64 0) ∧ W.cell? ⟨w.heap.size, 3, none⟩ = some (.int .i64 0) ∧ W.cell? ⟨w.heap.size, 4, none⟩ = some (.string ⟨#[]⟩) ∧ W.cell? ⟨w.heap.size, 5, none⟩ = some (.int .i64 0) ∧ W.frozen? ⟨w.heap.size, 0, none⟩ = false ∧ W.frozen? ⟨w.heap.size, 1, none⟩ = false ∧ W.frozen? ⟨w.heap.size, 2, none⟩ = false ∧ W.frozen? ⟨w.heap.size, 3, none⟩ = false ∧ W.frozen? ⟨w.heap.size, 4, none⟩ = false ∧ W.frozen? ⟨w.heap.size, 5, none⟩ = false := fun W hk => by
    refine ⟨?_, ?_, ?_, ?_, ?_, ?_, Lib.frozen_of_heap hk 0, Lib.frozen_of_heap hk 1, Lib.frozen_of_heap hk 2, Lib.frozen_of_heap hk 3, Lib.frozen_of_heap hk 4, Lib.frozen_of_heap hk 5⟩ <;> (rw [Lib.cell_of_heap hk]; rfl)
  have SIX : Hid (∀ W : World, W.heap[w.heap.size]? = some (.cells #[.int .i64 0, .int .i64 0, .int .i64 0, .int .i64 0, .string ⟨#[]⟩, .int .i64 0] 29 (0, 0)) → W.cell? ⟨w.heap.size, 0, none⟩ = some (.int .i64 0) ∧ W.cell? ⟨w.heap.size, 1, none⟩ = some (.int .i64 0) ∧ W.cell? ⟨w.heap.size, 2, none⟩ = some (.int .i64 0) ∧ W.cell? ⟨w.heap.size, 3, none⟩ = some (.int .i64 0) ∧ W.cell? ⟨w.heap.size, 4, none⟩ = some (.string ⟨#[]⟩) ∧ W.cell? ⟨w.heap.size, 5, none⟩ = some (.int .i64 0) ∧ W.frozen? ⟨w.heap.size, 0, none⟩ = false ∧ W.frozen? ⟨w.heap.size, 1, none⟩ = false ∧ W.frozen? ⟨w.heap.size, 2, none⟩ = false ∧ W.frozen? ⟨w.heap.size, 3, none⟩ = false ∧ W.frozen? ⟨w.heap.size, 4, none⟩ = false ∧ W.frozen? ⟨w.heap.size, 5, none⟩ = false) := six
  have HPS : Hid (∀ W, Below w.heap.size w W → PSx F p st W ∧ Kp F w W) := fun W hb => psx_below h hb
  have HO : Hid (Open F p st w d0 cs T K vd vs vt vk vp) := O
  have hpl := blk_lt O.blk
  have HC2 : Hid (∀ W : World, Below w.heap.size w W → W.cell? ⟨p, 2, none⟩ = some vd ∧ W.cell? ⟨p, 4, none⟩ = some vt ∧ (Instr.lookup 99 vd (.string name) true).run Tryz.prog W = .ok (.tuple #[.int .i64 (leads st.now name), .bool (decide (leads st.now name ≠ 0))]) W) := fun W hb => by
    refine ⟨cell_below hb (disk_cells O.blk).2.2.1, cell_below hb (disk_cells O.blk).2.2.2.2.1, ?_⟩
    have := (O.maps.v.1.keep hb).sv_look true (Inv.pos hw) name
    simpa using this
  subst hX
  rcases hok : okName name with _ | _
  · have HC : Hid (st.find name = ((⟨#[]⟩, noBd), (0, 32))) := by show _ = _; unfold St.find; rw [if_pos hok]
    rw [hok] at HN
    clear h hw hok O hbA hs1 six hpl HC2
    go_enter Tryz.func48, Tryz.ntmps48
    go_wp2_with (go_at_call 68; refine HN.out.mono ?_; rintro e w1 ⟨rfl, hb1, hk1⟩; obtain ⟨s0, s1, s2, s3, s4, s5, f0, f1, f2, f3, f4, f5⟩ := SIX.out _ hk1; have HB1 : Hid (Below w.heap.size w w1 ∧ w1.heap[w.heap.size]? = some (.cells #[.int .i64 0, .int .i64 0, .int .i64 0, .int .i64 0, .string ⟨#[]⟩, .int .i64 0] 29 (0, 0))) := ⟨hb1, hk1⟩; clear hb1 hk1)
    refine bodyPost_ret (results_cell_tmp2 rfl _ _ w.heap.size _ _ _ _ rfl (six_set HB1.out.2 _ _ _ _ _ _) Tryz.underlying29 rfl sizeInf) rfl ?_
    rw [HC.out]
    exact ⟨rfl, HPS.out _ (six_below HB1.out.1 (Nat.le_refl _) _ _ _ _ _ _)⟩
  · rw [hok] at HN
    by_cases hz : leads st.now name = 0
    · have HC : Hid (st.find name = ((⟨#[]⟩, noBd), (0, 30))) := by
        show _ = _
        unfold St.find
        rw [if_neg (by rw [hok]; decide), if_pos hz]
      have hdz : decide (leads st.now name ≠ 0) = false := by simp [hz]
      rw [hz] at HC2
      rw [show decide ((0 : Nat) ≠ 0) = false by decide] at HC2
      clear h hw hok O hbA hs1 six hpl hz hdz
      go_enter Tryz.func48, Tryz.ntmps48
      go_wp2_with (first
        | (go_at_call 68; refine HN.out.mono ?_; rintro e w1 ⟨rfl, hb1, hk1⟩; obtain ⟨s0, s1, s2, s3, s4, s5, f0, f1, f2, f3, f4, f5⟩ := SIX.out _ hk1; obtain ⟨x2, x4, hl⟩ := HC2.out _ hb1; have HB1 : Hid (Below w.heap.size w w1 ∧ w1.heap[w.heap.size]? = some (.cells #[.int .i64 0, .int .i64 0, .int .i64 0, .int .i64 0, .string ⟨#[]⟩, .int .i64 0] 29 (0, 0))) := ⟨hb1, hk1⟩; clear hb1 hk1)
        | (at_lookup; refine wp_look _ rfl _ _ 99 true rfl _ _ _ rfl rfl hl ?_))
      refine bodyPost_ret (results_cell_tmp2 rfl _ _ w.heap.size _ _ _ _ rfl (six_set HB1.out.2 _ _ _ _ _ _) Tryz.underlying29 rfl sizeInf) rfl ?_
      rw [HC.out]
      exact ⟨rfl, HPS.out _ (six_below HB1.out.1 (Nat.le_refl _) _ _ _ _ _ _)⟩
    · obtain ⟨i, x, hli, hx⟩ := leads_body hw hz
      have hth : there st.now ((i + 1 : Nat) : Int) = true := by
        unfold there; rw [List.any_eq_true]
        exact ⟨_, leads_mem _ _ hz, by simp [hli]⟩
      obtain ⟨b, hin, hbx⟩ : ∃ b, (i + 1, b) ∈ T ∧ BodyAt w b x := by
        rcases body_of (p := p) O.bod O.inv hw ((i + 1 : Nat) : Int) with ⟨h1, _⟩ | ⟨j, b, y, hj, h1, h2, h3, h4, h5⟩
        · rw [hth] at h1; cases h1
        · have : j = i := by omega
          subst this
          rw [hx] at h2; cases h2
          exact ⟨b, h1, h5⟩
      have HC : Hid (st.find name = ((name, x), (i + 1, 0))) := by
        show _ = _
        unfold St.find
        rw [if_neg (by rw [hok]; decide), if_neg hz, hli, show i + 1 - 1 = i by omega, hx]; rfl
      rw [hli] at HC2
      rw [show decide ((i + 1 : Nat) ≠ 0) = true by simp] at HC2
      have HL2 : Hid (∀ W, Below w.heap.size w W → (Instr.lookup 100 vt (.int .i64 ((i + 1 : Nat) : Int)) false).run Tryz.prog W = .ok (.pointer (some ⟨b, 0, none⟩)) W ∧ BodyAt W b x ∧ W.cell? ⟨b, 0, none⟩ = some (.int .i64 x.date) ∧ W.cell? ⟨b, 1, none⟩ = some (.int .i64 x.uid) ∧ W.cell? ⟨b, 2, none⟩ = some (.int .i64 x.gid) ∧ W.cell? ⟨b, 3, none⟩ = some (.int .i64 x.mode)) := fun W hb => by
        have hB := hbx.below hb (Nat.le_refl _)
        obtain ⟨ad, v, hh, _⟩ := id hB
        have hl := (O.maps.v.2.2.1.keep hb).bv_look false hin
        simp only [Bool.false_eq_true, if_false] at hl
        refine ⟨hl, hB, ?_, ?_, ?_, ?_⟩ <;> (rw [Lib.cell_of_heap hh]; rfl)
      have hbne : b ≠ w.heap.size := by obtain ⟨c, hh⟩ := hbx.blk; have := blk_lt hh; omega
      clear h hw hok O hbA hs1 six hpl hz hli hx hth hin hbx
      obtain ⟨k, hk⟩ : ∃ k : Nat, k = i + 1 := ⟨_, rfl⟩
      rw [← hk] at HC2 HL2 HC
      clear hk
      go_enter Tryz.func48, Tryz.ntmps48
      go_wp2_with (first
        | (go_at_call 68; refine HN.out.mono ?_; rintro e w1 ⟨rfl, hb1, hk1⟩; obtain ⟨s0, s1, s2, s3, s4, s5, f0, f1, f2, f3, f4, f5⟩ := SIX.out _ hk1; obtain ⟨x2, x4, hl⟩ := HC2.out _ hb1; obtain ⟨hl2, hB1, y0, y1, y2, y3⟩ := HL2.out _ hb1; have HB1 : Hid (Below w.heap.size w w1 ∧ w1.heap[w.heap.size]? = some (.cells #[.int .i64 0, .int .i64 0, .int .i64 0, .int .i64 0, .string ⟨#[]⟩, .int .i64 0] 29 (0, 0))) := ⟨hb1, hk1⟩; have HBB : Hid (BodyAt w1 b x) := hB1; clear hb1 hk1 hB1)
        | (at_lookup; refine wp_look _ rfl _ _ _ _ rfl _ _ _ rfl rfl (by first | with_reducible exact hl | with_reducible exact hl2) ?_))
      have HLN : Hid (∀ W, BodyAt W b x → Calls Tryz.prog 69 #[.pointer (some ⟨b, 4, none⟩)] W fun e w' => e = .returned (.int .i64 x.data.size) ∧ w' = W) := fun W hW => blen_c b x W hW
      clear hl hl2 x2 x4
      go_region_with (first | (go_at_call 69; refine (HLN.out _ (by exact HBB.out)).mono ?_; rintro e w3 ⟨rfl, hw3⟩; subst w3))
      all_goals
        go_wp2
        have hk6 := six_set HB1.out.2 (.int .i64 x.date) (.int .i64 x.uid) (.int .i64 x.gid) (.int .i64 x.mode) (.string name) (.int .i64 x.data.size)
        have hb6 := six_below (B := w.heap.size) (b := w.heap.size) HB1.out.1 (Nat.le_refl _) (.int .i64 x.date) (.int .i64 x.uid) (.int .i64 x.gid) (.int .i64 x.mode) (.string name) (.int .i64 x.data.size)
        obtain ⟨W6, hW6⟩ : ∃ W, W = ((((((w1.setCell ⟨w.heap.size, 0, none⟩ (.int .i64 x.date)).setCell ⟨w.heap.size, 1, none⟩ (.int .i64 x.uid)).setCell ⟨w.heap.size, 2, none⟩ (.int .i64 x.gid)).setCell ⟨w.heap.size, 3, none⟩ (.int .i64 x.mode)).setCell ⟨w.heap.size, 4, none⟩ (.string name)).setCell ⟨w.heap.size, 5, none⟩ (.int .i64 x.data.size)) := ⟨_, rfl⟩
        rw [← hW6] at hk6 hb6
        rw [← hW6]
        clear hW6
        have hk7 : W6.drew.heap[w.heap.size]? = some (.cells (infoV name x) 29 (0, 0)) := hk6
        have hb7 : Below w.heap.size w W6.drew := hb6.drew
        obtain ⟨W7, hW7⟩ : ∃ W, W = W6.drew := ⟨_, rfl⟩
        rw [← hW7] at hk7 hb7
        rw [← hW7]
        clear hk6 hb6 hW7 HB1 HBB SIX HN HC2 HL2 HLN
        rw [HC.out]
        simp only [Act.put, List.setIfInBounds_toArray, List.set_cons_succ, List.set_cons_zero, List.getElem_toArray, List.getElem_cons_succ, List.getElem_cons_zero]
        refine bodyPost_ret (results_cell_tmp2 rfl _ _ w.heap.size _ _ _ _ rfl hk7 Tryz.underlying29 rfl sizeInf) rfl ?_
        exact ⟨rfl, HPS.out _ hb7⟩
end Go.Proofs.YtjbphheojfclcaaGreat

-- New, Sync, Append, SyncDir.
namespace Go.Proofs.YtjbphheojfclcaaGreat
open Go.RowKit
set_option linter.unusedVariables false
set_option maxHeartbeats 2000000 in
theorem new_no_p (c : Int) (w : World) (hc : c < 0 ∨ 1073741824 < c) : Calls Tryz.prog 24 #[.int .i64 c] w fun e w' => e = .returned (.pointer none) ∧ Below w.heap.size w w' := by
  rcases (by omega : c < 0 ∨ (0 ≤ c ∧ 1073741824 < c)) with h | ⟨h, h2⟩
  · have b0 : decide (c < 0) = true := decide_eq_true h
    go_enter Tryz.func24, Tryz.ntmps24
    go_wp2
    go_ret
    exact ⟨rfl, Below.refl _ _⟩
  · have b0 : decide (c < 0) = false := decide_eq_false (by omega)
    have b1 : decide (1073741824 < c) = true := decide_eq_true h2
    go_enter Tryz.func24, Tryz.ntmps24
    go_wp2
    go_ret
    exact ⟨rfl, Below.refl _ _⟩
theorem psx_new (c : Nat) (w : World) : PSx (fun k => w.heap.size ≤ k ∧ k < (w.alloc (.cells #[.int .i64 c, .int .i64 0, .map none, .map none, .map none, .map none, .slice none 0 0] 103)).heap.size) w.heap.size (St.new c) (w.alloc (.cells #[.int .i64 c, .int .i64 0, .map none, .map none, .map none, .map none, .slice none 0 0] 103)) := by
  refine ⟨[], [], [], [], ⟨.map none, .map none, .map none, .map none, .slice none 0 0, heap_alloc_new w _, ⟨Nat.le_refl _, by simp⟩, .inl ⟨rfl, rfl, rfl, rfl, rfl, rfl, rfl, .inl rfl⟩, World.ownsRow_nil _ _ _ _, fun k hk => by simp [Value.ownBlock] at hk, ⟨by simp, by simp, by simp, by simp⟩, fun _ => rfl⟩, ⟨rfl, new_DW c, ?_, ?_, by simp⟩⟩
  · simp [St.new, St.now]
  · intro d hd e he
    simp [St.new] at hd
    subst hd; simp at he
set_option maxHeartbeats 2000000 in
theorem new_p (c : Nat) (w : World) (hc : c ≤ 1073741824) : Calls Tryz.prog 24 #[.int .i64 c] w fun e w' => ∃ p, e = .returned (.pointer (some ⟨p, 0, none⟩)) ∧ PSx (fun k => w.heap.size ≤ k ∧ k < w'.heap.size) p (St.new c) w' ∧ Below w.heap.size w w' := by
  have b0 : decide ((c : Int) < 0) = false := decide_eq_false (by omega)
  have b1 : decide ((1073741824 : Int) < (c : Int)) = false := decide_eq_false (by omega)
  have HR := psx_new c w
  have HH : Hid (PSx (fun k => w.heap.size ≤ k ∧ k < (w.alloc (.cells #[.int .i64 c, .int .i64 0, .map none, .map none, .map none, .map none, .slice none 0 0] 103)).heap.size) w.heap.size (St.new c) (w.alloc (.cells #[.int .i64 c, .int .i64 0, .map none, .map none, .map none, .map none, .slice none 0 0] 103))) := HR
  clear HR
  go_enter Tryz.func24, Tryz.ntmps24
  go_wp2
  go_ret
  exact ⟨_, rfl, HH.out, (Below.refl _ w).alloc (Nat.le_refl _) _⟩
set_option maxHeartbeats 2000000 in
theorem sync_p (F : Nat → Prop) (p : Nat) (st : St) (n : Int) (w : World) (h : PSx F p st w) (hw : Wf st) :
    Calls Tryz.prog 55 #[.pointer (some ⟨p, 0, none⟩), .int .i64 n] w fun e w' => e = .returned (.int .i64 (st.sync n).1) ∧ PDid PSx F p (st.sync n).2 w w' := by
  obtain ⟨d0, cs, T, K, vd, vs, vt, vk, vp, O⟩ := psx_open h
  have c4 := (disk_cells O.blk).2.2.2.2.1
  unfold St.sync
  rcases body_of (p := p) O.bod O.inv hw n with ⟨_, h1, h2⟩ | ⟨i, b, x, rfl, h1, h2, h3, h4, h5⟩
  · rw [h1]
    have hl := O.maps.v.2.2.1.bv_look_no true h2
    simp only [if_true] at hl
    have HR : Hid (PDid PSx F p st w w) := ⟨psx_mono h fun k hk => .inl hk, Kp.refl _ _⟩
    clear O h hw h1 h2
    go_enter Tryz.func55, Tryz.ntmps55
    go_wp2_with (at_lookup; refine wp_look _ rfl _ _ 100 true rfl _ _ _ rfl rfl hl ?_)
    go_ret
    exact ⟨rfl, HR.out⟩
  · rw [h3]
    dsimp only
    have hl := O.maps.v.2.2.1.bv_look true h1
    simp only [if_true] at hl
    obtain ⟨ad, v, hh, had, hown⟩ := id h5
    have e1 := (set_body hh).2.2 x.data.size
    have HR : Hid (PDid PSx F p (st.put ((i + 1 : Nat) : Int) { x with safe := x.data.size }) w (w.setCell ⟨b, 6, none⟩ (.int .i64 x.data.size))) := by
      refine O.put h2 h1 ((Only.refl b w).set _ fun k hk => .inl ?_) ⟨ad, v, e1, had, ownF_keep hown fun k hk => Below.heap_setCell _ _ _ _ (fun e => buf_ne hh hown (by rw [hk, e]))⟩
      rw [bufOf_eq e1] at hk; rw [bufOf_eq hh]; exact hk
    have c6 := h5.cell6.1
    have f6 := h5.cell6.2
    have HL : Hid (Calls Tryz.prog 69 #[.pointer (some ⟨b, 4, none⟩)] w fun e w' => e = .returned (.int .i64 x.data.size) ∧ w' = w) := blen_c b x w h5
    clear O h hw h1 h2 h3 h4 h5 hh had hown e1
    go_enter Tryz.func55, Tryz.ntmps55
    go_wp2_with (first
      | (at_lookup; refine wp_look _ rfl _ _ 100 true rfl _ _ _ rfl rfl hl ?_)
      | (go_at_call 69; refine HL.out.mono ?_; rintro e w1 ⟨rfl, hw1⟩; subst w1))
    go_ret
    exact ⟨rfl, HR.out⟩
/-- What a call that only makes new blocks, and then one on the volume, has done. -/
theorem pdid_after {F : Nat → Prop} {p : Nat} {st : St} {w w1 w2 : World} (hb : Below w.heap.size w w1) (h : PDid PSx F p st w1 w2) : PDid PSx F p st w w2 := by
  obtain ⟨h1, h2⟩ := h
  have hs := hb.size
  have hs2 := h2.size
  refine ⟨psx_mono h1 fun k hk => ?_, h2.os.trans hb.os, h2.tape.trans hb.tape, h2.output.trans hb.output, by omega, fun k hk hF => (h2.block k (by omega) hF).trans (hb.block k hk)⟩
  rcases hk with hk | hk
  · exact .inl hk
  · exact .inr ⟨by omega, by omega⟩
set_option maxHeartbeats 8000000 in
theorem append_p (F : Nat → Prop) (p : Nat) (st : St) (n : Int) (data : ByteArray) (w : World) (h : PSx F p st w) (hw : Wf st) (hd : data.size ≤ 140737488355328) :
    Calls Tryz.prog 54 #[.pointer (some ⟨p, 0, none⟩), .int .i64 n, .string data] w fun e w' => e = .returned (.int .i64 (st.append n data).1) ∧ PDid PSx F p (st.append n data).2 w w' := by
  obtain ⟨d0, cs, T, K, vd, vs, vt, vk, vp, O⟩ := psx_open h
  have c4 := (disk_cells O.blk).2.2.2.2.1
  have c0 := (disk_cells O.blk).1
  unfold St.append
  rcases body_of (p := p) O.bod O.inv hw n with ⟨_, h1, h2⟩ | ⟨i, b, x, rfl, h1, h2, h3, h4, h5⟩
  · rw [h1]
    have hl := O.maps.v.2.2.1.bv_look_no true h2
    simp only [if_true] at hl
    have HR : Hid (PDid PSx F p st w w) := ⟨psx_mono h fun k hk => .inl hk, Kp.refl _ _⟩
    clear O h hw h1 h2 c0
    go_enter Tryz.func54, Tryz.ntmps54
    go_wp2_with (at_lookup; refine wp_look _ rfl _ _ 100 true rfl _ _ _ rfl rfl hl ?_)
    go_ret
    exact ⟨rfl, HR.out⟩
  · rw [h3]
    dsimp only
    have hl := O.maps.v.2.2.1.bv_look true h1
    simp only [if_true] at hl
    have hbod := hw.bod x (List.mem_of_getElem? h2)
    have hcap := hw.cap
    have HW : Hid (x.data.size + data.size ≤ 140737488355328 → ∀ W, Below w.heap.size w W → Calls Tryz.prog 67 #[.pointer (some ⟨b, 4, none⟩), .string data] W fun e w' => e = .returned (.tuple #[.int .i64 data.size, .nilIface]) ∧ PDid PSx F p (st.put ((i + 1 : Nat) : Int) { x with data := x.data ++ data }) w w') := fun hsz W hb => by
      have hB := h5.below hb (Nat.le_refl _)
      refine (bwrite_c b x data W hB hsz).mono ?_
      rintro e w' ⟨rfl, hb', ho⟩
      have hO : Open F p st W d0 cs T K vd vs vt vk vp := by
        have hk : ∀ k, F k → k < w.heap.size → W.heap[k]? = w.heap[k]? := fun k _ hk => hb.block k hk
        refine ⟨O.raw.keep hk fun _ h => h, O.inv, (hb.block p (blk_lt O.blk)).trans O.blk, O.maps.keep (fun v hv b' hb'' => hb.block b' (O.maps.inF hv hb'').2) fun _ h => h, O.bod.keep (fun e he k hk' => hb.block k ?_) fun _ h => h, own_keep O.row fun k hk' => hb.block k ?_, O.fp⟩
        · rcases hk' with rfl | hk'
          · exact (O.bod.lt he).1
          · exact (O.bod.lt he).2 k hk'
        · obtain ⟨cur, hh⟩ := own_typed O.row hk'; exact blk_lt hh
      exact ⟨rfl, pdid_after hb (hO.put h2 h1 ho hb')⟩
    by_cases he : data = ⟨#[]⟩
    · rw [if_neg (fun h => h.1 he)]
      have HW2 : Hid (∀ W, Below w.heap.size w W → Calls Tryz.prog 67 #[.pointer (some ⟨b, 4, none⟩), .string data] W fun e w' => e = .returned (.tuple #[.int .i64 data.size, .nilIface]) ∧ PDid PSx F p (st.put ((i + 1 : Nat) : Int) { x with data := x.data ++ data }) w w') := HW.out (by rw [he]; show x.data.size + 0 ≤ _; omega)
      clear HW
      subst he
      obtain ⟨R, hR⟩ : ∃ R, R = st.put ((i + 1 : Nat) : Int) { x with data := x.data ++ ⟨#[]⟩ } := ⟨_, rfl⟩
      rw [← hR] at HW2
      rw [← hR]
      clear O h hw h1 h2 h3 h4 h5 hbod hcap hR hd
      go_enter Tryz.func54, Tryz.ntmps54
      go_wp2_with (at_lookup; refine wp_look _ rfl _ _ 100 true rfl _ _ _ rfl rfl hl ?_)
      go_quiet (fail)
      go_wp2_with (go_at_call 67; refine (HW2.out _ (below_drewN (Below.refl _ _) _)).mono ?_; rintro e w1 ⟨rfl, hr⟩)
      go_ret
      exact ⟨rfl, hr⟩
    · have hle := usedIn_le hw st.now
      have hnl := now_len hw
      have hu : st.used ≤ 64 * 1073741824 := Nat.le_trans hle (Nat.mul_le_mul_right _ hnl)
      have hne := empty_no he
      have hne2 : data.toList.isEmpty = false := by
        cases hx : data.toList with
        | nil => exact absurd hx hne
        | cons _ _ => rfl
      have HU : Hid (∀ W, (W.cell? ⟨p, 0, none⟩ = some (.int .i64 st.cap) ∧ Below w.heap.size w W) → Calls Tryz.prog 73 #[.pointer (some ⟨p, 0, none⟩)] W fun e w' => e = .returned (.int .i64 st.used) ∧ (w'.cell? ⟨p, 0, none⟩ = some (.int .i64 st.cap) ∧ Below w.heap.size w w')) := fun W hb => (used_p F p st W (psx_below h hb.2).1 hw).mono (by
        rintro e w' ⟨rfl, hb'⟩
        have hbb := hb.2.trans (hb'.mono hb.2.size)
        exact ⟨rfl, cell_below hbb c0, hbb⟩)
      have HPS : Hid (∀ W, Below w.heap.size w W → PDid PSx F p st w W) := fun W hb => ⟨psx_mono (psx_below h hb).1 fun k hk => .inl hk, (psx_below h hb).2⟩
      obtain ⟨U, hU⟩ : ∃ U, U = st.used := ⟨_, rfl⟩
      obtain ⟨C, hC⟩ : ∃ C, C = st.cap := ⟨_, rfl⟩
      rw [← hU] at HU hu
      rw [← hC] at HU c0 hcap
      have hwr : IntKind.i64.wrap ((U : Int) + (data.size : Int)) = ((U + data.size : Nat) : Int) := by rw [wrap_i64 (by omega)]; omega
      obtain ⟨V, hV⟩ : ∃ V, V = U + data.size := ⟨_, rfl⟩
      rw [← hV] at hwr
      have HB0 : Hid (Below w.heap.size w w.drew) := (Below.refl _ _).drew
      have hB0 : Below w.heap.size w w := Below.refl _ _
      by_cases hfull : st.cap < st.used + data.size
      · rw [if_pos ⟨he, hfull⟩]
        have b1 : decide (C < V) = true := decide_eq_true (by omega)
        have b2 : decide ((C : Int) < (V : Int)) = true := decide_eq_true (by omega)
        clear O h hw h1 h2 h3 h4 h5 hbod hcap hU hC hle hnl hu HW hfull he hd hV
        go_enter Tryz.func54, Tryz.ntmps54
        go_wp2_with (at_lookup; refine wp_look _ rfl _ _ 100 true rfl _ _ _ rfl rfl hl ?_)
        go_region_held3 (fun w' => w'.cell? ⟨p, 0, none⟩ = some (.int .i64 C) ∧ Below w.heap.size w w') (first | assumption | exact ⟨hSw.1, hSw.2.drew⟩ | exact ⟨c0, HB0.out⟩ | exact ⟨c0, hB0⟩) (first
          | (go_at_call 73; refine (HU.out _ (by assumption)).mono ?_; rintro e w' ⟨rfl, hS'⟩))
        go_wp2
        go_ret
        exact ⟨rfl, HPS.out _ hS'.2⟩
      · rw [if_neg (fun h => hfull h.2)]
        have b1 : decide (C < V) = false := decide_eq_false (by omega)
        have b2 : decide ((C : Int) < (V : Int)) = false := decide_eq_false (by omega)
        have HW2 := HW.out (by omega)
        have HW3 : Hid (∀ W, Below w.heap.size w W → Calls Tryz.prog 67 #[.pointer (some ⟨b, 4, none⟩), .string data] W fun e w' => e = .returned (.tuple #[.int .i64 data.size, .nilIface]) ∧ PDid PSx F p (st.put ((i + 1 : Nat) : Int) { x with data := x.data ++ data }) w w') := HW2
        obtain ⟨R, hR⟩ : ∃ R, R = st.put ((i + 1 : Nat) : Int) { x with data := x.data ++ data } := ⟨_, rfl⟩
        rw [← hR] at HW3
        rw [← hR]
        clear O h hw h1 h2 h3 h4 h5 hbod hcap hU hC hle hnl hu HW HW2 hfull he hd hV hR
        go_enter Tryz.func54, Tryz.ntmps54
        go_wp2_with (at_lookup; refine wp_look _ rfl _ _ 100 true rfl _ _ _ rfl rfl hl ?_)
        go_region_held3 (fun w' => w'.cell? ⟨p, 0, none⟩ = some (.int .i64 C) ∧ Below w.heap.size w w') (first | assumption | exact ⟨hSw.1, hSw.2.drew⟩ | exact ⟨c0, HB0.out⟩ | exact ⟨c0, hB0⟩) (first
          | (go_at_call 73; refine (HU.out _ (by assumption)).mono ?_; rintro e w' ⟨rfl, hS'⟩))
        go_wp2_with (go_at_call 67; refine (HW3.out _ hS'.2).mono ?_; rintro e w1 ⟨rfl, hr⟩)
        go_ret
        exact ⟨rfl, hr⟩
end Go.Proofs.YtjbphheojfclcaaGreat

-- A name given up; a change made: the lists behind it.
namespace Go.Proofs.YtjbphheojfclcaaGreat
open Go.RowKit
set_option linter.unusedVariables false
theorem without_comm (d : Dr) (a b : ByteArray) : without (without d a) b = without (without d b) a := by
  unfold without; rw [List.filter_filter, List.filter_filter]; congr 1; funext e; exact Bool.and_comm _ _
theorem without_nums {d : Dr} (h : Dw d) {n : ByteArray} {x : Nat} (hx : (n, x) ∈ d) : (d.map (·.2)).Perm (x :: (without d n).map (·.2)) := by
  have := (without_perm h.dn hx).map (·.2); simpa using this
theorem with_nums (d : Dr) (n : ByteArray) (x : Nat) : ((with_ d n x).map (·.2)).Perm (x :: (without d n).map (·.2)) := by
  have := (ins_perm n x (without d n)).map (·.2); simpa [with_] using this
/-- Behind 'giveUp': what the two maps hold. -/
structure Given (now : Dr) (name : ByteArray) (T K T1 K1 : List (Nat × Nat)) : Prop where
  num : (T1.map (·.1)).Perm ((without now name).map (·.2))
  fwd : ∀ e ∈ T ++ K, e ∈ T1 ++ K1
  bwd : ∀ e ∈ T1 ++ K1, e ∈ T ++ K
  apart : ∀ e ∈ K1, ∀ f ∈ T1, e.1 ≠ f.1
theorem giveUp_p (name : ByteArray) (F : Nat → Prop) (p cap made : Nat) (now d0 : Dr) (cs : List Chg) (T K : List (Nat × Nat)) (bs : List Bd) (w : World) (bd bf bt bk : Nat) (vp : Value) (h : RN F p cap made now d0 cs T K bs w bd bf bt bk vp) (hd : Dw now) (hp1 : ∀ e ∈ now, 1 ≤ e.2) (hnum : (T.map (·.1)).Perm (now.map (·.2))) (hap : ∀ e ∈ K, ∀ f ∈ T, e.1 ≠ f.1) :
    Calls Tryz.prog 71 #[.pointer (some ⟨p, 0, none⟩), .string name] w fun e w' => e = .returned (.tuple #[]) ∧ (∃ T1 K1, RN F p cap made now d0 cs T1 K1 bs w' bd bf bt bk vp ∧ Given now name T K T1 K1) ∧ Kp F w w' := by
  by_cases h0 : leads now name = 0
  · refine (giveUp_no name F p cap made now d0 cs T K bs w bd bf bt bk vp h hp1 h0).mono ?_
    rintro e w' ⟨rfl, rfl⟩
    refine ⟨rfl, ⟨T, K, h, ?_, fun _ h => h, fun _ h => h, hap⟩, Kp.refl _ _⟩
    rw [without_of_not now name (leads_zero hp1 h0)]; exact hnum
  · have hm := leads_mem now name h0
    obtain ⟨n, hn⟩ : ∃ n, n = leads now name := ⟨_, rfl⟩
    rw [← hn] at hm h0
    have hnT : n ∈ T.map (·.1) := hnum.mem_iff.2 (List.mem_map.2 ⟨_, hm, rfl⟩)
    obtain ⟨f, hf, hfn⟩ := List.mem_map.1 hnT
    obtain ⟨x, hx⟩ : ∃ x, (n, x) ∈ T := ⟨f.2, by rw [← hfn]; exact hf⟩
    obtain ⟨T0, hT0⟩ := perm_of_mem hx
    have hKn : ∀ e ∈ K, e.1 ≠ n := fun e he hen => hap e he (n, x) hx hen
    have hTu : (T.map (·.1)).Nodup := bv_uniq h.m3.apart
    refine (giveUp_c name n x T0 F p cap made now d0 cs T K bs w bd bf bt bk vp h hp1 hn.symm h0 hT0 hKn).mono ?_
    rintro e w' ⟨rfl, hR, hK⟩
    refine ⟨rfl, ⟨T0, (n, x) :: K, hR, ?_, fun e he => ?_, fun e he => ?_, fun e he f hf => ?_⟩, hK⟩
    · have h1 := (hT0.map (·.1)).symm.trans (hnum.trans (without_nums hd hm))
      rw [List.map_cons] at h1
      exact (List.perm_cons _).1 h1
    · rcases List.mem_append.1 he with he | he
      · rcases List.mem_cons.1 (hT0.mem_iff.1 he) with rfl | he
        · exact List.mem_append_right _ (by simp)
        · exact List.mem_append_left _ he
      · exact List.mem_append_right _ (List.mem_cons_of_mem _ he)
    · rcases List.mem_append.1 he with he | he
      · exact List.mem_append_left _ (hT0.mem_iff.2 (List.mem_cons_of_mem _ he))
      · rcases List.mem_cons.1 he with rfl | he
        · exact List.mem_append_left _ hx
        · exact List.mem_append_right _ he
    · have hn2 : (n :: T0.map (·.1)).Nodup := by
        have := (hT0.map (·.1)).nodup_iff.1 hTu
        simpa using this
      rcases List.mem_cons.1 he with rfl | he
      · exact fun e1 => (List.nodup_cons.1 hn2).1 (List.mem_map.2 ⟨f, hf, e1.symm⟩)
      · exact hap e he f (hT0.mem_iff.2 (List.mem_cons_of_mem _ hf))
/-- The lists behind a change. -/
theorem inv_next {st st' : St} {d0 : Dr} {cs : List Chg} {T K T1 K1 : List (Nat × Nat)} (h : Inv st d0 cs T K) (c : Chg) (hdirs : st'.dirs = st.dirs ++ [c.app st.now]) (hdw : DW st') (hnum : (T1.map (·.1)).Perm ((c.app st.now).map (·.2))) (hfwd : ∀ e ∈ T ++ K, e.1 ∈ T1.map (·.1) ∨ e.1 ∈ K1.map (·.1)) (hap : ∀ e ∈ K1, ∀ f ∈ T1, e.1 ≠ f.1) : Inv st' d0 (cs ++ [c]) T1 K1 where
  dirs := by rw [hdirs, h.dirs, chain_snoc, h.now_eq]
  dw := hdw
  num := by
    have : st'.now = c.app st.now := by
      show st'.dirs.getLast?.getD [] = _
      rw [hdirs, List.getLast?_append]; rfl
    rw [this]; exact hnum
  all := fun d hd e he => by
    rw [hdirs] at hd
    rcases List.mem_append.1 hd with hd | hd
    · rcases h.all d hd e he with h1 | h1
      · obtain ⟨f, hf, hfe⟩ := List.mem_map.1 h1
        rw [← hfe]; exact hfwd f (List.mem_append_left _ hf)
      · obtain ⟨f, hf, hfe⟩ := List.mem_map.1 h1
        rw [← hfe]; exact hfwd f (List.mem_append_right _ hf)
    · simp at hd
      subst hd
      exact .inl (hnum.mem_iff.2 (List.mem_map.2 ⟨e, he, rfl⟩))
  apart := hap
theorem Given.keys {now : Dr} {name : ByteArray} {T K T1 K1 : List (Nat × Nat)} (h : Given now name T K T1 K1) : ∀ e ∈ T ++ K, e.1 ∈ T1.map (·.1) ∨ e.1 ∈ K1.map (·.1) := fun e he => by
  rcases List.mem_append.1 (h.fwd e he) with h1 | h1
  · exact .inl (List.mem_map.2 ⟨e, h1, rfl⟩)
  · exact .inr (List.mem_map.2 ⟨e, h1, rfl⟩)
theorem app_remove (d : Dr) (n : ByteArray) : (⟨n, ⟨#[]⟩, 0⟩ : Chg).app d = without d n := by unfold Chg.app; simp
theorem app_rename (d : Dr) (a b : ByteArray) (k : Nat) (h : b ≠ ⟨#[]⟩) : (⟨a, b, k⟩ : Chg).app d = with_ (without d a) b k := by unfold Chg.app; simp [h]
theorem ok_ne {n : ByteArray} (h : okName n = true) : n ≠ ⟨#[]⟩ := fun e => by subst e; revert h; decide
theorem app_create {d : Dr} (hd : Dw d) (n : ByteArray) (k : Nat) (h : n ≠ ⟨#[]⟩) : (⟨⟨#[]⟩, n, k⟩ : Chg).app d = with_ d n k := by
  unfold Chg.app; simp only [h, if_false]
  rw [without_of_not d ⟨#[]⟩ fun e he => ok_ne (hd.name e he)]
end Go.Proofs.YtjbphheojfclcaaGreat

-- Remove, Rename, SyncDir.
namespace Go.Proofs.YtjbphheojfclcaaGreat
open Go.RowKit
set_option linter.unusedVariables false
theorem Open.below {F : Nat → Prop} {p : Nat} {st : St} {w W : World} {d0 : Dr} {cs : List Chg} {T K : List (Nat × Nat)} {vd vs vt vk vp : Value} (O : Open F p st w d0 cs T K vd vs vt vk vp) (hb : Below w.heap.size w W) : Open F p st W d0 cs T K vd vs vt vk vp := by
  refine ⟨O.raw.keep (fun k _ hk => hb.block k hk) fun _ h => h, O.inv, (hb.block p (blk_lt O.blk)).trans O.blk, O.maps.keep (fun v hv b' hb'' => hb.block b' (O.maps.inF hv hb'').2) fun _ h => h, O.bod.keep (fun e he k hk' => hb.block k ?_) fun _ h => h, own_keep O.row fun k hk' => hb.block k ?_, O.fp⟩
  · rcases hk' with rfl | hk'
    · exact (O.bod.lt he).1
    · exact (O.bod.lt he).2 k hk'
  · obtain ⟨cur, hh⟩ := own_typed O.row hk'; exact blk_lt hh
/-- A volume with a name has its maps. -/
theorem Open.rn {F : Nat → Prop} {p : Nat} {st : St} {w : World} {d0 : Dr} {cs : List Chg} {T K : List (Nat × Nat)} {vd vs vt vk vp : Value} (O : Open F p st w d0 cs T K vd vs vt vk vp) (hne : st.now ≠ []) : ∃ bd bf bt bk vp, RN F p st.cap st.bodies.length st.now d0 cs T K st.bodies w bd bf bt bk vp ∧ vd = .map (some bd) := by
  obtain ⟨vd', vs', vt', vk', vp', hp, hF, hm, ho, hoF, hb, hn⟩ := O.raw
  have := hp.symm.trans O.blk
  simp only [Option.some.injEq, Obj.cells.injEq, diskV] at this
  obtain ⟨h1, _, _⟩ := this
  have e2 : vd' = vd := by
    have h3 : some vd' = some vd := congrArg (fun a : Array Value => a[2]?) h1
    exact Option.some.inj h3
  rcases hm with ⟨_, _, _, h, _⟩ | ⟨bd, bf, bt, bk, rfl, rfl, rfl, rfl, f1, f2, f3, f4, n1, n2, n3, n4, n5, n6, m1, m2, m3, m4⟩
  · exact absurd h hne
  · exact ⟨bd, bf, bt, bk, vp', ⟨hp, hF, f1, f2, f3, f4, n1, n2, n3, n4, n5, n6, m1, m2, m3, m4, ho, hoF, hb⟩, e2.symm⟩
/-- From a volume laid open by its maps to what a call has done. -/
theorem pdid_mk {F : Nat → Prop} {p : Nat} {st' : St} {w w1 w2 : World} {d0 : Dr} {cs : List Chg} {T K : List (Nat × Nat)} (hr : Raw (ext F w1 w2) p st'.cap st'.bodies.length st'.now d0 cs T K st'.bodies w2) (hi : Inv st' d0 cs T K) (h1 : Kp F w w1) (h2 : Kp F w1 w2) : PDid PSx F p st' w w2 := by
  refine ⟨⟨d0, cs, T, K, hr.keep (fun _ _ _ => rfl) fun k hk => ?_, hi⟩, h1.trans h2⟩
  have := h1.size
  rcases hk with hk | hk
  · exact .inl hk
  · exact .inr ⟨by omega, by omega⟩
theorem pdid_refl {F : Nat → Prop} {p : Nat} {st : St} {w w' : World} (h : PSx F p st w) (hb : Below w.heap.size w w') : PDid PSx F p st w w' := ⟨psx_mono (psx_below h hb).1 fun k hk => .inl hk, (psx_below h hb).2⟩
theorem Kp.ofBelow2 {F : Nat → Prop} {w w' : World} (h : Below w.heap.size w w') : Kp F w w' := Kp.of_below h
theorem leads_ne_nil {d : Dr} {n : ByteArray} (h : leads d n ≠ 0) : d ≠ [] := fun e => by subst e; exact h rfl
set_option maxHeartbeats 8000000 in
theorem remove_p (F : Nat → Prop) (p : Nat) (st : St) (name : ByteArray) (w : World) (h : PSx F p st w) (hw : Wf st) :
    Calls Tryz.prog 52 #[.pointer (some ⟨p, 0, none⟩), .string name] w fun e w' => e = .returned (.int .i64 (st.remove name).1) ∧ PDid PSx F p (st.remove name).2 w w' := by
  obtain ⟨d0, cs, T, K, vd, vs, vt, vk, vp, O⟩ := psx_open h
  have HN : Hid (Calls Tryz.prog 68 #[.string name] w fun e w' => e = .returned (.bool (okName name)) ∧ Below w.heap.size w w') := isName_c name w
  rcases hok : okName name with _ | _
  · have HC : Hid (st.remove name = (32, st)) := by show _ = _; unfold St.remove; rw [if_pos hok]
    rw [hok] at HN
    have HP : Hid (PSx F p st w) := h
    clear h hw hok O
    rw [HC.out]
    go_enter Tryz.func52, Tryz.ntmps52
    go_wp2_with (go_at_call 68; refine HN.out.mono ?_; rintro e w1 ⟨rfl, hb1⟩)
    go_ret
    exact ⟨rfl, pdid_refl HP.out hb1⟩
  · rw [hok] at HN
    have HL : Hid (∀ W, Below w.heap.size w W → W.cell? ⟨p, 2, none⟩ = some vd ∧ (Instr.lookup 99 vd (.string name) true).run Tryz.prog W = .ok (.tuple #[.int .i64 (leads st.now name), .bool (decide (leads st.now name ≠ 0))]) W) := fun W hb => by
      refine ⟨cell_below hb (disk_cells O.blk).2.2.1, ?_⟩
      have := (O.maps.v.1.keep hb).sv_look true (Inv.pos hw) name
      simpa using this
    by_cases hz : leads st.now name = 0
    · have HC : Hid (st.remove name = (30, st)) := by
        show _ = _
        unfold St.remove
        rw [if_neg (by rw [hok]; decide), if_pos hz]
      rw [hz, show decide ((0 : Nat) ≠ 0) = false by decide] at HL
      have HP : Hid (PSx F p st w) := h
      clear h hw hok O hz
      rw [HC.out]
      go_enter Tryz.func52, Tryz.ntmps52
      go_wp2_with (first
        | (go_at_call 68; refine HN.out.mono ?_; rintro e w1 ⟨rfl, hb1⟩; obtain ⟨x2, hl⟩ := HL.out _ hb1; have HB1 : Hid (Below w.heap.size w w1) := hb1; clear hb1)
        | (at_lookup; refine wp_look _ rfl _ _ 99 true rfl _ _ _ rfl rfl hl ?_))
      go_ret
      exact ⟨rfl, pdid_refl HP.out HB1.out⟩
    · have HC : Hid (st.remove name = (0, { st with dirs := st.dirs ++ [without st.now name] })) := by
        show _ = _
        unfold St.remove
        rw [if_neg (by rw [hok]; decide), if_neg hz]
      have hdw := O.inv.dw.now hw
      have HG : Hid (∀ W, Below w.heap.size w W → Calls Tryz.prog 71 #[.pointer (some ⟨p, 0, none⟩), .string name] W fun e w2 => e = .returned (.tuple #[]) ∧ Kp F w w2 ∧ Calls Tryz.prog 72 #[.pointer (some ⟨p, 0, none⟩), .agg #[.string name, .string ⟨#[]⟩, .int .i64 0]] w2 fun e w3 => e = .returned (.tuple #[]) ∧ PDid PSx F p (st.remove name).2 w w3) := fun W hb => by
        obtain ⟨bd, bf, bt, bk, vp', R, _⟩ := (O.below hb).rn (leads_ne_nil hz)
        refine (giveUp_p name F p _ _ st.now d0 cs T K st.bodies W bd bf bt bk vp' R hdw (Inv.pos hw) O.inv.num O.inv.apart).mono ?_
        rintro e w2 ⟨rfl, ⟨T1, K1, R1, G⟩, hk2⟩
        have hk : Kp F w w2 := (Kp.of_below (F := F) hb).trans hk2
        refine ⟨rfl, hk, ?_⟩
        have hlen : cs.length ≤ 2097152 := by have := hw.long; have := O.inv.cs_len; omega
        refine (note_c ⟨name, ⟨#[]⟩, 0⟩ F p _ _ st.now d0 cs T1 K1 st.bodies w2 bd bf bt bk vp' R1 hlen).mono ?_
        rintro e w3 ⟨rfl, r3, k3⟩
        refine ⟨rfl, ?_⟩
        rw [HC.out]
        have hI : Inv { st with dirs := st.dirs ++ [without st.now name] } d0 (cs ++ [⟨name, ⟨#[]⟩, 0⟩]) T1 K1 := inv_next O.inv ⟨name, ⟨#[]⟩, 0⟩ (by rw [app_remove]) (O.inv.dw.add (dw_without hdw name)) (by rw [app_remove]; exact G.num) G.keys G.apart
        refine pdid_mk ?_ hI hk k3
        rw [app_remove] at r3
        have hnow : ({ st with dirs := st.dirs ++ [without st.now name] } : St).now = without st.now name := now_append st _
        rw [hnow]; exact r3
      obtain ⟨k, hk⟩ : ∃ k, leads st.now name = k + 1 := ⟨leads st.now name - 1, by omega⟩
      rw [hk, show decide ((k + 1 : Nat) ≠ 0) = true by simp] at HL
      have HC1 : Hid ((st.remove name).1 = 0) := by show _ = _; rw [HC.out]
      obtain ⟨R, hR⟩ : ∃ R, R = (st.remove name).2 := ⟨_, rfl⟩
      rw [← hR] at HG
      rw [HC1.out, ← hR]
      clear h hw hok O hz hk hR hdw HC
      go_enter Tryz.func52, Tryz.ntmps52
      go_wp2_with (first
        | (go_at_call 68; refine HN.out.mono ?_; rintro e w1 ⟨rfl, hb1⟩; obtain ⟨x2, hl⟩ := HL.out _ hb1; have HB1 : Hid (Below w.heap.size w w1) := hb1; clear hb1)
        | (at_lookup; refine wp_look _ rfl _ _ 99 true rfl _ _ _ rfl rfl hl ?_)
        | (go_at_call 71; refine (HG.out _ HB1.out).mono ?_; rintro e w2 ⟨rfl, hk2, hnt⟩; have HNT : Hid (Calls Tryz.prog 72 #[.pointer (some ⟨p, 0, none⟩), .agg #[.string name, .string ⟨#[]⟩, .int .i64 0]] w2 fun e w3 => e = .returned (.tuple #[]) ∧ PDid PSx F p R w w3) := hnt; clear hnt hk2)
        | (go_at_call 72; refine HNT.out.mono ?_; rintro e w3 ⟨rfl, hr⟩))
      go_ret
      exact ⟨rfl, hr⟩
set_option maxHeartbeats 8000000 in
theorem rename_p (F : Nat → Prop) (p : Nat) (st : St) (old to : ByteArray) (w : World) (h : PSx F p st w) (hw : Wf st) :
    Calls Tryz.prog 51 #[.pointer (some ⟨p, 0, none⟩), .string old, .string to] w fun e w' => e = .returned (.int .i64 (st.rename old to).1) ∧ PDid PSx F p (st.rename old to).2 w w' := by
  obtain ⟨d0, cs, T, K, vd, vs, vt, vk, vp, O⟩ := psx_open h
  have HN : Hid (∀ n W, Below w.heap.size w W → Calls Tryz.prog 68 #[.string n] W fun e w' => e = .returned (.bool (okName n)) ∧ Below w.heap.size w w') := fun n W hb => (isName_c n W).mono fun e w' h => ⟨h.1, hb.trans (h.2.mono hb.size)⟩
  have hb0 : Hid (Below w.heap.size w w) := Below.refl _ _
  have HP : Hid (PSx F p st w) := h
  rcases hok : okName old with _ | _
  · have HC : Hid (st.rename old to = (32, st)) := by show _ = _; unfold St.rename; rw [if_pos (.inl hok)]
    have HN1 : Hid (Calls Tryz.prog 68 #[.string old] w fun e w' => e = .returned (.bool false) ∧ Below w.heap.size w w') := by have := HN.out old w hb0.out; rw [hok] at this; exact this
    clear h hw hok O HN
    rw [HC.out]
    go_enter Tryz.func51, Tryz.ntmps51
    go_wp2_with (go_at_call 68; refine HN1.out.mono ?_; rintro e w1 ⟨rfl, hb1⟩)
    go_ret
    exact ⟨rfl, pdid_refl HP.out hb1⟩
  have HN1 : Hid (Calls Tryz.prog 68 #[.string old] w fun e w' => e = .returned (.bool true) ∧ Below w.heap.size w w') := by have := HN.out old w hb0.out; rw [hok] at this; exact this
  rcases hok2 : okName to with _ | _
  · have HC : Hid (st.rename old to = (32, st)) := by show _ = _; unfold St.rename; rw [if_pos (.inr hok2)]
    have HN2 : Hid (∀ W, Below w.heap.size w W → Calls Tryz.prog 68 #[.string to] W fun e w' => e = .returned (.bool false) ∧ Below w.heap.size w w') := fun W hb => by have := HN.out to W hb; rw [hok2] at this; exact this
    have hne : old ≠ to := fun e => by rw [e, hok2] at hok; cases hok
    clear h hw hok hok2 O HN
    rw [HC.out]
    go_enter Tryz.func51, Tryz.ntmps51
    go_wp2_with (first
      | (go_at_call_of 68 (Value.string old); refine HN1.out.mono ?_; rintro e w1 ⟨rfl, hb1⟩; have HB1 : Hid (Below w.heap.size w w1) := hb1; clear hb1)
      | (go_at_call_of 68 (Value.string to); refine (HN2.out _ HB1.out).mono ?_; rintro e w2 ⟨rfl, hb2⟩))
    go_ret
    exact ⟨rfl, pdid_refl HP.out hb2⟩
  have HN2 : Hid (∀ W, Below w.heap.size w W → Calls Tryz.prog 68 #[.string to] W fun e w' => e = .returned (.bool true) ∧ Below w.heap.size w w') := fun W hb => by have := HN.out to W hb; rw [hok2] at this; exact this
  have HL : Hid (∀ W, Below w.heap.size w W → W.cell? ⟨p, 2, none⟩ = some vd ∧ (Instr.lookup 99 vd (.string old) true).run Tryz.prog W = .ok (.tuple #[.int .i64 (leads st.now old), .bool (decide (leads st.now old ≠ 0))]) W) := fun W hb => by
    refine ⟨cell_below hb (disk_cells O.blk).2.2.1, ?_⟩
    have := (O.maps.v.1.keep hb).sv_look true (Inv.pos hw) old
    simpa using this
  have hnn : ¬ (okName old = false ∨ okName to = false) := by rw [hok, hok2]; simp
  have HNT : Hid (∀ n W, (n = old ∨ n = to) → Below w.heap.size w W → Calls Tryz.prog 68 #[.string n] W fun e w' => e = .returned (.bool true) ∧ Below w.heap.size w w') := fun n W hn hb => by
    have := HN.out n W hb
    rcases hn with rfl | rfl
    · rw [hok] at this; exact this
    · rw [hok2] at this; exact this
  by_cases hz : leads st.now old = 0
  · have HC : Hid (st.rename old to = (30, st)) := by
      show _ = _
      unfold St.rename
      rw [if_neg hnn, if_pos hz]
    rw [hz, show decide ((0 : Nat) ≠ 0) = false by decide] at HL
    clear h hw hok hok2 O hz hnn HN
    rw [HC.out]
    go_enter Tryz.func51, Tryz.ntmps51
    go_wp2_with (first
      | (go_at_call 68; refine (HNT.out _ _ (by simp) (by first | with_reducible exact HB2.out | with_reducible exact hb0.out)).mono ?_; rintro e w2 ⟨rfl, hb2⟩; obtain ⟨x2, hl⟩ := HL.out _ hb2; have HB2 : Hid (Below w.heap.size w w2) := hb2; clear hb2)
      | (at_lookup; refine wp_look _ rfl _ _ 99 true rfl _ _ _ rfl rfl hl ?_))
    go_ret
    exact ⟨rfl, pdid_refl HP.out HB2.out⟩
  obtain ⟨k, hk⟩ : ∃ k, leads st.now old = k + 1 := ⟨leads st.now old - 1, by omega⟩
  by_cases heq : old = to
  · have HC : Hid (st.rename old to = (0, st)) := by
      show _ = _
      unfold St.rename
      rw [if_neg hnn, if_neg hz, if_pos heq]
    rw [hk, show decide ((k + 1 : Nat) ≠ 0) = true by simp] at HL
    clear h hw hok hok2 O hz hnn HN hk
    rw [HC.out]
    subst heq
    go_enter Tryz.func51, Tryz.ntmps51
    go_wp2_with (first
      | (go_at_call 68; refine (HNT.out _ _ (by simp) (by first | with_reducible exact HB2.out | with_reducible exact hb0.out)).mono ?_; rintro e w2 ⟨rfl, hb2⟩; obtain ⟨x2, hl⟩ := HL.out _ hb2; have HB2 : Hid (Below w.heap.size w w2) := hb2; clear hb2)
      | (at_lookup; refine wp_look _ rfl _ _ 99 true rfl _ _ _ rfl rfl hl ?_))
    go_ret
    exact ⟨rfl, pdid_refl HP.out HB2.out⟩
  have HC : Hid (st.rename old to = (0, { st with dirs := st.dirs ++ [with_ (without st.now old) to (leads st.now old)] })) := by
    show _ = _
    unfold St.rename
    rw [if_neg hnn, if_neg hz, if_neg heq]
  have hdw := O.inv.dw.now hw
  have hto := ok_ne hok2
  have HG : Hid (∀ W, Below w.heap.size w W → Calls Tryz.prog 71 #[.pointer (some ⟨p, 0, none⟩), .string to] W fun e w2 => e = .returned (.tuple #[]) ∧ Calls Tryz.prog 72 #[.pointer (some ⟨p, 0, none⟩), .agg #[.string old, .string to, .int .i64 (leads st.now old)]] w2 fun e w3 => e = .returned (.tuple #[]) ∧ PDid PSx F p (st.rename old to).2 w w3) := fun W hb => by
    obtain ⟨bd, bf, bt, bk, vp', R, _⟩ := (O.below hb).rn (leads_ne_nil hz)
    refine (giveUp_p to F p _ _ st.now d0 cs T K st.bodies W bd bf bt bk vp' R hdw (Inv.pos hw) O.inv.num O.inv.apart).mono ?_
    rintro e w2 ⟨rfl, ⟨T1, K1, R1, G⟩, hk2⟩
    have hkk : Kp F w w2 := (Kp.of_below (F := F) hb).trans hk2
    refine ⟨rfl, ?_⟩
    have hlen : cs.length ≤ 2097152 := by have := hw.long; have := O.inv.cs_len; omega
    refine (note_c ⟨old, to, leads st.now old⟩ F p _ _ st.now d0 cs T1 K1 st.bodies w2 bd bf bt bk vp' R1 hlen).mono ?_
    rintro e w3 ⟨rfl, r3, k3⟩
    refine ⟨rfl, ?_⟩
    rw [HC.out]
    have hmem := leads_mem st.now old hz
    have hm2 : (old, leads st.now old) ∈ without st.now to := List.mem_filter.2 ⟨hmem, by simpa using heq⟩
    have hnum : (T1.map (·.1)).Perm ((with_ (without st.now old) to (leads st.now old)).map (·.2)) := by
      refine G.num.trans ((without_nums (dw_without hdw to) hm2).trans ?_)
      rw [without_comm]
      exact (with_nums _ _ _).symm
    have hI : Inv { st with dirs := st.dirs ++ [with_ (without st.now old) to (leads st.now old)] } d0 (cs ++ [⟨old, to, leads st.now old⟩]) T1 K1 := by
      refine inv_next O.inv ⟨old, to, leads st.now old⟩ (by rw [app_rename _ _ _ _ hto]) ?_ (by rw [app_rename _ _ _ _ hto]; exact hnum) G.keys G.apart
      have hs := step_DW O.inv.dw hw (o := ⟨5, 0, 0, old, to, 0, 0, 0, 0, .slice none 0 0, []⟩)
      have e : st.step ⟨5, 0, 0, old, to, 0, 0, 0, 0, .slice none 0 0, []⟩ = (st.rename old to).2 := by unfold St.step; simp
      rw [e, HC.out] at hs
      exact hs
    refine pdid_mk ?_ hI hkk k3
    rw [app_rename _ _ _ _ hto] at r3
    have hnow : ({ st with dirs := st.dirs ++ [with_ (without st.now old) to (leads st.now old)] } : St).now = with_ (without st.now old) to (leads st.now old) := now_append st _
    rw [hnow]; exact r3
  rw [hk, show decide ((k + 1 : Nat) ≠ 0) = true by simp] at HL
  rw [hk] at HG
  have HC1 : Hid ((st.rename old to).1 = 0) := by show _ = _; rw [HC.out]
  obtain ⟨R, hR⟩ : ∃ R, R = (st.rename old to).2 := ⟨_, rfl⟩
  rw [← hR] at HG
  rw [HC1.out, ← hR]
  have b0 : (old.toList == to.toList) = false := by rw [beq_toList]; simpa using heq
  clear h hw hok hok2 O hz hk hR hdw HC HN hnn hto heq
  go_enter Tryz.func51, Tryz.ntmps51
  go_wp2_with (first
    | (go_at_call_of 68 (Value.string old); refine HN1.out.mono ?_; rintro e w1 ⟨rfl, hb1⟩; have HB1 : Hid (Below w.heap.size w w1) := hb1; clear hb1)
    | (go_at_call_of 68 (Value.string to); refine (HN2.out _ HB1.out).mono ?_; rintro e w2 ⟨rfl, hb2⟩; obtain ⟨x2, hl⟩ := HL.out _ hb2; have HB2 : Hid (Below w.heap.size w w2) := hb2; clear hb2)
    | (at_lookup; refine wp_look _ rfl _ _ 99 true rfl _ _ _ rfl rfl hl ?_)
    | (go_at_call 71; refine (HG.out _ HB2.out).mono ?_; rintro e w3 ⟨rfl, hnt⟩; have HNT : Hid (Calls Tryz.prog 72 #[.pointer (some ⟨p, 0, none⟩), .agg #[.string old, .string to, .int .i64 ((k + 1 : Nat) : Int)]] w3 fun e w3 => e = .returned (.tuple #[]) ∧ PDid PSx F p R w w3) := hnt; clear hnt)
    | (go_at_call 72; refine HNT.out.mono ?_; rintro e w4 ⟨rfl, hr⟩))
  go_ret
  exact ⟨rfl, hr⟩
theorem Raw.cleared {F : Nat → Prop} {p cap made : Nat} {now d0 : Dr} {cs : List Chg} {T K : List (Nat × Nat)} {bs : List Bd} {w : World} (h : Raw F p cap made now d0 cs T K bs w) :
    ∃ vk, w.cell? ⟨p, 5, none⟩ = some vk ∧ ∃ w', (∀ ty, (Builtin.clear_ #[100] ty #[vk]).run Tryz.prog w = .ok (.tuple #[]) w') ∧ Raw F p cap made now d0 cs T [] bs w' ∧ Kp F w w' := by
  obtain ⟨vd, vs, vt, vk, vp, hp, hF, hm, ho, hoF, hb, hn⟩ := h
  refine ⟨vk, (disk_cells hp).2.2.2.2.2.1, ?_⟩
  rcases hm with ⟨rfl, rfl, rfl, rfl, rfl, rfl, rfl, h8⟩ | ⟨bd, bf, bt, bk, rfl, rfl, rfl, rfl, f1, f2, f3, f4, n1, n2, n3, n4, n5, n6, m1, m2, m3, m4⟩
  · exact ⟨w, fun ty => clear_nil Tryz.underlying100 ty, ⟨_, _, _, _, vp, hp, hF, .inl ⟨rfl, rfl, rfl, rfl, rfl, rfl, rfl, h8⟩, ho, hoF, hb, hn⟩, Kp.refl _ _⟩
  · have R : RN F p cap made now d0 cs T K bs w bd bf bt bk vp := ⟨hp, hF, f1, f2, f3, f4, n1, n2, n3, n4, n5, n6, m1, m2, m3, m4, ho, hoF, hb⟩
    obtain ⟨w', hr, hm', ht⟩ := m4.clear (P := Tryz.prog) Tryz.underlying100 0
    have R' : RN F p cap made now d0 cs T [] bs w' bd bf bt bk vp := R.turn m4 (fun k _ hk => ht.other hk) (m1.keep (ht.other n3)) (m2.keep (ht.other n5)) (m3.keep (ht.other n6)) hm' (fun e he => by simp at he; exact List.mem_append_left _ he)
    exact ⟨w', fun ty => hr, R'.raw, ht.kp f4⟩
set_option maxHeartbeats 8000000 in
theorem syncDir_p (F : Nat → Prop) (p : Nat) (st : St) (w : World) (h : PSx F p st w) (hw : Wf st) :
    Calls Tryz.prog 53 #[.pointer (some ⟨p, 0, none⟩)] w fun e w' => e = .returned (.tuple #[]) ∧ PDid PSx F p st.syncDir w w' := by
  obtain ⟨d0, cs, T, K, vd, vs, vt, vk, vp, O⟩ := psx_open h
  have hlen : cs.length ≤ 2097152 := by have := hw.long; have := O.inv.cs_len; omega
  obtain ⟨ao, cp, c6, hcl, hcm, f6⟩ := O.raw.p6
  have HS : Hid (Calls Tryz.prog 43 #[.pointer (some ⟨p, 0, none⟩), .int .i64 cs.length] w fun e w1 => e = .returned (.tuple #[]) ∧ ∃ vk, w1.cell? ⟨p, 5, none⟩ = some vk ∧ ∃ w', (∀ ty, (Builtin.clear_ #[100] ty #[vk]).run Tryz.prog w1 = .ok (.tuple #[]) w') ∧ Hid (PDid PSx F p st.syncDir w w')) := (settle_c cs.length F p _ _ st.now d0 cs T K st.bodies w O.raw (Nat.le_refl _) hlen).mono (by
    rintro e w1 ⟨rfl, r1, k1⟩
    obtain ⟨vk', c5, w', hr, r2, k2⟩ := r1.cleared
    refine ⟨rfl, vk', c5, w', hr, ?_⟩
    rw [List.take_length, ← O.inv.now_eq] at r2
    have hI : Inv st.syncDir st.now [] T [] := ⟨rfl, fun d hd => by simp [St.syncDir] at hd; subst hd; exact O.inv.dw.now hw, O.inv.num, fun d hd e he => by
      simp [St.syncDir] at hd
      subst hd
      exact .inl (O.inv.num.mem_iff.2 (List.mem_map.2 ⟨e, he, rfl⟩)), by simp⟩
    have hs2 := k2.size
    refine ⟨⟨st.now, [], T, [], r2.keep (fun _ _ _ => rfl) fun k hk => ?_, hI⟩, k1.then k2⟩
    rcases hk with hk | hk
    · exact .inl hk
    · exact .inr ⟨hk.1, by omega⟩)
  obtain ⟨n, hn⟩ : ∃ n, n = cs.length := ⟨_, rfl⟩
  rw [← hn] at c6 HS
  clear h hw O hlen hcl hcm f6 hn
  go_enter Tryz.func53, Tryz.ntmps53
  go_wp2_with (first
    | (go_at_call 43; refine HS.out.mono ?_; rintro e w1 ⟨rfl, vk', c5, w2, hr2, HR⟩)
    | (at_builtin; refine wp_clear _ rfl _ 100 rfl _ rfl w2 (hr2 _) ?_))
  go_end0
  exact ⟨rfl, HR.out⟩
end Go.Proofs.YtjbphheojfclcaaGreat

-- Create.
namespace Go.Proofs.YtjbphheojfclcaaGreat
open Go.RowKit
set_option linter.unusedVariables false
theorem RN.madeUp {F : Nat → Prop} {p cap made : Nat} {now d0 : Dr} {cs : List Chg} {T K : List (Nat × Nat)} {bs : List Bd} {w : World} {bd bf bt bk : Nat} {vp : Value} (h : RN F p cap made now d0 cs T K bs w bd bf bt bk vp) (m : Nat) :
    RN F p cap m now d0 cs T K bs (w.setCell ⟨p, 1, none⟩ (.int .i64 m)) bd bf bt bk vp ∧ Kp F w (w.setCell ⟨p, 1, none⟩ (.int .i64 m)) := by
  have other : ∀ k, k ≠ p → (w.setCell ⟨p, 1, none⟩ (.int .i64 m)).heap[k]? = w.heap[k]? := fun k hk => Below.heap_setCell _ _ _ _ hk
  refine ⟨⟨blk_set h.blk _, h.fp, h.f1, h.f2, h.f3, h.f4, h.n1, h.n2, h.n3, h.n4, h.n5, h.n6, h.m1.keep (other _ (h.apart h.m1).1.symm), h.m2.keep (other _ (h.apart h.m2).1.symm), h.m3.keep (other _ (h.apart h.m3).1.symm), h.m4.keep (other _ (h.apart h.m4).1.symm), own_keep h.row fun k hk => other k ?_, h.rowF, h.bod.keep (fun e he k hk => other k ?_) fun _ h => h⟩, rfl, rfl, rfl, by simp [World.setCell], fun k _ hk => other k (fun e => hk (e ▸ h.fp))⟩
  · obtain ⟨cur, hh⟩ := own_typed h.row hk
    exact fun e => typed_ne hh h.blk (by decide) e
  · obtain ⟨i, x, _, _, hx⟩ := h.bod.at_ e he
    rcases hk with rfl | hk
    · obtain ⟨cur, hh⟩ := hx.blk; exact fun e => typed_ne hh h.blk (by decide) e
    · obtain ⟨cur, fz, hh⟩ := hx.buf hk; exact fun e => typed_ne hh h.blk (by decide) e
theorem wp_len_w {P : Program} (w : World) {ops : Array Oper} {rest : List Oper} {o : Oper} {a : Act} {Q : Exit → Act → World → Prop} (hwd : Region.wanted o (yielded ops a.tmps) = true) (m : Operand) (t : TypeId) (hop : o.op = Op.call { callee := Callee.builtin Builtin.len, args := #[m], argTypes := #[t] }) (mv : Value) (n : Int) (hm : a.eval m = mv) (hrun : (Builtin.len_ #[t] o.type #[mv]).run P w = .ok (.int .i64 n) w)
    (hK : wpList P ops Q rest (a.put o.dst (.int .i64 n)) w) : wpList P ops Q (o :: rest) a w := by
  refine wpList_step fun K' hK' => ?_
  rw [if_pos hwd]
  unfold Oper.wp
  simp [execOp, hop, resolve, invoke, builtin, hm, hrun, Result.andThen]
  exact hK' _ _ hK
def newX (m0 m1 m2 m3 : Int) : Bd := ⟨m0, m1, m2, m3, ⟨#[]⟩, 0⟩
/-- A new body, in the map. -/
theorem RN.newBody {F : Nat → Prop} {p cap made : Nat} {now d0 : Dr} {cs : List Chg} {T K : List (Nat × Nat)} {bs : List Bd} {w : World} {bd bf bt bk : Nat} {vp : Value} (h : RN F p cap made now d0 cs T K bs w bd bf bt bk vp) (m0 m1 m2 m3 : Int) (hT : ∀ e ∈ T, e.1 ≤ bs.length) :
    ∃ w2, (Instr.mapUpdate 100 (.map (some bt)) (.int .i64 ((bs.length + 1 : Nat) : Int)) (.pointer (some ⟨w.heap.size, 0, none⟩))).run Tryz.prog (w.alloc (.cells #[.int .i64 m0, .int .i64 m1, .int .i64 m2, .int .i64 m3, .pointer none, .slice none 0 0, .int .i64 0] 147)).drew = .ok () w2 ∧
      RN (ext F w w2) p cap made now d0 cs ((bs.length + 1, w.heap.size) :: T) K (bs ++ [newX m0 m1 m2 m3]) w2 bd bf bt bk vp ∧ Kp F w w2 ∧ w2.heap.size = w.heap.size + 1 := by
  obtain ⟨X, hX⟩ : ∃ X, X = Obj.cells #[.int .i64 m0, .int .i64 m1, .int .i64 m2, .int .i64 m3, .pointer none, .slice none 0 0, .int .i64 0] 147 := ⟨_, rfl⟩
  rw [← hX]
  have hbA : Below w.heap.size w (w.alloc X) := (Below.refl _ w).alloc (Nat.le_refl _) X
  have hA := h.keep (G := F) (w' := w.alloc X) (fun k _ hk => hbA.block k hk) fun _ h => h
  have hm3 : MapAt (.int .i64) (w.alloc X).drew bt (bv T) := hA.m3
  obtain ⟨w2, hr, hm, ht⟩ := hm3.store_new (P := Tryz.prog) (t := 100) (k := 3) (e := 106) Tryz.underlying100 Tryz.underlying3 (key_i ((bs.length + 1 : Nat) : Int)) (bv_no fun e he => by have := hT e he; omega) (.pointer (some ⟨w.heap.size, 0, none⟩))
  have hs2 : w2.heap.size = w.heap.size + 1 := by rw [ht.size]; show (w.alloc X).heap.size = _; simp
  have other : ∀ k, k ≠ bt → w2.heap[k]? = (w.alloc X).heap[k]? := fun k hk => ht.other hk
  have hbt := h.m3.lt
  have hx2 : w2.heap[w.heap.size]? = some (.cells (bodyV (newX m0 m1 m2 m3) (.pointer none) (.slice none 0 0)) 147 (0, 0)) := by rw [other _ (by omega), heap_alloc_new, hX]; rfl
  have R2 : RN F p cap made now d0 cs T K bs w2 bd bf bt bk vp → True := fun _ => trivial
  obtain ⟨a1, a2, a3⟩ := hA.apart hA.m3
  have old : ∀ k, k < w.heap.size → k ≠ bt → w2.heap[k]? = w.heap[k]? := fun k hk hne => (other k hne).trans (Lib.alloc_old w X k hk)
  refine ⟨w2, hr, ⟨(old p h.lt a1).trans h.blk, .inl h.fp, .inl h.f1, .inl h.f2, .inl h.f3, .inl h.f4, h.n1, h.n2, h.n3, h.n4, h.n5, h.n6, h.m1.keep (old _ h.m1.lt h.n2), h.m2.keep (old _ h.m2.lt h.n4), hm, h.m4.keep (old _ h.m4.lt h.n6.symm), own_keep h.row fun k hk => ?_, fun k hk => .inl (h.rowF k hk), ?_⟩, ⟨ht.os.1, ht.os.2.1, ht.os.2.2, by omega, fun k hk hF => old k hk (fun e => hF (e ▸ h.f3))⟩, hs2⟩
  · obtain ⟨cur, hh⟩ := own_typed h.row hk
    exact old k (blk_lt hh) (a2 k hk)
  · have hB2 : Bods (ext F w w2) w2 bs (T ++ K) := h.bod.keep (fun e he k hk => old k (by
      rcases hk with rfl | hk
      · exact (h.bod.lt he).1
      · exact (h.bod.lt he).2 k hk) (by
      obtain ⟨i, x, _, _, hx⟩ := h.bod.at_ e he
      rcases hk with rfl | hk
      · obtain ⟨cur, hh⟩ := hx.blk; exact fun e => h.m3.ne_cells hh e.symm
      · obtain ⟨cur, fz, hh⟩ := hx.buf hk; exact fun e => h.m3.ne_cells hh e.symm)) fun k hk => .inl hk
    have hbuf : bufOf w2 w.heap.size = none := by rw [bufOf_eq hx2]; rfl
    have hlow : ∀ e ∈ T ++ K, e.2 < w.heap.size := fun e he => (h.bod.lt he).1
    refine ⟨fun e he => ?_, fun e he => ?_, fun e he f hf hef => ?_, fun e he f hf hne k hk => ?_⟩
    · rcases List.mem_cons.1 he with rfl | he
      · exact ⟨bs.length, newX m0 m1 m2 m3, rfl, by simp, ⟨_, _, hx2, .inl rfl, World.ownsRowF_nil _ _ _ _⟩⟩
      · obtain ⟨i, x, h1, h2, h3⟩ := hB2.at_ e he
        exact ⟨i, x, h1, by rw [List.getElem?_append_left (List.getElem?_eq_some_iff.1 h2).1]; exact h2, h3⟩
    · rcases List.mem_cons.1 he with rfl | he
      · exact ⟨.inr ⟨Nat.le_refl _, by omega⟩, fun k hk => by simp only at hk; rw [hbuf] at hk; cases hk⟩
      · exact hB2.own e he
    · rcases List.mem_cons.1 he with rfl | he <;> rcases List.mem_cons.1 hf with rfl | hf
      · rfl
      · have := hlow f hf; simp only at hef; omega
      · have := hlow e he; simp only at hef; omega
      · exact hB2.sep e he f hf hef
    · rcases List.mem_cons.1 he with rfl | he <;> rcases List.mem_cons.1 hf with rfl | hf
      · exact absurd rfl hne
      · simp only at hk; rw [hbuf] at hk; cases hk
      · simp only; rw [hbuf]; simp
      · exact hB2.buf e he f hf hne k hk
theorem Raw.small {F : Nat → Prop} {p cap made : Nat} {now d0 : Dr} {cs : List Chg} {T K : List (Nat × Nat)} {bs : List Bd} {w : World} (h : Raw F p cap made now d0 cs T K bs w) : Raw (fun k => F k ∧ k < w.heap.size) p cap made now d0 cs T K bs w := by
  obtain ⟨vd, vs, vt, vk, vp, hp, hF, hm, ho, hoF, hb, hn⟩ := h
  refine ⟨vd, vs, vt, vk, vp, hp, ⟨hF, blk_lt hp⟩, ?_, ho, fun k hk => ⟨hoF k hk, by obtain ⟨cur, hh⟩ := own_typed ho hk; exact blk_lt hh⟩, ⟨hb.at_, fun e he => ⟨⟨(hb.own e he).1, (hb.lt he).1⟩, fun k hk => ⟨(hb.own e he).2 k hk, (hb.lt he).2 k hk⟩⟩, hb.sep, hb.buf⟩, hn⟩
  rcases hm with ⟨h1, h2, h3, h4, h5, h6, h7, h8⟩ | ⟨bd, bf, bt, bk, rfl, rfl, rfl, rfl, f1, f2, f3, f4, n1, n2, n3, n4, n5, n6, m1, m2, m3, m4⟩
  · refine .inl ⟨h1, h2, h3, h4, h5, h6, h7, ?_⟩
    rcases h8 with h8 | ⟨bt, rfl, hF', hm⟩
    · exact .inl h8
    · exact .inr ⟨bt, rfl, ⟨hF', hm.lt⟩, hm⟩
  · exact .inr ⟨bd, bf, bt, bk, rfl, rfl, rfl, rfl, ⟨f1, m1.lt⟩, ⟨f2, m2.lt⟩, ⟨f3, m3.lt⟩, ⟨f4, m4.lt⟩, n1, n2, n3, n4, n5, n6, m1, m2, m3, m4⟩
theorem psx_small {F : Nat → Prop} {p : Nat} {st : St} {w : World} (h : PSx F p st w) : PSx (fun k => F k ∧ k < w.heap.size) p st w := by
  obtain ⟨d0, cs, T, K, hr, hi⟩ := h
  exact ⟨d0, cs, T, K, hr.small, hi⟩
theorem pdid_wide {F G : Nat → Prop} {p : Nat} {st : St} {w w' : World} (h : PDid PSx F p st w w') (hG : ∀ k, F k → G k) : PDid PSx G p st w w' :=
  ⟨psx_mono h.1 fun k hk => by
    rcases hk with hk | hk
    · exact .inl (hG k hk)
    · exact .inr hk, h.2.wide hG⟩
set_option maxHeartbeats 8000000 in
theorem create_q (F : Nat → Prop) (p : Nat) (st : St) (name : ByteArray) (m0 m1 m2 m3 : Int) (w : World) (h : PSx F p st w) (hw : Wf st) (hFl : ∀ k, F k → k < w.heap.size) :
    Calls Tryz.prog 50 #[.pointer (some ⟨p, 0, none⟩), .string name, .agg #[.int .i64 m0, .int .i64 m1, .int .i64 m2, .int .i64 m3]] w fun e w' =>
      e = .returned (.tuple #[.int .i64 (st.create name m0 m1 m2 m3).1.1, .int .i64 (st.create name m0 m1 m2 m3).1.2]) ∧ PDid PSx F p (st.create name m0 m1 m2 m3).2 w w' := by
  obtain ⟨d0, cs, T, K, vd, vs, vt, vk, vp, O⟩ := psx_open h
  obtain ⟨Y, hY⟩ : ∃ Y, Y = Obj.cells #[.int .i64 m0, .int .i64 m1, .int .i64 m2, .int .i64 m3] 23 := ⟨_, rfl⟩
  have hbA : Below w.heap.size w (w.alloc Y) := (Below.refl _ w).alloc (Nat.le_refl _) Y
  have hsA : (w.alloc Y).heap.size = w.heap.size + 1 := by simp
  have HN : Hid (Calls Tryz.prog 68 #[.string name] (w.alloc Y) fun e w' => e = .returned (.bool (okName name)) ∧ Below w.heap.size w w' ∧ w'.heap[w.heap.size]? = some (.cells #[.int .i64 m0, .int .i64 m1, .int .i64 m2, .int .i64 m3] 23 (0, 0))) := (isName_c name (w.alloc Y)).mono (by
    rintro e w' ⟨rfl, hb⟩
    refine ⟨rfl, hbA.trans (hb.mono (by omega)), ?_⟩
    rw [hb.block _ (by omega), heap_alloc_new, hY])
  have HP : Hid (PSx F p st w) := h
  rcases hok : okName name with _ | _
  · have HC : Hid (st.create name m0 m1 m2 m3 = ((0, 32), st)) := by show _ = _; unfold St.create; rw [if_pos hok]
    rw [hok] at HN
    rw [HC.out]
    clear h hw hok O hbA hsA
    subst hY
    go_enter Tryz.func50, Tryz.ntmps50
    go_wp2_with (go_at_call 68; refine HN.out.mono ?_; rintro e w1 ⟨rfl, hb1, hk1⟩)
    go_ret2
    exact ⟨rfl, pdid_refl HP.out hb1⟩
  rw [hok] at HN
  have HL : Hid (∀ W, Below w.heap.size w W → W.cell? ⟨p, 2, none⟩ = some vd ∧ (Instr.lookup 99 vd (.string name) true).run Tryz.prog W = .ok (.tuple #[.int .i64 (leads st.now name), .bool (decide (leads st.now name ≠ 0))]) W ∧ ∀ ty, (Builtin.len_ #[99] ty #[vd]).run Tryz.prog W = .ok (.int .i64 st.now.length) W) := fun W hb => by
    refine ⟨cell_below hb (disk_cells O.blk).2.2.1, ?_, fun ty => ?_⟩
    · have := (O.maps.v.1.keep hb).sv_look true (Inv.pos hw) name
      simpa using this
    · have := (O.maps.v.1.keep hb).len (P := Tryz.prog) Tryz.underlying99 ty
      rw [dv_len] at this; exact this
  by_cases hfull : leads st.now name = 0 ∧ 64 ≤ st.now.length
  · have HC : Hid (st.create name m0 m1 m2 m3 = ((0, 33), st)) := by
      show _ = _
      unfold St.create
      rw [if_neg (by rw [hok]; decide), if_pos hfull]
    rw [HC.out]
    rw [hfull.1, show decide ((0 : Nat) ≠ 0) = false by decide] at HL
    obtain ⟨n, hn⟩ : ∃ n, n = st.now.length := ⟨_, rfl⟩
    rw [← hn] at HL hfull
    have b0 : decide ((64 : Int) ≤ (n : Int)) = true := decide_eq_true (by omega)
    clear h hw hok O hbA hsA hn
    subst hY
    go_enter Tryz.func50, Tryz.ntmps50
    go_wp2_with (first
      | (go_at_call 68; refine HN.out.mono ?_; rintro e w1 ⟨rfl, hb1, hk1⟩; obtain ⟨x2, hl, hln⟩ := HL.out _ hb1; have HB1 : Hid (Below w.heap.size w w1) := hb1; have HLN : Hid (∀ ty, (Builtin.len_ #[99] ty #[vd]).run Tryz.prog w1 = .ok (.int .i64 n) w1) := hln; clear hb1 hk1 hln)
      | (at_lookup; refine wp_look _ rfl _ _ 99 true rfl _ _ _ rfl rfl hl ?_)
      | (at_len; refine wp_len_w _ rfl _ 99 rfl _ _ rfl (HLN.out _) ?_))
    go_ret2
    exact ⟨rfl, pdid_refl HP.out HB1.out⟩
  have HC : Hid (st.create name m0 m1 m2 m3 = ((st.bodies.length + 1, 0), { st with bodies := st.bodies ++ [⟨m0, m1, m2, m3, ⟨#[]⟩, 0⟩], dirs := st.dirs ++ [with_ st.now name (st.bodies.length + 1)] })) := by
    show _ = _
    unfold St.create
    rw [if_neg (by rw [hok]; decide), if_neg hfull]
  have hdw := O.inv.dw.now hw
  have hto := ok_ne hok
  have hmany := hw.many
  have hlen : cs.length ≤ 2097152 := by have := hw.long; have := O.inv.cs_len; omega
  have HM : Hid (∀ W, Below w.heap.size w W → W.heap[w.heap.size]? = some (.cells #[.int .i64 m0, .int .i64 m1, .int .i64 m2, .int .i64 m3] 23 (0, 0)) → Calls Tryz.prog 70 #[.pointer (some ⟨p, 0, none⟩)] W fun e w2 => e = .returned (.tuple #[]) ∧ Calls Tryz.prog 71 #[.pointer (some ⟨p, 0, none⟩), .string name] w2 fun e w3 => e = .returned (.tuple #[]) ∧ ∃ bt w4 w5, w3.cell? ⟨p, 1, none⟩ = some (.int .i64 st.bodies.length) ∧ w3.frozen? ⟨p, 1, none⟩ = false ∧ w3.setCell ⟨p, 1, none⟩ (.int .i64 ((st.bodies.length + 1 : Nat) : Int)) = w4 ∧
      w4.cell? ⟨p, 1, none⟩ = some (.int .i64 ((st.bodies.length + 1 : Nat) : Int)) ∧ w4.cell? ⟨p, 4, none⟩ = some (.map (some bt)) ∧ w4.heap[w.heap.size]? = some (.cells #[.int .i64 m0, .int .i64 m1, .int .i64 m2, .int .i64 m3] 23 (0, 0)) ∧
      (Instr.mapUpdate 100 (.map (some bt)) (.int .i64 ((st.bodies.length + 1 : Nat) : Int)) (.pointer (some ⟨w4.heap.size, 0, none⟩))).run Tryz.prog (w4.alloc (.cells #[.int .i64 m0, .int .i64 m1, .int .i64 m2, .int .i64 m3, .pointer none, .slice none 0 0, .int .i64 0] 147)).drew = .ok () w5 ∧
      w5.cell? ⟨p, 1, none⟩ = some (.int .i64 ((st.bodies.length + 1 : Nat) : Int)) ∧
      Hid (Calls Tryz.prog 72 #[.pointer (some ⟨p, 0, none⟩), .agg #[.string ⟨#[]⟩, .string name, .int .i64 ((st.bodies.length + 1 : Nat) : Int)]] w5 fun e w6 => e = .returned (.tuple #[]) ∧ w6.cell? ⟨p, 1, none⟩ = some (.int .i64 ((st.bodies.length + 1 : Nat) : Int)) ∧ Hid (PDid PSx F p (st.create name m0 m1 m2 m3).2 w w6))) := fun W hb hq => by
    have hsW := hb.size
    have hqW := blk_lt hq
    refine (makeMaps_c F p _ _ st.now d0 cs T K st.bodies W (O.below hb).raw).mono ?_
    rintro e w2 ⟨rfl, ⟨bd, bf, bt, bk, vp', R2⟩, k2⟩
    refine ⟨rfl, ?_⟩
    refine (giveUp_p name (ext F W w2) p _ _ st.now d0 cs T K st.bodies w2 bd bf bt bk vp' R2 hdw (Inv.pos hw) O.inv.num O.inv.apart).mono ?_
    rintro e w3 ⟨rfl, ⟨T1, K1, R3, G⟩, k3⟩
    obtain ⟨R4, k4⟩ := R3.madeUp (st.bodies.length + 1)
    have hT1 : ∀ e ∈ T1 ++ K1, e.1 ≤ st.bodies.length := fun e he => by
      obtain ⟨i, x, h1, h2, _⟩ := R4.bod.at_ e he
      have := (List.getElem?_eq_some_iff.1 h2).1
      omega
    obtain ⟨w5, hr5, R5, k5, hs5⟩ := R4.newBody m0 m1 m2 m3 (fun e he => hT1 e (List.mem_append_left _ he))
    have hnF : ∀ k, ext F W w2 k → k ≠ w.heap.size := fun k hk => by
      rcases hk with hk | hk
      · have := hFl k hk; omega
      · omega
    have s2 := k2.size
    have s3 := k3.size
    have s4 := k4.size
    have q2 : w2.heap[w.heap.size]? = W.heap[w.heap.size]? := k2.block _ hqW (fun e => by have := hFl _ e; omega)
    have q3 : w3.heap[w.heap.size]? = w2.heap[w.heap.size]? := k3.block _ (by omega) (fun e => hnF _ e rfl)
    have q4 := k4.block w.heap.size (by omega) (fun e => hnF _ e rfl)
    refine ⟨rfl, bt, _, w5, R3.cells.2.1, Lib.frozen_of_heap R3.blk 1, rfl, R4.cells.2.1, R4.cells.2.2.2.2.1, q4.trans (q3.trans (q2.trans hq)), hr5, R5.cells.2.1, ?_⟩
    have R5' : RN (ext (ext F W w2) (w3.setCell ⟨p, 1, none⟩ (.int .i64 ((st.bodies.length + 1 : Nat) : Int))) w5) p st.cap (st.bodies.length + 1) st.now d0 cs ((st.bodies.length + 1, (w3.setCell ⟨p, 1, none⟩ (.int .i64 ((st.bodies.length + 1 : Nat) : Int))).heap.size) :: T1) K1 (st.bodies ++ [newX m0 m1 m2 m3]) w5 bd bf bt bk vp' := R5
    refine (note_c ⟨⟨#[]⟩, name, st.bodies.length + 1⟩ _ p _ _ st.now d0 cs _ K1 _ w5 bd bf bt bk vp' R5' hlen).mono ?_
    rintro e w6 ⟨rfl, r6, k6⟩
    rw [app_create hdw name _ hto] at r6
    refine ⟨rfl, ?_, ?_⟩
    · obtain ⟨_, _, _, _, _, hp6, _⟩ := id r6
      exact (disk_cells hp6).2.1
    · rw [HC.out]
      have kk : Kp F w w5 := (Kp.of_below (F := F) hb).trans (k2.then (k3.trans (k4.trans k5)))
      have hsz5 : (w3.setCell ⟨p, 1, none⟩ (.int .i64 ((st.bodies.length + 1 : Nat) : Int))).heap.size = w3.heap.size := by simp [World.setCell]
      have hE : ∀ k, ext (ext F W w2) (w3.setCell ⟨p, 1, none⟩ (.int .i64 ((st.bodies.length + 1 : Nat) : Int))) w5 k → ext F w w5 k := fun k hk => by
        have := k5.size
        rcases hk with (hk | hk) | hk
        · exact .inl hk
        · exact .inr ⟨by omega, by omega⟩
        · exact .inr ⟨by omega, by omega⟩
      have hI : Inv { st with bodies := st.bodies ++ [newX m0 m1 m2 m3], dirs := st.dirs ++ [with_ st.now name (st.bodies.length + 1)] } d0 (cs ++ [⟨⟨#[]⟩, name, st.bodies.length + 1⟩]) ((st.bodies.length + 1, (w3.setCell ⟨p, 1, none⟩ (.int .i64 ((st.bodies.length + 1 : Nat) : Int))).heap.size) :: T1) K1 := by
        refine inv_next O.inv ⟨⟨#[]⟩, name, st.bodies.length + 1⟩ (by rw [app_create hdw name _ hto]) ?_ ?_ ?_ ?_
        · have hs := step_DW O.inv.dw hw (o := ⟨1, 0, 0, name, ⟨#[]⟩, m0, m1, m2, m3, .slice none 0 0, []⟩)
          have e : st.step ⟨1, 0, 0, name, ⟨#[]⟩, m0, m1, m2, m3, .slice none 0 0, []⟩ = (st.create name m0 m1 m2 m3).2 := by unfold St.step; simp
          rw [e, HC.out] at hs
          exact hs
        · rw [app_create hdw name _ hto, List.map_cons]
          exact (G.num.cons _).trans (with_nums st.now name (st.bodies.length + 1)).symm
        · intro e he
          rcases G.keys e he with h1 | h1
          · exact .inl (by rw [List.map_cons]; exact List.mem_cons_of_mem _ h1)
          · exact .inr h1
        · intro e he f hf
          rcases List.mem_cons.1 hf with rfl | hf
          · have := hT1 e (List.mem_append_right _ he)
            simp only; omega
          · exact G.apart e he f hf
      have s6 := k6.size
      have s5 := kk.size
      refine ⟨⟨d0, _, _, K1, ?_, hI⟩, kk.then (k6.wide hE)⟩
      have hnow : ({ st with bodies := st.bodies ++ [newX m0 m1 m2 m3], dirs := st.dirs ++ [with_ st.now name (st.bodies.length + 1)] } : St).now = with_ st.now name (st.bodies.length + 1) := now_append _ _
      have hbl : (st.bodies ++ [newX m0 m1 m2 m3]).length = st.bodies.length + 1 := by simp
      show Raw (ext F w w6) p st.cap (st.bodies ++ [newX m0 m1 m2 m3]).length ({ st with bodies := st.bodies ++ [newX m0 m1 m2 m3], dirs := st.dirs ++ [with_ st.now name (st.bodies.length + 1)] } : St).now d0 _ _ K1 (st.bodies ++ [newX m0 m1 m2 m3]) w6
      rw [hnow, hbl]
      refine r6.keep (fun _ _ _ => rfl) fun k hk => ?_
      rcases hk with hk | hk
      · rcases hE k hk with h1 | h1
        · exact .inl h1
        · exact .inr ⟨h1.1, by omega⟩
      · exact .inr ⟨by omega, hk.2⟩
  have HC1 : Hid ((st.create name m0 m1 m2 m3).1 = (st.bodies.length + 1, 0)) := by show _ = _; rw [HC.out]
  obtain ⟨R, hR⟩ : ∃ R, R = (st.create name m0 m1 m2 m3).2 := ⟨_, rfl⟩
  rw [← hR] at HM
  rw [HC1.out, ← hR]
  obtain ⟨N, hN⟩ : ∃ N, N = st.bodies.length := ⟨_, rfl⟩
  rw [← hN] at HM hmany
  rw [← hN]
  obtain ⟨n, hn⟩ : ∃ n, n = st.now.length := ⟨_, rfl⟩
  obtain ⟨l, hl⟩ : ∃ l, l = leads st.now name := ⟨_, rfl⟩
  rw [← hn, ← hl] at HL hfull
  have hw1 : IntKind.i64.wrap ((N : Int) + 1) = ((N + 1 : Nat) : Int) := by rw [wrap_i64 (by omega)]; omega
  obtain ⟨M, hM⟩ : ∃ M, M = N + 1 := ⟨_, rfl⟩
  dsimp only
  rw [← hM] at HM hw1 ⊢
  clear hM
  clear h hw hok O hbA hsA hn hl HC HC1 hR hN hdw hto hlen hFl
  subst hY
  by_cases hl0 : l = 0
  · subst hl0
    have hn64 : n < 64 := by omega
    rw [show decide ((0 : Nat) ≠ 0) = false by decide] at HL
    have b0 : decide ((64 : Int) ≤ (n : Int)) = false := decide_eq_false (by omega)
    clear hfull
    go_enter Tryz.func50, Tryz.ntmps50
    go_wp2_with (first
      | (go_at_call 68; refine HN.out.mono ?_; rintro e w1 ⟨rfl, hb1, hk1⟩; obtain ⟨x2, hl, hln⟩ := HL.out _ hb1; have HM1 := HM.out _ hb1 hk1; have HMM : Hid (type_of% HM1) := HM1; have HLN : Hid (∀ ty, (Builtin.len_ #[99] ty #[vd]).run Tryz.prog w1 = .ok (.int .i64 n) w1) := hln; clear hb1 hk1 hln HM1)
      | (at_lookup; refine wp_look _ rfl _ _ 99 true rfl _ _ _ rfl rfl hl ?_)
      | (at_len; refine wp_len_w _ rfl _ 99 rfl _ _ rfl (HLN.out _) ?_)
      | (go_at_call 70; refine HMM.out.mono ?_; rintro e w2 ⟨rfl, hg2⟩; have HG2 : Hid (type_of% hg2) := hg2; clear hg2)
      | (go_at_call 71; refine HG2.out.mono ?_; rintro e w3 ⟨rfl, bt, w4, w5, z1, z2, z3, z4, z5, z6, z7, z8, HNT⟩; have y0 : w4.cell? ⟨w.heap.size, 0, none⟩ = some (.int .i64 m0) := (by rw [Lib.cell_of_heap z6]; rfl); have y1 : w4.cell? ⟨w.heap.size, 1, none⟩ = some (.int .i64 m1) := (by rw [Lib.cell_of_heap z6]; rfl); have y2 : w4.cell? ⟨w.heap.size, 2, none⟩ = some (.int .i64 m2) := (by rw [Lib.cell_of_heap z6]; rfl); have y3 : w4.cell? ⟨w.heap.size, 3, none⟩ = some (.int .i64 m3) := (by rw [Lib.cell_of_heap z6]; rfl); clear z6; have v1 : (w4.alloc (.cells #[.int .i64 m0, .int .i64 m1, .int .i64 m2, .int .i64 m3, .pointer none, .slice none 0 0, .int .i64 0] 147)).cell? ⟨p, 1, none⟩ = some (.int .i64 M) := cell_below ((Below.refl _ w4).alloc (Nat.le_refl _) _) z4; have v4 : (w4.alloc (.cells #[.int .i64 m0, .int .i64 m1, .int .i64 m2, .int .i64 m3, .pointer none, .slice none 0 0, .int .i64 0] 147)).cell? ⟨p, 4, none⟩ = some (.map (some bt)) := cell_below ((Below.refl _ w4).alloc (Nat.le_refl _) _) z5))
    go_region
    all_goals
      go_wp2_with (go_at_call 72; refine HNT.out.mono ?_; rintro e w6 ⟨rfl, c6, HR⟩)
      go_ret2
      exact ⟨rfl, HR.out⟩
  · obtain ⟨k, rfl⟩ : ∃ k, l = k + 1 := ⟨l - 1, by omega⟩
    rw [show decide ((k + 1 : Nat) ≠ 0) = true by simp] at HL
    clear hfull hl0
    go_enter Tryz.func50, Tryz.ntmps50
    go_wp2_with (first
      | (go_at_call 68; refine HN.out.mono ?_; rintro e w1 ⟨rfl, hb1, hk1⟩; obtain ⟨x2, hl, hln⟩ := HL.out _ hb1; have HM1 := HM.out _ hb1 hk1; have HMM : Hid (type_of% HM1) := HM1; have HLN : Hid (∀ ty, (Builtin.len_ #[99] ty #[vd]).run Tryz.prog w1 = .ok (.int .i64 n) w1) := hln; clear hb1 hk1 hln HM1)
      | (at_lookup; refine wp_look _ rfl _ _ 99 true rfl _ _ _ rfl rfl hl ?_)
      | (at_len; refine wp_len_w _ rfl _ 99 rfl _ _ rfl (HLN.out _) ?_)
      | (go_at_call 70; refine HMM.out.mono ?_; rintro e w2 ⟨rfl, hg2⟩; have HG2 : Hid (type_of% hg2) := hg2; clear hg2)
      | (go_at_call 71; refine HG2.out.mono ?_; rintro e w3 ⟨rfl, bt, w4, w5, z1, z2, z3, z4, z5, z6, z7, z8, HNT⟩; have y0 : w4.cell? ⟨w.heap.size, 0, none⟩ = some (.int .i64 m0) := (by rw [Lib.cell_of_heap z6]; rfl); have y1 : w4.cell? ⟨w.heap.size, 1, none⟩ = some (.int .i64 m1) := (by rw [Lib.cell_of_heap z6]; rfl); have y2 : w4.cell? ⟨w.heap.size, 2, none⟩ = some (.int .i64 m2) := (by rw [Lib.cell_of_heap z6]; rfl); have y3 : w4.cell? ⟨w.heap.size, 3, none⟩ = some (.int .i64 m3) := (by rw [Lib.cell_of_heap z6]; rfl); clear z6; have v1 : (w4.alloc (.cells #[.int .i64 m0, .int .i64 m1, .int .i64 m2, .int .i64 m3, .pointer none, .slice none 0 0, .int .i64 0] 147)).cell? ⟨p, 1, none⟩ = some (.int .i64 M) := cell_below ((Below.refl _ w4).alloc (Nat.le_refl _) _) z4; have v4 : (w4.alloc (.cells #[.int .i64 m0, .int .i64 m1, .int .i64 m2, .int .i64 m3, .pointer none, .slice none 0 0, .int .i64 0] 147)).cell? ⟨p, 4, none⟩ = some (.map (some bt)) := cell_below ((Below.refl _ w4).alloc (Nat.le_refl _) _) z5))
    go_region
    all_goals
      go_wp2_with (go_at_call 72; refine HNT.out.mono ?_; rintro e w6 ⟨rfl, c6, HR⟩)
      go_ret2
      exact ⟨rfl, HR.out⟩
theorem create_p (F : Nat → Prop) (p : Nat) (st : St) (name : ByteArray) (m0 m1 m2 m3 : Int) (w : World) (h : PSx F p st w) (hw : Wf st) :
    Calls Tryz.prog 50 #[.pointer (some ⟨p, 0, none⟩), .string name, .agg #[.int .i64 m0, .int .i64 m1, .int .i64 m2, .int .i64 m3]] w fun e w' =>
      e = .returned (.tuple #[.int .i64 (st.create name m0 m1 m2 m3).1.1, .int .i64 (st.create name m0 m1 m2 m3).1.2]) ∧ PDid PSx F p (st.create name m0 m1 m2 m3).2 w w' :=
  (create_q (fun k => F k ∧ k < w.heap.size) p st name m0 m1 m2 m3 w (psx_small h) hw fun k hk => hk.2).mono fun e w' h => ⟨h.1, pdid_wide h.2 fun k hk => hk.1⟩
end Go.Proofs.YtjbphheojfclcaaGreat

-- Crash.
namespace Go.Proofs.YtjbphheojfclcaaGreat
open Go.RowKit
set_option linter.unusedVariables false
set_option maxHeartbeats 8000000 in
theorem goBack_nil (F : Nat → Prop) (p cap made : Nat) (bs : List Bd) (w : World) (vt vp : Value) (hp : w.heap[p]? = some (.cells (diskV cap made (.map none) (.map none) vt (.map none) vp) 103 (0, 0))) (hF : F p) (ho : w.ownsRow 0 137 3 vp 0 []) (hoF : ∀ k, vp.ownBlock = some k → F k) :
    Calls Tryz.prog 44 #[.pointer (some ⟨p, 0, none⟩)] w fun e w' => e = .returned (.tuple #[]) ∧ Raw (ext F w w') p cap made [] [] [] [] [] bs w' ∧ Kp F w w' := by
  obtain ⟨c0, c1, c2, c3, c4, c5, c6⟩ := disk_cells hp
  have hpl := blk_lt hp
  have HCL : Hid (Calls Tryz.prog 62 #[.map none] w fun e w' => e = .returned (.map none) ∧ w' = w) := clone_nil w
  have p1 : (w.setCell ⟨p, 2, none⟩ (.map none)).heap[p]? = some (.cells (diskV cap made (.map none) (.map none) vt (.map none) vp) 103 (0, 0)) := blk_set hp _
  obtain ⟨w1, hw1⟩ : ∃ W, W = w.setCell ⟨p, 2, none⟩ (.map none) := ⟨_, rfl⟩
  have s1 : w1.heap.size = w.heap.size := by rw [hw1]; simp [World.setCell]
  have o1 : ∀ k, k ≠ p → w1.heap[k]? = w.heap[k]? := fun k hk => by rw [hw1]; exact Below.heap_setCell _ _ _ _ hk
  have x1 : w1.os = w.os ∧ w1.tape = w.tape ∧ w1.output = w.output := by rw [hw1]; exact ⟨rfl, rfl, rfl⟩
  rw [← hw1] at p1
  have t1 := hw1.symm
  have hr2 := mk_run_h 100 _ _ Tryz.underlying100 0 w1
  obtain ⟨w2, hw2⟩ : ∃ W, W = w1.alloc (.map #[] 0) := ⟨_, rfl⟩
  have s2 : w2.heap.size = w.heap.size + 1 := by rw [hw2]; simp [s1]
  have o2 : ∀ k, k < w1.heap.size → w2.heap[k]? = w1.heap[k]? := fun k hk => by rw [hw2]; exact Lib.alloc_old w1 _ k hk
  have x2 : w2.os = w1.os ∧ w2.tape = w1.tape ∧ w2.output = w1.output := by rw [hw2]; exact ⟨rfl, rfl, rfl⟩
  have n2 : w2.heap[w.heap.size]? = some (.map #[] 0) := by rw [hw2, ← s1]; exact heap_alloc_new w1 _
  rw [← hw2, s1] at hr2
  have p2 : w2.heap[p]? = some (.cells (diskV cap made (.map none) (.map none) vt (.map none) vp) 103 (0, 0)) := (o2 p (by omega)).trans p1
  obtain ⟨w3, hr3, hg3, hb3, hs3⟩ := (show MapV .string w2 (.map none) [] from .inl ⟨rfl, rfl⟩).range (P := Tryz.prog) Tryz.underlying99
  have p3 : w3.heap[p]? = some (.cells (diskV cap made (.map none) (.map none) vt (.map none) vp) 103 (0, 0)) := (hb3.block p (by omega)).trans p2
  have p4 : (w3.setCell ⟨p, 4, none⟩ (.map (some w.heap.size))).heap[p]? = some (.cells (diskV cap made (.map none) (.map none) (.map (some w.heap.size)) (.map none) vp) 103 (0, 0)) := blk_set p3 _
  obtain ⟨w4, hw4⟩ : ∃ W, W = w3.setCell ⟨p, 4, none⟩ (.map (some w.heap.size)) := ⟨_, rfl⟩
  have s4 : w4.heap.size = w3.heap.size := by rw [hw4]; simp [World.setCell]
  have o4 : ∀ k, k ≠ p → w4.heap[k]? = w3.heap[k]? := fun k hk => by rw [hw4]; exact Below.heap_setCell _ _ _ _ hk
  have x4 : w4.os = w3.os ∧ w4.tape = w3.tape ∧ w4.output = w3.output := by rw [hw4]; exact ⟨rfl, rfl, rfl⟩
  rw [← hw4] at p4
  have t4 := hw4.symm
  have old : ∀ k, k < w.heap.size → k ≠ p → w4.heap[k]? = w.heap[k]? := fun k hk hne => by rw [o4 k hne, hb3.block k (by omega), o2 k (by omega), o1 k hne]
  have HR : Hid (Raw (ext F w w4) p cap made [] [] [] [] [] bs w4 ∧ Kp F w w4) := by
    refine ⟨⟨_, _, _, _, vp, p4, .inl hF, .inl ⟨rfl, rfl, rfl, rfl, rfl, rfl, rfl, .inr ⟨w.heap.size, rfl, .inr ⟨Nat.le_refl _, by omega⟩, em ?_⟩⟩, own_keep ho fun k hk => ?_, fun k hk => .inl (hoF k hk), ⟨by simp, by simp, by simp, by simp⟩, fun _ => rfl⟩, ?_⟩
    · rw [o4 _ (by omega), hb3.block _ (by omega), n2]
    · obtain ⟨cur, hh⟩ := own_typed ho hk
      exact old k (blk_lt hh) (fun e => typed_ne hh hp (by decide) e)
    · exact ⟨x4.1.trans (hb3.os.trans (x2.1.trans x1.1)), x4.2.1.trans (hb3.tape.trans (x2.2.1.trans x1.2.1)), x4.2.2.trans (hb3.output.trans (x2.2.2.trans x1.2.2)), by omega, fun k hk hne => old k hk (fun e => hne (e ▸ hF))⟩
  have y2 : w1.cell? ⟨p, 2, none⟩ = some (.map none) := (disk_cells p1).2.2.1
  have z2 : w.frozen? ⟨p, 2, none⟩ = false := Lib.frozen_of_heap hp 2
  have y2b : w2.cell? ⟨p, 2, none⟩ = some (.map none) := (disk_cells p2).2.2.1
  have y4 : w3.cell? ⟨p, 4, none⟩ = some vt := (disk_cells p3).2.2.2.2.1
  have z4 : w3.frozen? ⟨p, 4, none⟩ = false := Lib.frozen_of_heap p3 4
  have y5 : w4.cell? ⟨p, 5, none⟩ = some (.map none) := (disk_cells p4).2.2.2.2.2.1
  have HNX : Hid (∀ ty, (Instr.next (.pointer (some ⟨w2.heap.size, 0, none⟩)) false ty).run Tryz.prog w3 = .ok (.tuple #[.bool false]) w3) := by
    rcases hg3.next (P := Tryz.prog) with ⟨_, h⟩ | ⟨_, _, _, h, _⟩
    · exact h
    · exact absurd h.length_eq (by simp)
  have HLN : Hid (∀ W ty, (Builtin.len_ #[99] ty #[.map none]).run Tryz.prog W = .ok (.int .i64 0) W) := fun W ty => len_nil Tryz.underlying99 ty
  have HCR : Hid (∀ ty, (Builtin.clear_ #[100] ty #[.map none]).run Tryz.prog w4 = .ok (.tuple #[]) w4) := fun ty => clear_nil Tryz.underlying100 ty
  obtain ⟨r, hr⟩ : ∃ r, r = w2.heap.size := ⟨_, rfl⟩
  rw [← hr] at HNX hr3
  obtain ⟨q, hq⟩ : ∃ q, q = w.heap.size := ⟨_, rfl⟩
  rw [← hq] at hr2 t4
  clear hw1 hw2 hw4 s1 o1 x1 p1 s2 o2 x2 n2 p2 hg3 hb3 hs3 p3 p4 s4 o4 x4 old ho hoF hp hr hq hpl c0 c1 c4 c5 c6
  go_enter Tryz.func44, Tryz.ntmps44
  go_wp2_with (go_at_call 62; refine HCL.out.mono ?_; rintro e w9 ⟨rfl, hw9⟩; subst w9)
  refine wp_loop_rounds 1 ?_
  rw [rounds_succ]
  have hnx := HNX.out
  have hcr := HCR.out
  go_wp2_with (at_builtin; refine wp_clear _ rfl _ 100 rfl _ rfl w4 (hcr _) ?_)
  go_end0
  exact ⟨rfl, HR.out⟩
/-- goBack, whichever the maps are. -/
theorem goBack_p (F : Nat → Prop) (p cap made : Nat) (now d0 : Dr) (T K : List (Nat × Nat)) (bs : List Bd) (w : World) (h : Raw F p cap made now d0 [] T K bs w) (hu : (d0.map (·.2)).Nodup) (hall : ∀ e ∈ d0, e.2 ∈ T.map (·.1) ∨ e.2 ∈ K.map (·.1)) (hFl : ∀ k, F k → k < w.heap.size) :
    Calls Tryz.prog 44 #[.pointer (some ⟨p, 0, none⟩)] w fun e w' => e = .returned (.tuple #[]) ∧ (∃ B, Back T K d0 [] B ∧ Raw (ext F w w') p cap made d0 d0 [] B [] bs w') ∧ Kp F w w' := by
  obtain ⟨vd, vs, vt, vk, vp, hp, hF, hm, ho, hoF, hb, hn⟩ := h
  rcases hm with ⟨rfl, rfl, rfl, rfl, rfl, rfl, rfl, h8⟩ | ⟨bd, bf, bt, bk, rfl, rfl, rfl, rfl, f1, f2, f3, f4, n1, n2, n3, n4, n5, n6, m1, m2, m3, m4⟩
  · refine (goBack_nil F p cap made bs w vt vp hp hF ho hoF).mono ?_
    rintro e w' ⟨rfl, h1, h2⟩
    exact ⟨rfl, ⟨[], ⟨by simp, by simp⟩, h1⟩, h2⟩
  · exact goBack_c F p cap made now d0 T K bs w bd bf bt bk vp ⟨hp, hF, f1, f2, f3, f4, n1, n2, n3, n4, n5, n6, m1, m2, m3, m4, ho, hoF, hb⟩ hu hall hFl
end Go.Proofs.YtjbphheojfclcaaGreat

-- Crash.
namespace Go.Proofs.YtjbphheojfclcaaGreat
open Go.RowKit
set_option linter.unusedVariables false
/-- The volume on the way through a crash: j files cut. -/
def midSt (st : St) (d : Dr) (cuts : List Int) (j : Nat) : St := { st with bodies := cutTo cuts d st.bodies j, dirs := [d] }
theorem mid_wf {st : St} (hw : Wf st) {d : Dr} (hd : d ∈ st.dirs) (cuts : List Int) (j : Nat) : Wf (midSt st d cuts j) where
  ne := by simp [midSt]
  few := fun x hx => by simp [midSt] at hx; subst hx; exact hw.few _ hd
  led := fun x hx e he => by simp [midSt] at hx; subst hx; show 1 ≤ e.2 ∧ e.2 ≤ (cutTo cuts x st.bodies j).length; rw [cutTo_len]; exact hw.led _ hd e he
  bod := cutTo_bod cuts d st.bodies j hw.bod
  cap := hw.cap
  many := by show (cutTo cuts d st.bodies j).length ≤ _; rw [cutTo_len]; exact hw.many
  long := by show ([d] : List Dr).length ≤ _; simp
theorem mid_now (st : St) (d : Dr) (cuts : List Int) (j : Nat) : (midSt st d cuts j).now = d := by simp [midSt, St.now]
/-- The next file cut. -/
theorem mid_step {st : St} {d : Dr} {cuts : List Int} {j i : Nat} {nm : ByteArray} {x : Bd} (hj : d[j]? = some (nm, i + 1)) (hx : (midSt st d cuts j).bodies[i]? = some x) :
    (midSt st d cuts j).put ((i + 1 : Nat) : Int) (cutX x (cutOf cuts j (x.data.size - x.safe))) = midSt st d cuts (j + 1) := by
  unfold St.put midSt
  rw [Int.toNat_natCast, Nat.add_sub_cancel]
  have hx' : (cutTo cuts d st.bodies j)[i]? = some x := hx
  simp only [cutTo, hj, Nat.add_sub_cancel, hx']
  rfl
theorem cutOf_within (cuts : List Int) (j loose : Nat) : (within (if cuts = [] then 0 else cuts.getD (j % cuts.length) 0) 0 (loose : Int)).toNat = cutOf cuts j loose := by
  unfold cutOf
  split
  · unfold within; simp; omega
  · rfl
theorem psx_num {F : Nat → Prop} {p : Nat} {st : St} {w : World} (h : PSx F p st w) (hw : Wf st) {nm : ByteArray} {n : Nat} (hm : (nm, n) ∈ st.now) : ∃ i b x vd vt, n = i + 1 ∧ st.bodies[i]? = some x ∧ BodyAt w b x ∧ w.cell? ⟨p, 2, none⟩ = some vd ∧ w.cell? ⟨p, 4, none⟩ = some vt ∧
    (∀ W, W.heap = w.heap → (Instr.lookup 99 vd (.string nm) false).run Tryz.prog W = .ok (.int .i64 ((i + 1 : Nat) : Int)) W) ∧ (∀ W, W.heap = w.heap → (Instr.lookup 100 vt (.int .i64 ((i + 1 : Nat) : Int)) false).run Tryz.prog W = .ok (.pointer (some ⟨b, 0, none⟩)) W) ∧
    ∀ w' x', Only b w w' → BodyAt w' b x' → PSx (ext F w w') p (st.put ((i + 1 : Nat) : Int) x') w' ∧ Kp F w w' := by
  obtain ⟨d0, cs, T, K, vd, vs, vt, vk, vp, O⟩ := psx_open h
  have hth : there st.now (n : Int) = true := by
    unfold there; rw [List.any_eq_true]; exact ⟨_, hm, by simp⟩
  rcases body_of (p := p) O.bod O.inv hw (n : Int) with ⟨h1, _⟩ | ⟨i, b, x, hn, h1, h2, h3, h4, h5⟩
  · rw [hth] at h1; cases h1
  have hn' : n = i + 1 := by omega
  subst hn'
  have hld : leads st.now nm = i + 1 := dw_leads (O.inv.dw.now hw) hm (fun f hf => by have := Inv.pos hw f hf; omega)
  have hkeep : ∀ (W : World), W.heap = w.heap → ∀ {d : TypeDesc} {v : Value} {l : Prs}, MapV d w v l → MapV d W v l := fun W hW {d v l} hv => by
    rcases hv with hv | ⟨b', rfl, hm'⟩
    · exact .inl hv
    · exact .inr ⟨b', rfl, hm'.keep (by rw [hW])⟩
  refine ⟨i, b, x, vd, vt, rfl, h2, h5, (disk_cells O.blk).2.2.1, (disk_cells O.blk).2.2.2.2.1, fun W hW => ?_, fun W hW => ?_, fun w' x' ho hb => O.put h2 h1 ho hb⟩
  · have := (hkeep W hW O.maps.v.1).sv_look false (Inv.pos hw) nm
    rw [hld] at this; simpa using this
  · have := (hkeep W hW O.maps.v.2.2.1).bv_look false h1
    simpa using this
theorem ext_lt {F : Nat → Prop} {w w' : World} (hF : ∀ k, F k → k < w.heap.size) (hs : w.heap.size ≤ w'.heap.size) : ∀ k, ext F w w' k → k < w'.heap.size := fun k hk => by
  rcases hk with hk | hk
  · have := hF k hk; omega
  · exact hk.2
set_option maxHeartbeats 8000000 in
theorem crash_q (F : Nat → Prop) (p : Nat) (st : St) (n : Int) (cv : Value) (cuts : List Int) (w : World) (h : PSx F p st w) (hw : Wf st) (hcut : RowI w cv cuts) (hcF : cuts ≠ [] → ∀ k, cv.ownBlock = some k → ¬ F k) (hcl : cuts.length ≤ 4194304) (hFl : ∀ k, F k → k < w.heap.size) :
    Calls Tryz.prog 26 #[.pointer (some ⟨p, 0, none⟩), .int .i64 n, cv] w fun e w' => e = .returned (.tuple #[]) ∧ PDid PSx F p (st.crash n cuts) w w' := by
  obtain ⟨d0, cs, T, K, vd, vs, vt, vk, vp, O⟩ := psx_open h
  have hlen : cs.length ≤ 2097152 := by have := hw.long; have := O.inv.cs_len; omega
  obtain ⟨ao, cp, c6, hcl6, hcm, f6⟩ := O.raw.p6
  obtain ⟨m, hm1, hm2, hm3⟩ := cutDir_get hw n
  have hdl := O.inv.cs_len
  have hmc : m ≤ cs.length := by omega
  have hmin : min (max n 0) (cs.length : Int) = (m : Int) := by
    rw [← hm1, show st.dirs.length - 1 = cs.length by omega]; unfold within
    rcases (by omega : n < 0 ∨ 0 ≤ n) with h1 | h1
    · rw [if_pos h1, Int.max_eq_right (by omega), Int.min_eq_left (by omega)]
    · rw [if_neg (by omega), Int.max_eq_left h1]
      split
      · rw [Int.min_eq_right (by omega)]
      · rw [Int.min_eq_left (by omega)]
  have hcd : st.cutDir n = endOf d0 (cs.take m) := by
    have := hm3
    rw [O.inv.dirs, chain_get d0 cs m hmc] at this
    exact (Option.some.inj this).symm
  have hdm : st.cutDir n ∈ st.dirs := List.mem_of_getElem? hm3
  have hdw : Dw (st.cutDir n) := O.inv.dw _ hdm
  obtain ⟨D, hD⟩ : ∃ D, D = st.cutDir n := ⟨_, rfl⟩
  have HS : Hid (Calls Tryz.prog 43 #[.pointer (some ⟨p, 0, none⟩), .int .i64 m] w fun e w1 => e = .returned (.tuple #[]) ∧ Calls Tryz.prog 44 #[.pointer (some ⟨p, 0, none⟩)] w1 fun e w2 => e = .returned (.tuple #[]) ∧ PDid PSx F p (midSt st D cuts 0) w w2) := (settle_c m F p _ _ st.now d0 cs T K st.bodies w O.raw hmc hlen).mono (by
    rintro e w1 ⟨rfl, r1, k1⟩
    refine ⟨rfl, ?_⟩
    rw [← hcd, ← hD] at r1
    rw [← hD] at hdw hdm
    refine (goBack_p (ext F w w1) p _ _ st.now D T K st.bodies w1 r1 hdw.unlike (fun e he => O.inv.all D hdm e he) (ext_lt hFl k1.size)).mono ?_
    rintro e w2 ⟨rfl, ⟨B, hB, r2⟩, k2⟩
    have s2 := k2.size
    have s1 := k1.size
    refine ⟨rfl, ⟨D, [], B, [], ?_, ⟨rfl, fun d hd => by simp [midSt] at hd; subst hd; exact hdw, ?_, fun d hd e he => ?_, by simp⟩⟩, k1.then k2⟩
    · rw [mid_now]
      refine r2.keep (fun _ _ _ => rfl) fun k hk => ?_
      rcases hk with (hk | hk) | hk
      · exact .inl hk
      · exact .inr ⟨hk.1, by omega⟩
      · exact .inr ⟨by omega, hk.2⟩
    · rw [mid_now]; simpa using hB.num
    · simp [midSt] at hd
      subst hd
      exact .inl ((by simpa using hB.num : (B.map (·.1)).Perm (d.map (·.2))).mem_iff.2 (List.mem_map.2 ⟨e, he, rfl⟩)))
  have HWF : Hid (∀ j, Wf (midSt st D cuts j)) := fun j => mid_wf hw (by rw [hD]; exact hdm) cuts j
  have HNM : Hid (∀ W G, PSx G p (midSt st D cuts 0) W → Calls Tryz.prog 45 #[.pointer (some ⟨p, 0, none⟩)] W fun e w' => ∃ ag cap, e = .returned (.slice ag D.length cap) ∧ w'.ownsRow W.heap.size 9 1 (.slice ag D.length cap) D.length (strV (D.map (·.1))) ∧ Below W.heap.size W w') := fun W G hG => by
    obtain ⟨d0', cs', T', K', vd', vs', vt', vk', vp', O'⟩ := psx_open hG
    have hnow := mid_now st D cuts 0
    have hc := pnames_c p vd' (midSt st D cuts 0).now W (disk_cells O'.blk).2.2.1 O'.maps.v.1 (O'.inv.dw.now (HWF.out 0)) (now_len (HWF.out 0))
    rw [hnow] at hc
    refine hc.mono ?_
    rintro e w' ⟨⟨v, rfl, ho⟩, hb⟩
    obtain ⟨ag, cap, rfl⟩ := own_shape ho
    exact ⟨ag, cap, rfl, ho, hb⟩
  have HCR : Hid (st.crash n cuts = midSt st D cuts D.length) := by show _ = _; unfold St.crash midSt; rw [← hD]
  have HCUT : Hid (RowI w cv cuts ∧ (cuts ≠ [] → ∀ k, cv.ownBlock = some k → ¬ F k)) := ⟨hcut, hcF⟩
  have hDl : D.length ≤ 64 := by rw [hD]; exact hw.few _ hdm
  obtain ⟨N, hN⟩ : ∃ N, N = cs.length := ⟨_, rfl⟩
  rw [← hN] at c6 hmin
  have HFL : Hid (∀ k, F k → k < w.heap.size) := hFl
  clear h hw hcut hcF hFl O hlen hcl6 hcm f6 hm1 hm2 hm3 hdl hmc hcd hdm hdw hD hN
  go_enter Tryz.func26, Tryz.ntmps26
  go_wp2_with (first
    | (go_at_call 43; refine HS.out.mono ?_; rintro e w1 ⟨rfl, hgb⟩; have HGB : Hid (type_of% hgb) := hgb; clear hgb)
    | (go_at_call 44; refine HGB.out.mono ?_; rintro e w2 ⟨rfl, hpd⟩; have HPD : Hid (PDid PSx F p (midSt st D cuts 0) w w2) := hpd; clear hpd)
    | (go_at_call 45; refine (HNM.out _ _ HPD.out.1).mono ?_; rintro e w3 ⟨ag, cap, rfl, ho3, hb3⟩))
  have H3 : Hid (w3.ownsRow w2.heap.size 9 1 (.slice ag D.length cap) D.length (strV (D.map (·.1))) ∧ Below w2.heap.size w2 w3) := ⟨ho3, hb3⟩
  have hs23 := hb3.size
  have hs02 := HPD.out.2.size
  obtain ⟨L, hL⟩ : ∃ L, L = D.length := ⟨_, rfl⟩
  have HL : Hid (L = D.length) := hL
  rw [← hL] at hDl
  rw [← hL]
  have HEL : Hid (∀ k, ext F w w2 k → k < w2.heap.size) := ext_lt HFL.out hs02
  clear ho3 hb3 c6 hmin hL HS HGB HNM
  go_loopw [23] (fun i wr => ∃ j : Nat, i = .int .i64 j ∧ j ≤ L ∧ (∃ G, PSx G p (midSt st D cuts j) wr ∧ (∀ k, G k → (ext F w w2 k ∨ w3.heap.size ≤ k) ∧ k < wr.heap.size)) ∧ Kp (ext F w w2) w3 wr) (fun i _ => L - (intOf i).toNat)
  case atStart => exact ⟨0, rfl, Nat.zero_le _, ⟨ext F w w2, (psx_below HPD.out.1 H3.out.2).1, fun k hk => ⟨.inl hk, by have := HEL.out k hk; omega⟩⟩, Kp.refl _ _⟩
  case round =>
    obtain ⟨j, rfl, hjl, ⟨G, hps, hG⟩, hkp⟩ := hrel
    have hsr := hkp.size
    by_cases hj : j < L
    · obtain ⟨e, he⟩ : ∃ e, D[j]? = some e := ⟨_, List.getElem?_eq_getElem (by rw [← HL.out]; exact hj)⟩
      obtain ⟨nm, num⟩ := e
      have hmem : (nm, num) ∈ (midSt st D cuts j).now := by rw [mid_now]; exact List.mem_of_getElem? he
      obtain ⟨i, b, x, vd', vt', rfl, hx, hbx, y2, y4, hl1, hl2, hput⟩ := psx_num hps (HWF.out j) hmem
      obtain ⟨g, hag⟩ : ∃ g, ag = some ⟨g, 0, none⟩ := by
        rcases H3.out.1.2 with ⟨h1, h2⟩ | ⟨g, cap', cur, hv, _⟩
        · rw [← HL.out] at h2; omega
        · injection hv with h1; exact ⟨g, h1⟩
      have hcell3 : w3.cell? ⟨g, j, none⟩ = some (.string nm) := by
        have := H3.out.1.cells (g := g) (by rw [hag]; rfl) j (.string nm) (by simp [strV, he])
        rw [add_lit0] at this; exact this
      have hgl : w2.heap.size ≤ g ∧ g < w3.heap.size := H3.out.1.lt g (by rw [hag]; rfl)
      have hgb : wr.heap[g]? = w3.heap[g]? := hkp.block g hgl.2 (fun e => by have := HEL.out g e; omega)
      have xn : wr.cell? ⟨g, 0 + j, none⟩ = some (.string nm) := by
        rw [Nat.zero_add]; exact (World.cell?_of_block (a := ⟨g, j, none⟩) hgb).trans hcell3
      have xn' : wr.cell? ⟨g, j, none⟩ = some (.string nm) := (World.cell?_of_block (a := ⟨g, j, none⟩) hgb).trans hcell3
      have hrow : RowI wr cv cuts := by
        have h2 := HCUT.out.1.kept HPD.out.2 HCUT.out.2
        rcases h2 with h2 | ⟨cb, off, ccap, hcv, hp0, hcc⟩
        · exact .inl h2
        · refine .inr ⟨cb, off, ccap, hcv, hp0, fun q hq => ?_⟩
          have hcb : cb < w.heap.size := by
            rcases HCUT.out.1 with ⟨h5, _⟩ | ⟨cb', off', ccap', hcv', _, hcc'⟩
            · rw [h5] at hp0; simp at hp0
            · rw [hcv] at hcv'; cases hcv'; exact World.block_lt_of_cell? w _ (hcc' q hq)
          have hnF : ¬ F cb := HCUT.out.2 (List.length_pos_iff.1 hp0) cb (by rw [hcv]; rfl)
          have e1 : wr.heap[cb]? = w2.heap[cb]? := (hkp.block cb (by omega) (fun e => by
            rcases e with e | e
            · exact hnF e
            · omega)).trans (H3.out.2.block cb (by omega))
          exact (World.cell?_of_block (a := ⟨cb, off + q, none⟩) e1).trans (hcc q hq)
      have hbod := (HWF.out j).bod x (List.mem_of_getElem? hx)
      have HCO : Hid (∀ W, W.heap = wr.heap → Calls Tryz.prog 47 #[cv, .int .i64 j] W fun e w' => e = .returned (.int .i64 (if cuts = [] then 0 else cuts.getD (j % cuts.length) 0)) ∧ w' = W) := fun W hW => cutOf_c cv cuts j W (by
        rcases hrow with h1 | ⟨cb, off, ccap, h1, h2, h3⟩
        · exact .inl h1
        · exact .inr ⟨cb, off, ccap, h1, h2, fun q hq => (World.cell?_of_block (a := ⟨cb, off + q, none⟩) (by rw [hW])).trans (h3 q hq)⟩) hcl (by omega)
      obtain ⟨kp, hkpv⟩ : ∃ kp, kp = (if cuts = [] then 0 else cuts.getD (j % cuts.length) 0) := ⟨_, rfl⟩
      rw [← hkpv] at HCO
      have HBC : Hid (∀ W, W.heap = wr.heap → W.os = wr.os → W.tape = wr.tape → W.output = wr.output → Calls Tryz.prog 46 #[.pointer (some ⟨b, 0, none⟩), .int .i64 kp] W fun e w' => e = .returned (.tuple #[]) ∧ Hid ((∃ G, PSx G p (midSt st D cuts (j + 1)) w' ∧ (∀ k, G k → (ext F w w2 k ∨ w3.heap.size ≤ k) ∧ k < w'.heap.size)) ∧ Kp (ext F w w2) w3 w')) := fun W hW1 hW2 hW3 hW4 => (bcrash_c b x kp W (hbx.keep (by rw [hW1]) fun k _ => by rw [hW1]) hbod.2 (by omega)).mono (by
        rintro e w' ⟨rfl, hb', ho'⟩
        have hbuf : ∀ q, bufOf W q = bufOf wr q := fun q => bufOf_keep (by rw [hW1])
        have ho : Only b wr w' := ⟨ho'.os.trans hW2, ho'.tape.trans hW3, ho'.output.trans hW4, by rw [← hW1]; exact ho'.size, fun k hk h1 h2 => (ho'.block k (by rw [hW1]; exact hk) h1 (by rw [hbuf]; exact h2)).trans (by rw [hW1]), fun k hk => by
          rcases ho'.buf k hk with h1 | h1
          · exact .inl (by rw [← hbuf]; exact h1)
          · exact .inr (by rw [← hW1]; exact h1)⟩
        obtain ⟨q1, q2⟩ := hput w' _ ho hb'
        rw [hkpv, cutOf_within, mid_step he hx] at q1
        have hs' := q2.size
        refine ⟨rfl, ⟨ext G wr w', q1, fun k hk => ?_⟩, ?_⟩
        · rcases hk with hk | hk
          · obtain ⟨h1, h2⟩ := hG k hk
            exact ⟨h1, by omega⟩
          · exact ⟨.inr (by omega), hk.2⟩
        · exact ⟨q2.os.trans hkp.os, q2.tape.trans hkp.tape, q2.output.trans hkp.output, by omega, fun k hk hne => (q2.block k (by omega) (fun e => by
            rcases (hG k e).1 with h1 | h1
            · exact hne h1
            · omega)).trans (hkp.block k hk hne)⟩)
      subst hag
      have hla := hl1 wr.drew rfl
      have hlb := hl2 wr.drew rfl
      have b1 : decide ((j : Int) < (L : Int)) = true := by simp; omega
      have i1 : (0 : Int) ≤ (j : Int) := by omega
      have i2 : (j : Int) < (L : Int) := by omega
      obtain ⟨M, hM⟩ : ∃ M : Nat, M = i + 1 := ⟨_, rfl⟩
      rw [← hM] at hla hlb
      clear hps hG hkp hsr he hmem hx hbx hl1 hl2 hput hcell3 hgl hgb hrow hbod hkpv hM
      go_wp2_with fail
      go_region_with (first
        | (go_at_call 47; refine (HCO.out _ ?_).mono ?_; rfl; rintro e w' ⟨rfl, hw'⟩; subst w')
        | (go_at_call 46; refine (HBC.out _ ?_ ?_ ?_ ?_).mono ?_; rfl; rfl; rfl; rfl; rintro e w4 ⟨rfl, HR4⟩))
      all_goals
        go_wp2
        exact ⟨⟨j + 1, rfl, by omega, HR4.out.1, HR4.out.2⟩, by simp [intOf]; omega⟩
    · obtain rfl : j = L := by omega
      have b1 : decide ((j : Int) < (j : Int)) = false := by simp
      have HR : Hid (PDid PSx F p (st.crash n cuts) w wr) := by
        rw [HCR.out, ← HL.out]
        refine ⟨psx_mono hps fun k hk => ?_, HPD.out.2.then ((Kp.of_below H3.out.2).trans hkp)⟩
        obtain ⟨h1, h2⟩ := hG k hk
        rcases h1 with (h1 | h1) | h1
        · exact .inl h1
        · exact .inr ⟨h1.1, h2⟩
        · exact .inr ⟨by omega, h2⟩
      clear hps hG hkp hsr
      go_wp2
      go_end0
      exact ⟨rfl, HR.out⟩
theorem crash_p (F : Nat → Prop) (p : Nat) (st : St) (n : Int) (cv : Value) (cuts : List Int) (w : World) (h : PSx F p st w) (hw : Wf st) (hcut : RowI w cv cuts) (hcF : cuts ≠ [] → ∀ k, cv.ownBlock = some k → ¬ F k) (hcl : cuts.length ≤ 4194304) :
    Calls Tryz.prog 26 #[.pointer (some ⟨p, 0, none⟩), .int .i64 n, cv] w fun e w' => e = .returned (.tuple #[]) ∧ PDid PSx F p (st.crash n cuts) w w' :=
  (crash_q (fun k => F k ∧ k < w.heap.size) p st n cv cuts w (psx_small h) hw hcut (fun h1 k h2 h3 => hcF h1 k h2 h3.1) hcl fun k hk => hk.2).mono fun e w' h => ⟨h.1, pdid_wide h.2 fun k hk => hk.1⟩
end Go.Proofs.YtjbphheojfclcaaGreat

-- The program keeps its contracts.
namespace Go.Proofs.YtjbphheojfclcaaGreat
open Go.RowKit
set_option linter.unusedVariables false
theorem pcx : PC PSx where
  same := fun h hk => psx_same h hk
  mono := fun h hG => psx_mono h hG
  new_no := fun c w hc => new_no_p c w hc
  new_c := fun c w hc => new_p c w hc
  create := fun F p st name m0 m1 m2 m3 w h hw => create_p F p st name m0 m1 m2 m3 w h hw
  append := fun F p st n data w h hw hd => append_p F p st n data w h hw hd
  sync := fun F p st n w h hw => sync_p F p st n w h hw
  syncDir := fun F p st w h hw => syncDir_p F p st w h hw
  rename := fun F p st old to w h hw => rename_p F p st old to w h hw
  remove := fun F p st name w h hw => remove_p F p st name w h hw
  crash := fun F p st n cv cuts w h hw hr hF hl => crash_p F p st n cv cuts w h hw hr hF hl
  find := fun F p st name w h hw => find_p F p st name w h hw
  read := fun F p st n w h hw => read_p F p st n w h hw
  names := fun F p st w h hw => names_p F p st w h hw
end Go.Proofs.YtjbphheojfclcaaGreat
