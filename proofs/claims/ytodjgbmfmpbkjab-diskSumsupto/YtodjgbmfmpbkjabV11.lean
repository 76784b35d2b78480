-- Used: the sum over the bodies that are there.
import Derived.Test.YtodjgbmfmpbkjabV10
namespace Go.Proofs.Ytodjgbmfmpbkjab
open Go.RowKit
set_option linter.unusedVariables false
theorem BodyAt.below {w w' : World} {b : Nat} {x : Bd} (h : BodyAt w b x) {B : Nat} (hb : Below B w w') (hB : w.heap.size ≤ B) : BodyAt w' b x := by
  obtain ⟨cs, hh⟩ := h.blk
  refine h.keep (hb.block b (by have := blk_lt hh; omega)) fun k hk => ?_
  obtain ⟨c, fz, hh'⟩ := h.buf hk
  exact hb.block k (by have := blk_lt hh'; omega)
set_option maxHeartbeats 8000000 in
theorem pused_c (p : Nat) (vt : Value) (T : List (Nat × Nat)) (sz : Nat → Nat) (w : World) (c4 : w.cell? ⟨p, 4, none⟩ = some vt) (hm : MapV (.int .i64) w vt (bv T)) (hb : ∀ e ∈ T, ∃ x, BodyAt w e.2 x ∧ x.data.size = sz e.1) (hs : (T.map fun e => sz e.1).sum ≤ 1099511627776) :
    Calls Try.prog 36 #[.pointer (some ⟨p, 0, none⟩)] w fun e w' => e = .returned (.int .i64 ((T.map fun e => sz e.1).sum : Nat)) ∧ Below w.heap.size w w' := by
  obtain ⟨w1, hr1, hrg1, hb1, hs1⟩ := hm.range (P := Try.prog) Try.underlying63
  obtain ⟨r, hr⟩ : ∃ r, r = w.heap.size := ⟨_, rfl⟩
  rw [← hr] at hr1 hrg1 hb1 hs1 ⊢
  have HR : Hid (r = w.heap.size) := hr
  have HB : Hid (∀ e ∈ T, ∃ x, BodyAt w e.2 x ∧ x.data.size = sz e.1) := hb
  have H1 : Hid (RangeV (.int .i64) w1 vt r (bv T) (bv T) ∧ Below r w w1 ∧ w1.heap.size = r + 1) := ⟨hrg1, hb1, hs1⟩
  obtain ⟨tot, htot⟩ : ∃ n, n = (T.map fun e => sz e.1).sum := ⟨_, rfl⟩
  have HT : Hid (tot = (T.map fun e => sz e.1).sum) := htot
  rw [← htot] at hs ⊢
  clear hm hb hrg1 hb1 hs1 hr htot
  go_enter Try.func36, Try.ntmps36
  go_wp2_with (at_range; refine wp_range _ rfl _ 63 rfl _ _ rfl w1 hr1 ?_)
  go_frame
  clear hr1
  go_loopw [3, 5] (fun a _ wr => ∃ (tl : List (Nat × Nat)) (s : Nat), a = .int .i64 s ∧ RangeV (.int .i64) wr vt r (bv T) (bv tl) ∧ s + (tl.map fun e => sz e.1).sum = tot ∧ (∀ e ∈ tl, e ∈ T) ∧ Below r w wr) (fun _ _ wr => leftV wr vt r)
  case atStart => exact ⟨T, 0, rfl, H1.out.1, by rw [HT.out]; omega, fun _ h => h, H1.out.2.1⟩
  case round =>
    obtain ⟨tl, s, rfl, hrg, hsum, hsub, hbw⟩ := hrel
    have HRG : Hid (RangeV (.int .i64) wr vt r (bv T) (bv tl)) := hrg
    rcases hrg.next (P := Try.prog) with ⟨hl0, hnx⟩ | ⟨pv, left', w2, hper2, _, hnx, hrg2, hgr, hs2, hen⟩
    · have htl : tl = [] := by
        cases tl with
        | nil => rfl
        | cons _ _ => simp [bv] at hl0
      subst htl
      have hst : s = tot := by simpa using hsum
      subst hst
      have HBW : Hid (Below r w wr) := hbw
      clear hrg hl0 hsum hsub hbw
      go_wp2
      go_ret
      exact ⟨rfl, HBW.out⟩
    · obtain ⟨e, tl', hd, rfl, hl'⟩ := map_split (f := fun e : Nat × Nat => (Value.int .i64 e.1, Value.pointer (some ⟨e.2, 0, none⟩))) hper2
      have hrg3 : RangeV (.int .i64) w2 vt r (bv T) (bv tl') := hrg2.perm hl'
      have hein : e ∈ T := hsub e (hd.mem_iff.2 (by simp))
      obtain ⟨n, b⟩ := e
      obtain ⟨x, hx, hxs⟩ := HB.out _ hein
      simp only at hnx hen hx hxs
      have hb2 : Below r w w2 := hbw.grown hgr (by have := HR.out; have := hbw.size; omega) (fun k hk => by cases hk; exact Nat.le_refl _)
      have hx2 : BodyAt w2 b x := hx.below hb2 (by rw [HR.out]; exact Nat.le_refl _)
      have hsum' : s + sz n + (tl'.map fun e => sz e.1).sum = tot := by
        have := (hd.map fun e : Nat × Nat => sz e.1).sum_nat
        rw [List.map_cons, List.sum_cons] at this
        simp only at this
        omega
      have HLE : Hid (BodyAt w2 b x) := hx2
      have H2 : Hid ((∀ e ∈ tl', e ∈ T) ∧ RangeV (.int .i64) w2 vt r (bv T) (bv tl') ∧ Below r w w2 ∧ s + sz n + (tl'.map fun e => sz e.1).sum = tot ∧ tl.length = tl'.length + 1) := ⟨fun f hf => hsub f (hd.mem_iff.2 (List.mem_cons_of_mem _ hf)), hrg3, hb2, hsum', by rw [hd.length_eq]; simp⟩
      have hxl : x.data.size ≤ 1099511627776 ∧ s + x.data.size ≤ 1099511627776 := by omega
      have hwr : IntKind.i64.wrap ((s : Int) + (x.data.size : Int)) = ((s + x.data.size : Nat) : Int) := by rw [wrap_i64 (by omega)]; omega
      have HXS : Hid (x.data.size = sz n) := hxs
      clear hrg hsum hsub hbw hrg2 hgr hs2 hd hl' hper2 hrg3 hx hx2 hb2 hsum' hein hxs
      go_wp2_with (go_at_call 28; refine (blen_c b x _ HLE.out).mono ?_; rintro e w3 ⟨rfl, hw3⟩; subst w3)
      obtain ⟨q1, q2, q3, q4, q5⟩ := H2.out
      refine ⟨⟨tl', s + sz n, by rw [← HXS.out]; simp, q2, q4, q1, q3⟩, ?_⟩
      rw [q2.left_eq, HRG.out.left_eq, bv_len, bv_len]; omega
end Go.Proofs.Ytodjgbmfmpbkjab
