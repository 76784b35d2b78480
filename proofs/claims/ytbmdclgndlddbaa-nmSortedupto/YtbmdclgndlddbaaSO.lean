
-- slices.SortStableFunc and Reverse, at rows.
import Derived.Test.YtbmdclgndlddbaaSN
namespace Go.Proofs.Ytbmdclgndlddbaa
open Go.ChangeShapes Go.WideShapes Go.ChangeAt Go.RowKit Go.Sort Go.Shelf Go.Lib
set_option linter.unusedVariables false
set_option maxRecDepth 100000
set_option maxHeartbeats 4000000 in
theorem insNil_c (fv : Value) (w : World) :
    Calls Try.prog 26 #[.slice none 0 0, .int .i64 0, .int .i64 0, fv] w fun e w' => e = .returned (.tuple #[]) ∧ w' = w := by
  go_enter Try.func26, Try.ntmps26
  go_wp2
  go_loopw [8] (fun i wx => i = .int .i64 1 ∧ wx = w) (fun _ _ => 0)
  case atStart => exact ⟨rfl, rfl⟩
  case round =>
    obtain ⟨rfl, hw⟩ := hrel
    subst wr
    go_wp2
    go_end0
    exact ⟨rfl, rfl⟩
set_option maxHeartbeats 4000000 in
theorem stableNil_c (cb : Array Value) (w : World) :
    Calls Try.prog 22 #[.slice none 0 0, .int .i64 0, .func (.func 13) #[] cb] w fun e w' => e = .returned (.tuple #[]) ∧ w' = w := by
  have H : Hid (∀ fv, Calls Try.prog 26 #[.slice none 0 0, .int .i64 0, .int .i64 0, fv] w fun e w' => e = .returned (.tuple #[]) ∧ w' = w) := fun fv => insNil_c fv w
  go_enter Try.func22, Try.ntmps22
  go_wp2
  go_loopw [7, 8] (fun a b wx => a = .int .i64 0 ∧ b = .int .i64 20 ∧ wx = w) (fun _ _ _ => 0)
  case atStart => exact ⟨rfl, rfl, rfl⟩
  case round =>
    obtain ⟨rfl, rfl, hw⟩ := hrel
    subst wr
    go_wp2_with (go_at_call 26; refine (H.out _).mono ?_; rintro e w1 ⟨rfl, hw1⟩; subst w1)
    go_loopw [6, 7, 8] (fun s a b wx => s = .int .i64 20 ∧ wx = w) (fun _ _ _ _ => 0)
    case atStart => exact ⟨rfl, rfl⟩
    case round =>
      obtain ⟨rfl, hw⟩ := hrel
      subst wr
      go_wp2
      go_end0
      exact ⟨rfl, rfl⟩
set_option maxHeartbeats 4000000 in
theorem sortNil_c (cb : Array Value) (w : World) :
    Calls Try.prog 12 #[.slice none 0 0, .func (.func 13) #[] cb] w fun e w' => e = .returned (.tuple #[]) ∧ w' = w := by
  have H := hidK (stableNil_c cb w)
  go_enter Try.func12, Try.ntmps12
  go_wp2_with (go_at_call 22; refine H.out.mono ?_; rintro e w1 ⟨rfl, hw1⟩; subst w1)
  go_end0
  exact ⟨rfl, rfl⟩
set_option maxHeartbeats 4000000 in
theorem sortR_c (num : Bool) (F : Nat → Prop) (v : Value) (L : List Rw) (bb : Nat) (w : World) (h : OwR F w v L) (hn : L.length ≤ 1048576) (hne : ∀ g, v.ownBlock = some g → bb ≠ g) (hB : w.cell? ⟨bb, 2, none⟩ = some (.bool num)) :
    Calls Try.prog 12 #[v, .func (.func 13) #[] #[.pointer (some ⟨bb, 0, none⟩)]] w fun e w' => e = .returned (.tuple #[]) ∧ OwR F w' v (ordG (ltR num) L.length L) ∧ Kp (fun k => v.ownBlock = some k) w w' := by
  rcases h.open with ⟨rfl, rfl⟩ | ⟨g, cap, cur, rfl, h1, h2, h3, h4, h5, h6⟩
  · refine (sortNil_c _ w).mono ?_
    rintro e w' ⟨rfl, rfl⟩
    exact ⟨rfl, OwnF.nil, Kp.refl _ _⟩
  · obtain ⟨d, hd⟩ : ∃ d : Array Pr, d = (L.zipIdx 0).toArray := ⟨_, rfl⟩
    have hdl : d.toList = L.zipIdx 0 := by rw [hd]
    have hds : d.size = L.length := by rw [hd]; simp
    have h7 : cur.toList.take (d.size * 8) = d.toList.flatMap encP := by rw [hds, h6, flat_fst, hdl, zip_fst]
    have hH : HoldsK encP 8 w g 0 d := holds_of encP_len h4 h7
    have R : RowK encP 8 w g 0 d := ⟨encP_len, encP_one, hH, (Array.getElem?_eq_some_iff.1 h4).1⟩
    have eg : ∀ args w, (callFunc 13 args).run Try.prog w = .ok (.enter 13 args) w := enters_of Try.func13 (by kernel_rfl) rfl
    have e36 : ∀ args w, (callFunc 26 args).run Try.prog w = .ok (.enter 26 args) w := enters_of Try.func26 (by kernel_rfl) rfl
    have hcmp := cmpLaysR num (g := g) (bb := bb) (w := w) d.size (hne g rfl) hB
    have hI : InsC Try.prog encP 8 w g 0 d 13 #[.pointer (some ⟨bb, 0, none⟩)] cap CP (RoP num) := ins_seg R stlA.aE stlA.zE eg hcmp (cmpP num) cap (by omega)
    have hM : MrgC Try.prog encP 8 w g 0 d 13 #[.pointer (some ⟨bb, 0, none⟩)] cap CP (RoP num) := sym_seg stlA R eg hcmp (cmpP num) cap (by omega)
    have hS := stable_c stlA cap hI hM e36 (by omega) (by rw [hdl]; exact zip_C L 0) (SWK.start hH)
    rw [hds] at hS
    have HS := hidK hS
    have hle : d.size * 8 ≤ cur.size := by rw [h5, hds]; exact Nat.mul_le_mul_right 8 h1
    have HE : Hid (∀ w', (∃ d' : Array Pr, SWK encP 8 w g 0 d' w' ∧ d'.toList.Perm d.toList ∧ d'.toList.Pairwise (RoP num)) → OwR F w' (.slice (some ⟨g, 0, none⟩) L.length cap) (ordG (ltR num) L.length L) ∧ Kp (fun k => (Value.slice (some ⟨g, 0, none⟩) L.length cap).ownBlock = some k) w w') := by
      rintro w' ⟨d', s1, s2, s3⟩
      rw [hdl] at s2
      have hl : d'.toList.length = L.length := by rw [s2.length_eq]; simp
      have hs : d'.size = d.size := by rw [hds, ← hl, Array.length_toList]
      obtain ⟨cur', c1, c2, c3, c4⟩ := row_of encP_len h4 (by rw [hs]; exact hle) s1 (s1.holds R.hblk hH hs)
      rw [flat_fst, stable_one num L s2 s3] at c3
      have e : (ordG (ltR num) L.length L).length * 8 = d'.size * 8 := by rw [ordG_len, hs, hds]
      have hc4 : cur'.toList.take ((ordG (ltR num) L.length L).length * 8) = (ordG (ltR num) L.length L).flatMap rwL := by rw [e]; exact c3
      refine ⟨OwR.close (by rw [ordG_len]) (by rw [ordG_len]; exact h1) h2 h3 c1 (by rw [c2, h5]) hc4, c4.weak (fun b hb => by rw [hb]; rfl)⟩
    clear h hB hne h4 h5 h6 h7 hH R eg hcmp hI hM hS hd hdl hds e36 hle
    go_enter Try.func12, Try.ntmps12
    go_wp2_with (go_at_call 22; refine HS.out.mono ?_; rintro e w1 ⟨rfl, q1⟩; have HQ := hidK q1; clear q1)
    go_end0
    exact ⟨rfl, HE.out _ HQ.out⟩
end Go.Proofs.Ytbmdclgndlddbaa
