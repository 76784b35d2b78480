-- Two lists of files that are alike.
import Derived.Test.YtodjgbmfmpbkjaaG3
import Derived.Deep.QuietTactic
import Derived.BigQuiet
namespace Go.Proofs.Ytodjgbmfmpbkjaa
open Go.RowKit
set_option linter.unusedVariables false
/-- A slice of files reads as this list. -/
def RowF (w : World) (v : Value) (l : List Fl) : Prop :=
  (l = [] ∧ ∃ ao c, v = .slice ao 0 c) ∨ ∃ b cap, v = .slice (some ⟨b, 0, none⟩) l.length cap ∧ ∀ k f, l[k]? = some f → ∀ j x, f.v[j]? = some x → w.cell? ⟨b, k * 9 + j, none⟩ = some x
theorem flsV_at (l : List Fl) (k : Nat) (f : Fl) (h : l[k]? = some f) (j : Nat) (x : Value) (hx : f.v[j]? = some x) : (flsV l)[k * 9 + j]? = some x := by
  induction l generalizing k with
  | nil => simp at h
  | cons a r ih =>
    have hl : ∀ g : Fl, g.v.length = 9 := fun g => rfl
    have hj : j < 9 := by rw [← hl f]; exact (List.getElem?_eq_some_iff.1 hx).1
    have e : flsV (a :: r) = a.v ++ flsV r := by unfold flsV; rw [List.flatMap_cons]
    rw [e]
    cases k with
    | zero =>
      simp at h; subst h
      rw [List.getElem?_append_left (by rw [hl]; omega)]
      simpa using hx
    | succ k =>
      rw [List.getElem?_append_right (by rw [hl]; omega), hl, show (k + 1) * 9 + j - 9 = k * 9 + j by omega]
      exact ih k (by simpa using h)
theorem RowF.of_own {w : World} {B : Nat} {v : Value} {l : List Fl} {t : TypeId} (h : w.ownsRow B t 9 v l.length (flsV l)) : RowF w v l := by
  rcases h.2 with ⟨rfl, h0⟩ | ⟨g, cap, cur, rfl, _⟩
  · exact .inl ⟨List.eq_nil_of_length_eq_zero h0, _, _, rfl⟩
  · refine .inr ⟨g, cap, rfl, fun k f hk j x hx => ?_⟩
    have := h.cells (g := g) rfl (k * 9 + j) x (flsV_at l k f hk j x hx)
    have e : (⟨g, 0, none⟩ : Addr).add (k * 9 + j) = ⟨g, k * 9 + j, none⟩ := by
      unfold Addr.add
      split
      · simp_all
      · simp
    rw [e] at this; exact this
theorem RowF.form {w : World} {v : Value} {l : List Fl} (h : RowF w v l) : ∃ ao cap, v = .slice ao l.length cap := by
  rcases h with ⟨rfl, ao, c, rfl⟩ | ⟨b, cap, rfl, _⟩
  · exact ⟨ao, c, rfl⟩
  · exact ⟨_, _, rfl⟩
set_option maxHeartbeats 4000000 in
theorem sameFiles_c (va vb : Value) (l : List Fl) (w : World) (ha : RowF w va l) (hb : RowF w vb l) (hl : l.length ≤ 4194304) :
    Calls Try.prog 31 #[va, vb] w fun e w' => e = .returned (.bool true) ∧ ∃ n, w' = w.drewN n := by
  obtain ⟨ao, cap, rfl⟩ := ha.form
  obtain ⟨ao', cap', rfl⟩ := hb.form
  obtain ⟨n, hn⟩ : ∃ n, n = l.length := ⟨_, rfl⟩
  have HA : Hid (RowF w (.slice ao l.length cap) l ∧ RowF w (.slice ao' l.length cap') l ∧ n = l.length) := ⟨ha, hb, hn⟩
  rw [← hn] at hl ⊢
  clear ha hb hn
  go_enter Try.func31, Try.ntmps31
  go_wp2
  go_loopw [5] (fun i wx => ∃ k : Nat, i = .int .i64 k ∧ k ≤ n ∧ ∃ m, wx = w.drewN m) (fun i _ => n - (intOf i).toNat)
  case atStart => exact ⟨0, rfl, Nat.zero_le _, 0, rfl⟩
  case round =>
    obtain ⟨k, rfl, hkn, m, rfl⟩ := hrel
    by_cases hk : k < n
    · have b1 : decide ((k : Int) < (n : Int)) = true := by simp; omega
      have kI : (k : Int) < (n : Int) := by omega
      have kl : k < l.length := by rw [← HA.out.2.2]; exact hk
      obtain ⟨f, hf⟩ : ∃ f, l[k]? = some f := ⟨_, List.getElem?_eq_getElem kl⟩
      obtain ⟨b, rfl, ca⟩ : ∃ b, ao = some ⟨b, 0, none⟩ ∧ ∀ j x, f.v[j]? = some x → w.cell? ⟨b, k * 9 + j, none⟩ = some x := by
        rcases HA.out.1 with ⟨h0, _⟩ | ⟨b, c, hv, hc⟩
        · rw [h0] at kl; simp at kl
        · cases hv; exact ⟨b, rfl, hc k f hf⟩
      obtain ⟨b', rfl, cb⟩ : ∃ b, ao' = some ⟨b, 0, none⟩ ∧ ∀ j x, f.v[j]? = some x → w.cell? ⟨b, k * 9 + j, none⟩ = some x := by
        rcases HA.out.2.1 with ⟨h0, _⟩ | ⟨b, c, hv, hc⟩
        · rw [h0] at kl; simp at kl
        · cases hv; exact ⟨b, rfl, hc k f hf⟩
      obtain ⟨name, num, ⟨date, uid, gid, mode, data, safe⟩⟩ := f
      have a0 := ca 0 _ rfl
      have a1 := ca 1 _ rfl
      have a2 := ca 2 _ rfl
      have a3 := ca 3 _ rfl
      have a4 := ca 4 _ rfl
      have a5 := ca 5 _ rfl
      have a6 := ca 6 _ rfl
      have a7 := ca 7 _ rfl
      have a8 := ca 8 _ rfl
      have c0 := cb 0 _ rfl
      have c1 := cb 1 _ rfl
      have c2 := cb 2 _ rfl
      have c3 := cb 3 _ rfl
      have c4 := cb 4 _ rfl
      have c5 := cb 5 _ rfl
      have c6 := cb 6 _ rfl
      have c7 := cb 7 _ rfl
      have c8 := cb 8 _ rfl
      simp only [Nat.add_zero] at a0 c0
      clear ca cb hf kl
      go_wp2_with fail
      go_quiet (fail)
      go_wp2
      go_roundw
      case rel => exact ⟨k + 1, by go_num, by omega, m + nq, rfl⟩
      case measure => simp [intOf]; omega
    · obtain rfl : k = n := by omega
      have b1 : decide ((k : Int) < (k : Int)) = false := by simp
      go_wp2
      go_ret
      exact ⟨rfl, m, rfl⟩
end Go.Proofs.Ytodjgbmfmpbkjaa
