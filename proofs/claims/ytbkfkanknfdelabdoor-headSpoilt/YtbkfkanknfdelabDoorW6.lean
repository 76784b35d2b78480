
-- shelflaw7.within, fits: contracts.
import Derived.Test.YtbkfkanknfdelabDoorX7
import Derived.Test.YtbkfkanknfdelabDoorO2
namespace Go.Proofs.YtbkfkanknfdelabDoor
open Go.ChangeShapes Go.WideShapes Go.ChangeAt Go.RowKit
set_option linter.unusedVariables false
set_option maxRecDepth 100000

def wi (v m : Int) : Bool := decide (0 ≤ v) && decide (v ≤ m)
theorem within_c (v m : Int) (w : World) :
    Calls Tryd.prog 10 #[.int .i64 v, .int .i64 m] w fun e w' => e = .returned (.bool (wi v m)) ∧ w' = w := by
  unfold wi
  by_cases h0 : 0 ≤ v
  · have b0 : decide (0 ≤ v) = true := by simp; omega
    by_cases h1 : v ≤ m
    · have b1 : decide (v ≤ m) = true := by simp; omega
      rw [b0, b1]
      go_enter Tryd.func10, Tryd.ntmps10
      go_wp2
      go_ret
      exact ⟨rfl, rfl⟩
    · have b1 : decide (v ≤ m) = false := by simp; omega
      rw [b0, b1]
      go_enter Tryd.func10, Tryd.ntmps10
      go_wp2
      go_ret
      exact ⟨rfl, rfl⟩
  · have b0 : decide (0 ≤ v) = false := by simp; omega
    rw [b0]
    go_enter Tryd.func10, Tryd.ntmps10
    go_wp2
    go_ret
    exact ⟨rfl, rfl⟩
set_option maxHeartbeats 1000000 in
theorem fits_core (d u g m s : Int) (n : ByteArray) (w : World) (bn : Bool) (f : Int → Int → Bool)
    (HN : Hid (∀ w, Calls Tryd.prog 9 #[.string n] w fun e w' => e = .returned (.bool bn) ∧ w' = w))
    (HI : Hid (∀ v m w, Calls Tryd.prog 10 #[.int .i64 v, .int .i64 m] w fun e w' => e = .returned (.bool (f v m)) ∧ w' = w)) :
    Calls Tryd.prog 5 #[.agg #[.int .i64 d, .int .i64 u, .int .i64 g, .int .i64 m, .string n, .int .i64 s]] w fun e w' => e = .returned (.bool (bn && (f d 999999999999 && (f u 999999 && (f g 999999 && (f m 16777215 && f s 9999999999)))))) ∧ Below w.heap.size w w' := by
  cases e0 : bn
  · rw [e0] at HN
    go_enter Tryd.func5, Tryd.ntmps5
    go_wp2_with (first | (go_at_call 9; refine (HN.out _).mono ?_; rintro e w1 ⟨rfl, hw1⟩; subst w1) | (go_at_call 10; refine (HI.out _ _ _).mono ?_; rintro e w1 ⟨rfl, hw1⟩; subst w1))
    go_ret
    exact ⟨rfl, bup (Below.refl _ _) _⟩
  rw [e0] at HN
  cases e1 : f d 999999999999
  · go_enter Tryd.func5, Tryd.ntmps5
    go_wp2_with (first | (go_at_call 9; refine (HN.out _).mono ?_; rintro e w1 ⟨rfl, hw1⟩; subst w1) | (go_at_call 10; refine (HI.out _ _ _).mono ?_; rintro e w1 ⟨rfl, hw1⟩; subst w1))
    go_ret
    exact ⟨rfl, bup (Below.refl _ _) _⟩
  cases e2 : f u 999999
  · go_enter Tryd.func5, Tryd.ntmps5
    go_wp2_with (first | (go_at_call 9; refine (HN.out _).mono ?_; rintro e w1 ⟨rfl, hw1⟩; subst w1) | (go_at_call 10; refine (HI.out _ _ _).mono ?_; rintro e w1 ⟨rfl, hw1⟩; subst w1))
    go_ret
    exact ⟨rfl, bup (Below.refl _ _) _⟩
  cases e3 : f g 999999
  · go_enter Tryd.func5, Tryd.ntmps5
    go_wp2_with (first | (go_at_call 9; refine (HN.out _).mono ?_; rintro e w1 ⟨rfl, hw1⟩; subst w1) | (go_at_call 10; refine (HI.out _ _ _).mono ?_; rintro e w1 ⟨rfl, hw1⟩; subst w1))
    go_ret
    exact ⟨rfl, bup (Below.refl _ _) _⟩
  cases e4 : f m 16777215
  · go_enter Tryd.func5, Tryd.ntmps5
    go_wp2_with (first | (go_at_call 9; refine (HN.out _).mono ?_; rintro e w1 ⟨rfl, hw1⟩; subst w1) | (go_at_call 10; refine (HI.out _ _ _).mono ?_; rintro e w1 ⟨rfl, hw1⟩; subst w1))
    go_ret
    exact ⟨rfl, bup (Below.refl _ _) _⟩
  · go_enter Tryd.func5, Tryd.ntmps5
    go_wp2_with (first | (go_at_call 9; refine (HN.out _).mono ?_; rintro e w1 ⟨rfl, hw1⟩; subst w1) | (go_at_call 10; refine (HI.out _ _ _).mono ?_; rintro e w1 ⟨rfl, hw1⟩; subst w1))
    go_ret
    exact ⟨rfl, bup (Below.refl _ _) _⟩
theorem wi_fit (B : Nat) (v : Int) (w : Nat) (mx : Int) (hB : B = 8 ∨ B = 10) (h1 : 1 ≤ w) (hv : v ≤ 9223372036854775807) (hm : mx + 1 = ((B ^ w : Nat) : Int)) : wi v mx = decide (fitN B v w) := by
  unfold wi
  rw [← Bool.decide_and, decide_eq_decide]
  constructor
  · rintro ⟨a, b⟩
    refine ⟨a, (dg_len B (by omega) w v.toNat (big64 B _ (by omega) (by omega)) h1).2 ?_⟩
    omega
  · rintro ⟨a, b⟩
    have := (dg_len B (by omega) w v.toNat (big64 B _ (by omega) (by omega)) h1).1 b
    exact ⟨a, by omega⟩
def takes (h : Hd) : Bool := decide (named h.name.data.toList ∧ fitsH h)
theorem fits_c (h : Hd) (w : World) (hk : HdOk h) :
    Calls Tryd.prog 5 #[.agg (hdC h)] w fun e w' => e = .returned (.bool (takes h)) ∧ Below w.heap.size w w' := by
  have hI := hk.inn
  have hx := fits_core h.date h.uid h.gid h.mode h.size h.name w _ wi (fun w => named_c h.name w hk.2.2.2.2.2) (fun v m w => within_c v m w)
  rw [wi_fit 10 h.date 12 _ (by omega) (by omega) hI.1 (by decide), wi_fit 10 h.uid 6 _ (by omega) (by omega) hI.2.1 (by decide), wi_fit 10 h.gid 6 _ (by omega) (by omega) hI.2.2.1 (by decide), wi_fit 8 h.mode 8 _ (by omega) (by omega) hI.2.2.2.1 (by decide), wi_fit 10 h.size 10 _ (by omega) (by omega) hI.2.2.2.2 (by decide)] at hx
  rw [← Bool.decide_and, ← Bool.decide_and, ← Bool.decide_and, ← Bool.decide_and, ← Bool.decide_and] at hx
  exact hx
end Go.Proofs.YtbkfkanknfdelabDoor
