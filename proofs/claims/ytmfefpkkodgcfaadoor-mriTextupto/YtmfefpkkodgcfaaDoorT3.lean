
-- The document's joined.
import Derived.Test.YtmfefpkkodgcfaaDoorM1
namespace Go.Proofs.YtmfefpkkodgcfaaDoor
open Go.ChangeShapes Go.WideShapes Go.ChangeAt Go.RowKit
set_option linter.unusedVariables false
set_option maxRecDepth 100000
set_option linter.unusedSimpArgs false
theorem joinS_take {L : List ByteArray} {k : Nat} {x : ByteArray} (h : L[k]? = some x) : joinS (L.take (k + 1)) = (if k = 0 then x else joinS (L.take k) ++ ⟨#[44, 32]⟩ ++ x) := by
  rw [takeSucc h]
  apply byL_inj
  cases L with
  | nil => simp at h
  | cons y r =>
    cases k with
    | zero => simp at h; subst h; rw [if_pos rfl, List.take_zero, List.nil_append, joinS_cons]; simp
    | succ k =>
      rw [if_neg (by omega), List.take_succ_cons, List.cons_append, joinS_cons, byL_app, byL_app, joinS_cons, List.flatMap_append]
      simp only [List.flatMap_cons, List.flatMap_nil, List.append_nil, List.append_assoc]
      rfl
theorem sumS_take (L : List ByteArray) (k : Nat) : sumS (L.take k) ≤ sumS L := by
  have := congrArg sumS (List.take_append_drop k L)
  have e : ∀ a b : List ByteArray, sumS (a ++ b) = sumS a + sumS b := by intro a b; simp [sumS]
  rw [e] at this
  omega
set_option maxHeartbeats 4000000 in
theorem rjoined_c (v : Value) (L : List ByteArray) (w : World) (h : RowT w v L) (hs : sumS L ≤ 16777216) :
    Calls Tryd.prog 21 #[v] w fun e w' => e = .returned (.string (joinS L)) ∧ w' = w := by
  obtain ⟨a1, c1, q1, _, _⟩ := h.form
  obtain ⟨n, hnn⟩ : ∃ n, n = L.length := ⟨_, rfl⟩
  subst q1
  have HV := hidK h
  have HN := hidK hnn
  have hl := sumS_len L
  have HS := hidK hs
  rw [← hnn] at hl HV ⊢
  have hl2 : n ≤ 16777216 := by omega
  clear h hnn hs hl
  go_enter Tryd.func21, Tryd.ntmps21
  go_wp2
  go_loopw [3, 4] (fun s i wx => ∃ k : Nat, s = .string (joinS (L.take k)) ∧ i = .int .i64 k ∧ k ≤ n ∧ wx = w) (fun _ i _ => n - (intOf i).toNat)
  case atStart => exact ⟨0, rfl, rfl, Nat.zero_le _, rfl⟩
  case round =>
    obtain ⟨k, rfl, rfl, hkn, rfl⟩ := hrel
    by_cases hk : k < n
    · have kI : (k : Int) < (n : Int) := by omega
      have k0 : (0 : Int) ≤ (k : Int) := by omega
      have hkl : k < L.length := by have := HN.out; omega
      obtain ⟨x, hx⟩ : ∃ x, L[k]? = some x := ⟨_, List.getElem?_eq_getElem hkl⟩
      obtain ⟨b1, o1, p1, e1, d0⟩ := HV.out.tx hx
      injection e1 with e1 e1b e1c
      subst e1
      have HX := hidK (joinS_take hx)
      obtain ⟨acc, hacc⟩ : ∃ acc, acc = joinS (L.take k) := ⟨_, rfl⟩
      have hA0 : k = 0 → acc = ⟨#[]⟩ := fun e => by subst e; rw [hacc]; rfl
      have hz := joinS_size (L.take (k + 1))
      have hz2 := sumS_take L (k + 1)
      have hz3 := HS.out
      rw [HX.out] at hz
      rw [← hacc] at HX hz ⊢
      clear hx hkl e1b e1c hacc
      by_cases hk0 : k = 0
      · subst hk0
        obtain rfl := hA0 rfl
        rw [if_pos rfl] at hz
        have HX2 : Hid (joinS (L.take (0 + 1)) = x) := HX.out
        have q1 : ¬ (9223372036854775807 < x.size) := by omega
        rw [Nat.add_zero] at d0
        clear hz hz2 hz3 HX hA0
        go_wp2
        go_roundw
        case rel => exact ⟨1, by have := HX2.out; rw [show (0 + 1 : Nat) = 1 from rfl] at this; rw [this]; exact congrArg Value.string (byL_inj (by rw [byL_app]; rfl)), rfl, by omega, trivial⟩
        case measure => simp [intOf]; omega
      · have k1 : decide ((0 : Int) < (k : Int)) = true := by simp; omega
        rw [if_neg hk0] at hz
        have HX2 : Hid (joinS (L.take (k + 1)) = acc ++ ⟨#[44, 32]⟩ ++ x) := by show _ = _; rw [HX.out, if_neg hk0]
        rw [ByteArray.size_append, ByteArray.size_append, show (⟨#[44, 32]⟩ : ByteArray).size = 2 from rfl] at hz
        have q1 : ¬ (9223372036854775807 < acc.size + 2) := by omega
        have q2 : ¬ (9223372036854775807 < acc.size + 2 + x.size) := by omega
        clear hz hz2 hz3 HX hA0
        go_wp2
        go_roundw
        case rel => exact ⟨k + 1, by rw [HX2.out], by go_num, by omega, trivial⟩
        case measure => simp [intOf]; omega
    · obtain rfl : k = n := by omega
      have HE : Hid (joinS (L.take k) = joinS L) := by show _ = _; rw [HN.out, List.take_length]
      go_wp2
      go_ret
      exact ⟨by rw [← HE.out]; rfl, rfl⟩
end Go.Proofs.YtmfefpkkodgcfaaDoor
