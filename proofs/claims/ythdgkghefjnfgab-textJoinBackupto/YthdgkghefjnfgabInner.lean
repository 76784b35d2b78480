import Derived.Test.YthdgkghefjnfgabQ4
import Derived.WalkSpells
namespace Go.Proofs.Ythdgkghefjnfgab
open Go.RowKit
set_option linter.unusedVariables false
theorem lsq_strB (l : List UInt8) : lsq (strB l) = l := by simp [lsq, strB]
theorem lsq_app (a b : ByteArray) : lsq (a ++ b) = lsq a ++ lsq b := by simp [lsq]
theorem ext_list (l : List UInt8) (a b : Nat) : (strB l).extract a b = strB ((l.drop a).take (b - a)) := by
  have h : ((strB l).extract a b).data.toList = (l.drop a).take (b - a) := by simp [strB]
  cases e : (strB l).extract a b with
  | mk d =>
    rw [e] at h
    simp only [strB, ← h]
theorem size_strB (l : List UInt8) : (strB l).size = l.length := by simp [strB, ByteArray.size]
set_option maxHeartbeats 1000000 in
theorem inner_c (x : ByteArray) (w : World) (hm : x.size ≤ 1048576) :
    Calls Try.prog 9 #[.string x] w fun e w' => e = .returned (.tuple #[.string (strB (bodyL (lsq x))), .bool true]) ∧ Below w.heap.size w w' := by
  have hq := quote_nl (lsq x)
  have el : lsq (⟨#[10]⟩ ++ x) = 10 :: lsq x := by rw [lsq_app]; rfl
  obtain ⟨Q, hQ⟩ : ∃ Q, Q = strB ([34, 92, 110] ++ bodyL (lsq x) ++ [34]) := ⟨_, rfl⟩
  have HQ : Hid (∀ w, Calls Try.prog 8 #[.string (⟨#[10]⟩ ++ x)] w fun e w' => e = .returned (.string Q) ∧ Below w.heap.size w w') := fun w => by
    have hsz : ((⟨#[10]⟩ : ByteArray) ++ x).size ≤ 4194304 := by
      rw [← lsq_len, el]; simp [lsq_len]; omega
    have := quote_c (⟨#[10]⟩ ++ x) w hsz
    rwa [el, hq, ← hQ] at this
  obtain ⟨n, hn⟩ : ∃ n, n = (bodyL (lsq x)).length := ⟨_, rfl⟩
  have hsQ : Q.size = n + 4 := by rw [hQ, size_strB, hn]; simp; try omega
  have hnb : n ≤ 4194304 := by have := bodyL_length _ (lsq x) (Nat.le_refl _); rw [lsq_len] at this; omega
  have HD : Hid (Q = strB ([34, 92, 110] ++ bodyL (lsq x) ++ [34]) ∧ n = (bodyL (lsq x)).length) := ⟨hQ, hn⟩
  have f1 : (Q.extract 0 3).toList = [34, 92, 110] := by
    rw [hQ, ext_list, ByteArray.toList_eq]; simp [strB]
  have hx3 : n + 3 < Q.size := by rw [hsQ]; exact Nat.lt_succ_self _
  have f2 : (((Q[n + 3]'hx3).toNat : Int) != 34) = false := by
    have : Q[n + 3]'hx3 = 34 := by
      rw [at_lsq, hQ, lsq_strB, hn]
      simp [List.getD]
    rw [this]; rfl
  have F3 : Hid (Q.extract 3 (n + 4 - 1) = strB (bodyL (lsq x))) := by
    show _ = _
    rw [hQ, ext_list, hn]
    congr 1
    simp
  clear hQ hq el hn
  go_enter Try.func9, Try.ntmps9
  go_wp2_with (go_at_call 8; refine (HQ.out _).mono ?_; rintro e w1 ⟨rfl, hb1⟩)
  go_ret2
  refine ⟨?_, hb1⟩
  rw [← F3.out]; rfl
end Go.Proofs.Ythdgkghefjnfgab
