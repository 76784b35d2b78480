
-- Plain mathematics: numbers written into fields.
import Derived.Test.YtmlnnbinbbmmhaaDoorPut
namespace Go.Proofs.YtmlnnbinbbmmhaaDoor
set_option linter.unusedVariables false
set_option maxRecDepth 100000
def strL (l : List UInt8) : ByteArray := ⟨l.toArray⟩
theorem strL_size (l : List UInt8) : (strL l).size = l.length := by simp [strL, ByteArray.size]
theorem strL_data (l : List UInt8) : (strL l).data.toList = l := by simp [strL]
theorem strL_append (a b : List UInt8) : strL a ++ strL b = strL (a ++ b) := by
  apply ByteArray.ext; simp [strL]
def pad (B : Nat) (v : Int) (width : Int) : List UInt8 := dg B v.toNat ++ List.replicate (width.toNat - (dg B v.toNat).length) 32
theorem pow8_21 : (8 : Nat) ^ 21 = 9223372036854775808 := by decide
theorem oct_len (u : Nat) (hu : u ≤ 9223372036854775807) : (dg 8 u).length ≤ 21 :=
  (dg_len 8 (by omega) 21 u (big64 8 u (by omega) hu) (by omega)).2 (by rw [pow8_21]; omega)
theorem pow10_19 : (10 : Nat) ^ 19 = 10000000000000000000 := by decide
theorem dec_len (u : Nat) (hu : u ≤ 9223372036854775807) : (dg 10 u).length ≤ 19 :=
  (dg_len 10 (by omega) 19 u (big64 10 u (by omega) hu) (by omega)).2 (by rw [pow10_19]; omega)
theorem len_21 (B u : Nat) (hB : B = 8 ∨ B = 10) (hu : u ≤ 9223372036854775807) : (dg B u).length ≤ 21 := by
  rcases hB with rfl | rfl
  · exact oct_len u hu
  · exact Nat.le_trans (dec_len u hu) (by omega)
def putText (B : Nat) (v width : Int) : ByteArray := if width < 1 ∨ 20 < width then ByteArray.empty else if v < 0 then ByteArray.empty else if width < (dg B v.toNat).length then ByteArray.empty else strL (pad B v width)
def putErr (B : Nat) (v width : Int) : Int := if width < 1 ∨ 20 < width then 12 else if v < 0 then 11 else if width < (dg B v.toNat).length then 11 else 0
theorem cnt_field (B : Nat) (A : List UInt8) (k : Nat) (hA : ∀ x ∈ A, dig B x = true) : cnt B (A ++ List.replicate k 32) = A.length := by
  induction A with
  | nil =>
    cases k with
    | zero => rfl
    | succ k => simp [List.replicate_succ, cnt, dig]
  | cons x t ih =>
    have hx := hA x (by simp)
    rw [List.cons_append, cnt, if_pos hx, ih (fun y hy => hA y (by simp [hy])), List.length_cons]
theorem rd_field (B : Nat) (A : List UInt8) (k : Nat) (hA : ∀ x ∈ A, dig B x = true) (hv : val B 0 A ≤ 9223372036854775807) : rd B (A ++ List.replicate k 32) = (val B 0 A, 0) := by
  have hb : blank (List.replicate k 32) = true := by
    unfold blank; rw [List.all_replicate]; simp
  unfold rd
  rw [cnt_field B A k hA, List.drop_left, hb, if_pos rfl, List.take_left, if_pos hv]
theorem pad_reads (B v width : Nat) (hB : B = 8 ∨ B = 10) (hv : v ≤ 9223372036854775807) : rd B (pad B v width) = (v, 0) := by
  have hB2 : 2 ≤ B ∧ B ≤ 10 ∧ 8 ≤ B := by omega
  have h64 := big64 B v hB2.2.2 hv
  have hval := dg_val B hB2.1 hB2.2.1 v h64
  unfold pad
  rw [Int.toNat_natCast, rd_field B _ _ (dg_dig B hB2.1 hB2.2.1 v h64) (by omega), hval]
theorem pad_len (B v width : Nat) (h : (dg B v).length ≤ width) : (pad B v width).length = width := by
  unfold pad; rw [Int.toNat_natCast, Int.toNat_natCast, List.length_append, List.length_replicate]; omega
end Go.Proofs.YtmlnnbinbbmmhaaDoor
