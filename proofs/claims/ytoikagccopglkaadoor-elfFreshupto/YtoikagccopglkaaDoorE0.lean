
-- Plain: what chapter 5 says of the bytes of a file.
import Derived.Test.YtoikagccopglkaaDoorN0
namespace Go.Proofs.YtoikagccopglkaaDoor

/-- the byte at i -/
def byt (b : ByteArray) (i : Nat) : Nat := (b.data.toList.getD i 0).toNat
theorem byt_at (b : ByteArray) (i : Nat) (h : i < b.size) : b[i].toNat = byt b i := by
  have hl : i < b.data.toList.length := by simpa using h
  unfold byt
  rw [List.getD_eq_getElem?_getD, List.getElem?_eq_getElem hl]
  rfl
theorem byt_lt (b : ByteArray) (i : Nat) : byt b i < 256 := UInt8.toNat_lt _
theorem byt_out (b : ByteArray) (i : Nat) (h : b.size ≤ i) : byt b i = 0 := by
  have hl : b.data.toList.length ≤ i := by simpa using h
  unfold byt
  rw [List.getD_eq_getElem?_getD, List.getElem?_eq_none hl]
  rfl

/-- 5.1: is it an ELF file by its length and its first four bytes? -/
def isElf (b : ByteArray) : Bool := decide (16 ≤ b.size) && (byt b 0 == 127 && byt b 1 == 69 && byt b 2 == 76 && byt b 3 == 70)
/-- 5.1: the refusal, or 0 -/
def identE (b : ByteArray) : Int :=
  if isElf b = false then 50
  else if byt b 4 ≠ 1 ∧ byt b 4 ≠ 2 then 51
  else if byt b 5 ≠ 1 ∧ byt b 5 ≠ 2 then 52
  else if byt b 6 ≠ 1 then 53 else 0
/-- the class, the order -/
def cls (b : ByteArray) : Nat := 32 * byt b 4
def ord (b : ByteArray) : Int := (byt b 5 : Int) - 1

/-- u2, u4, u8 -/
def num (b : ByteArray) (p n : Nat) (o : Int) : Nat :=
  if o = 1 then beNat ((b.data.toList.drop p).take n) else leNat ((b.data.toList.drop p).take n)
theorem num_lt (b : ByteArray) (p n : Nat) (o : Int) : num b p n o < 256 ^ n := by
  have h1 : ((b.data.toList.drop p).take n).length ≤ n := List.length_take_le _ _
  unfold num
  split
  · have := leNat_lt ((b.data.toList.drop p).take n).reverse
    rw [List.length_reverse] at this
    exact Nat.lt_of_lt_of_le this (Nat.pow_le_pow_right (by omega) h1)
  · exact Nat.lt_of_lt_of_le (leNat_lt _) (Nat.pow_le_pow_right (by omega) h1)
theorem num_lt2 (b : ByteArray) (p : Nat) (o : Int) : num b p 2 o < 65536 := num_lt b p 2 o
theorem num_lt4 (b : ByteArray) (p : Nat) (o : Int) : num b p 4 o < 4294967296 := num_lt b p 4 o
theorem num_lt8 (b : ByteArray) (p : Nat) (o : Int) : num b p 8 o < 18446744073709551616 := num_lt b p 8 o

/-- the class's sizes -/
def headLen (c : Nat) : Nat := if c = 32 then 52 else 64
def entLen (c : Nat) : Nat := if c = 32 then 40 else 64
def wid (c : Nat) : Nat := if c = 32 then 4 else 8

theorem ext_toList (b : ByteArray) (p q : Nat) : (b.extract p q).data.toList = (b.data.toList.take q).drop p := by
  simp [ByteArray.data_extract, List.drop_take]
theorem num_ext (b : ByteArray) (p q k n : Nat) (o : Int) (h : p + k + n ≤ q) : num (b.extract p q) k n o = num b (p + k) n o := by
  have e : (((b.extract p q).data.toList.drop k).take n) = (b.data.toList.drop (p + k)).take n := by
    rw [ext_toList, List.drop_drop, List.drop_take, List.take_take, Nat.min_eq_left (by omega)]
  unfold num
  rw [e]
end Go.Proofs.YtoikagccopglkaaDoor
