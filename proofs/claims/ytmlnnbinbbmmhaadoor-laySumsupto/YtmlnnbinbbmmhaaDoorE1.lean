
-- names.isOwnField, join, writeNumber, write, say: contracts.
import Derived.Test.YtmlnnbinbbmmhaaDoorE0
import Derived.Test.YtmlnnbinbbmmhaaDoorD1
import Derived.Test.YtmlnnbinbbmmhaaDoorFV
import Derived.Test.YtmlnnbinbbmmhaaDoorRPut
import Derived.WalkSmall
namespace Go.Proofs.YtmlnnbinbbmmhaaDoor
open Go.ChangeShapes Go.WideShapes Go.ChangeAt Go.RowKit
set_option linter.unusedVariables false
set_option maxRecDepth 100000

set_option maxHeartbeats 1000000 in
theorem own_c (s : ByteArray) (w : World) (hs : s.size ≤ maxLen) :
    Calls Tryd.prog 48 #[.string s] w fun e w' => e = .returned (.bool (ownB s.data.toList)) ∧ w' = w := by
  have hl : s.data.toList.length = s.size := by simp
  have HC : Hid (∀ w, Calls Tryd.prog 64 #[.string s, .string ⟨#[32]⟩] w fun e w' => e = .returned (.bool (decide ((32 : UInt8) ∈ s.data.toList))) ∧ w' = w) := fun w => by
    have h := Tryd.strings_Contains_one s 32 w
    have e : decide (0 ≤ Lib.indexByte s.data.toList 32) = decide ((32 : UInt8) ∈ s.data.toList) := by
      have := indexByte_neg s.data.toList 32
      by_cases hm : (32 : UInt8) ∈ s.data.toList
      · rw [decide_eq_true hm, decide_eq_true]
        rcases Int.lt_or_le (Lib.indexByte s.data.toList 32) 0 with h | h
        · exact absurd hm (this.1 h)
        · exact h
      · rw [decide_eq_false hm, decide_eq_false]
        have := this.2 hm; omega
    rw [e] at h; exact h
  unfold ownB
  rw [hl]
  generalize decide ((32 : UInt8) ∈ s.data.toList) = c at *
  by_cases h16 : s.size ≤ 16
  · rw [decide_eq_true h16]
    have g1 : (s.size : Int) ≤ 16 := by omega
    cases c
    · by_cases hd : s.data.toList = fSYMDEF
      · rw [decide_eq_true hd]
        have e : s = ⟨#[95, 95, 46, 83, 89, 77, 68, 69, 70]⟩ := by rw [← strL_of s, hd]; rfl
        subst e
        go_enter Tryd.func48, Tryd.ntmps48
        go_wp2_with (go_at_call 64; refine (HC.out _).mono ?_; rintro e w1 ⟨rfl, hw1⟩; subst w1)
        go_ret
        exact ⟨rfl, rfl⟩
      · rw [decide_eq_false hd]
        have e1 : (s.toList == [95, 95, 46, 83, 89, 77, 68, 69, 70]) = false := by rw [Lib.toList_data]; unfold fSYMDEF at hd; simpa using hd
        have e2 : ¬ s.toList = [95, 95, 46, 83, 89, 77, 68, 69, 70] := by simpa using e1
        clear hd
        go_enter Tryd.func48, Tryd.ntmps48
        go_wp2_with (go_at_call 64; refine (HC.out _).mono ?_; rintro e w1 ⟨rfl, hw1⟩; subst w1)
        go_ret
        exact ⟨by first | rfl | (simp only [e1]; rfl), rfl⟩
    · go_enter Tryd.func48, Tryd.ntmps48
      go_wp2_with (go_at_call 64; refine (HC.out _).mono ?_; rintro e w1 ⟨rfl, hw1⟩; subst w1)
      go_ret
      exact ⟨rfl, rfl⟩
  · rw [decide_eq_false h16]
    have g1 : ¬ (s.size : Int) ≤ 16 := by omega
    go_enter Tryd.func48, Tryd.ntmps48
    go_wp2
    go_ret
    exact ⟨rfl, rfl⟩
theorem join_two (a b : List UInt8) : Lib.join [a, b] [] = a ++ b := by simp [Lib.join]
theorem join_c (bk : Nat) (a b : ByteArray) (w : World) (fr : Nat × Nat) (t : TypeId) (hh : w.heap[bk]? = some (.cells #[.string a, .string b] t fr)) (hs : a.size + b.size ≤ 4194304) :
    Calls Tryd.prog 30 #[.slice (some ⟨bk, 0, none⟩) 2 2] w fun e w' => e = .returned (.string (a ++ b)) ∧ Below w.heap.size w w' := by
  have hla : a.data.toList.length = a.size := by simp
  have hlb : b.data.toList.length = b.size := by simp
  have H : Hid (Calls Tryd.prog 51 #[.slice (some ⟨bk, 0, none⟩) 2 2, .string ⟨#[]⟩] w fun e w' => e = .returned (.string (a ++ b)) ∧ Below w.heap.size w w') := by
    have h := Tryd.strings_Join bk 0 2 [a, b] ⟨#[]⟩ w (fun j x hj => by
      rw [Lib.cell_of_heap hh]
      match j, hj with
      | 0, hj => simp at hj; subst hj; rfl
      | 1, hj => simp at hj; subst hj; rfl) (Array.getElem?_eq_some_iff.1 hh).1 (by simp) (by simp) (by
        show (Lib.join [a.data.toList, b.data.toList] []).length ≤ _
        rw [join_two, List.length_append]; omega)
    have e : (⟨(Lib.join ([a, b].map (·.data.toList)) (⟨#[]⟩ : ByteArray).data.toList).toArray⟩ : ByteArray) = a ++ b := by
      show strL (Lib.join [a.data.toList, b.data.toList] []) = _
      rw [join_two, ← strL_append, strL_of, strL_of]
    rw [e] at h; exact h
  clear hla hlb
  go_enter Tryd.func30, Tryd.ntmps30
  go_wp2_with (go_at_call 51; refine H.out.mono ?_; rintro e w1 ⟨rfl, hb⟩)
  go_ret
  exact ⟨rfl, hb⟩
theorem trim_pad (v width : Nat) : Lib.trimRightB (dg 10 v ++ List.replicate width 32) 32 = dg 10 v ∨ ¬ v ≤ 9223372036854775807 := by
  by_cases hv : v ≤ 9223372036854775807
  · left
    have hb : v < 10 ^ 64 := big64 10 v (by omega) hv
    unfold Lib.trimRightB
    rw [List.reverse_append, List.reverse_replicate]
    have e : ∀ n (l : List UInt8), (List.replicate n 32 ++ l).dropWhile (· == 32) = l.dropWhile (· == 32) := by
      intro n l
      induction n with
      | zero => rfl
      | succ n ih => rw [List.replicate_succ, List.cons_append, List.dropWhile_cons_of_pos (by decide), ih]
    rw [e]
    have hp := dg_pos 10 (by omega) v hb
    have hd := dg_dig 10 (by omega) (by omega) v hb
    have : (dg 10 v).reverse.dropWhile (· == 32) = (dg 10 v).reverse := by
      cases hr : (dg 10 v).reverse with
      | nil => rfl
      | cons c r =>
        have hc : c ∈ dg 10 v := by rw [← List.mem_reverse, hr]; simp
        have := hd c hc
        rw [List.dropWhile_cons_of_neg]
        intro h
        have : c = 32 := by simpa using h
        subst this; revert this; revert hd; simp [dig] at *
    rw [this, List.reverse_reverse]
  · right; exact hv
theorem wnum_c (mark : ByteArray) (n : Nat) (w : World) (hT : Tabs w) (hm : 1 ≤ mark.size) (hm2 : mark.size ≤ 3) (hn : n < 10000000000000) :
    Calls Tryd.prog 49 #[.string mark, .int .i64 n] w fun e w' => e = .returned (.tuple #[.string (mark ++ strL (dg 10 n)), .int .i64 0]) ∧ Below w.heap.size w w' := by
  have hv : n ≤ 9223372036854775807 := by omega
  have hb : n < 10 ^ 64 := big64 10 n (by omega) hv
  have hlen : (dg 10 n).length ≤ 13 := (dg_len 10 (by omega) 13 n hb (by omega)).2 (by omega)
  have hpt : putText 10 n ((16 - mark.size : Nat) : Int) = strL (pad 10 n ((16 - mark.size : Nat) : Int)) := by
    unfold putText
    rw [if_neg (by omega), if_neg (by omega), if_neg (by rw [Int.toNat_natCast]; omega)]
  have hpe : putErr 10 n ((16 - mark.size : Nat) : Int) = 0 := by
    unfold putErr
    rw [if_neg (by omega), if_neg (by omega), if_neg (by rw [Int.toNat_natCast]; omega)]
  have e16 : (16 : Int) - (mark.size : Int) = ((16 - mark.size : Nat) : Int) := by omega
  have HP : Hid (Calls Tryd.prog 65 #[.int .i64 n, .int .i64 (16 - (mark.size : Int))] w fun e w' => e = .returned (.tuple #[.string (strL (pad 10 n ((16 - mark.size : Nat) : Int))), .int .i64 0]) ∧ Below w.heap.size w w') := by
    have := put_10 n ((16 - mark.size : Nat) : Int) w hT (by omega)
    rw [hpt, hpe, ← e16] at this; rw [← e16]; exact this
  have HTr : Hid (∀ w, Calls Tryd.prog 66 #[.string (strL (pad 10 n ((16 - mark.size : Nat) : Int))), .string ⟨#[32]⟩] w fun e w' => e = .returned (.string (strL (dg 10 n))) ∧ w' = w) := fun w => by
    have h := Tryd.strings_TrimRight_one (strL (pad 10 n ((16 - mark.size : Nat) : Int))) 32 (by decide) w (by
      rw [strL_size]; unfold pad; rw [List.length_append, List.length_replicate, Int.toNat_natCast, Int.toNat_natCast]; omega)
    rw [strL_data] at h
    unfold pad at h
    rw [Int.toNat_natCast] at h
    rcases trim_pad n (((16 - mark.size : Nat) : Int).toNat - (dg 10 n).length) with e | e
    · rw [e] at h
      unfold pad
      rw [Int.toNat_natCast]; exact h
    · exact absurd hv e
  have hz : mark.size + (strL (dg 10 n)).size ≤ 4194304 := by rw [strL_size]; omega
  have hsb : (0 : Int) ≤ 16 - (mark.size : Int) := by omega
  have hmi : (mark.size : Int) ≤ 3 := by omega
  clear hpt hpe hlen hb hv hT e16 hn hm hm2
  generalize strL (pad 10 n ((16 - mark.size : Nat) : Int)) = p at *
  generalize strL (dg 10 n) = d at *
  have HJ : Hid (∀ (w : World), Calls Tryd.prog 30 #[.slice (some ⟨w.heap.size, 0, none⟩) 2 2] (w.alloc (.cells #[.string mark, .string d] 9)) fun e w' => e = .returned (.string (mark ++ d)) ∧ Below w.heap.size w w') := fun w =>
    (join_c w.heap.size mark d (w.alloc (.cells #[.string mark, .string d] 9)) _ _ (heap_alloc_new _ _) hz).mono fun e w' ⟨he, hb⟩ => ⟨he, (bup (Below.refl _ _) _).trans (hb.mono (by simp))⟩
  go_enter Tryd.func49, Tryd.ntmps49
  go_wp2_with (first | (go_at_call 65; refine HP.out.mono ?_; rintro e w1 ⟨rfl, hb1⟩) | (go_at_call 66; refine (HTr.out _).mono ?_; rintro e w2 ⟨rfl, hw2⟩; subst w2) | (go_at_call 30; refine (HJ.out _).mono ?_; rintro e w3 ⟨rfl, hb3⟩))
  go_ret2
  exact ⟨rfl, hb1.trans (hb3.mono hb1.size)⟩
def uniqueE1 : Unit := ()
theorem ua_short_short (x : Value) (w : World) : (Instr.typeAssert (.iface 96 x) 69 96 true).run Tryd.prog w = .ok (.tuple #[x, .bool true]) w := by kernel_rfl
theorem ua_short_plain (x : Value) (w : World) : (Instr.typeAssert (.iface 96 x) 69 95 true).run Tryd.prog w = .ok (.tuple #[.string ⟨#[]⟩, .bool false]) w := by kernel_rfl
theorem ua_short_ref (x : Value) (w : World) : (Instr.typeAssert (.iface 96 x) 69 73 true).run Tryd.prog w = .ok (.tuple #[.int .i64 0, .bool false]) w := by kernel_rfl
theorem ua_short_long (x : Value) (w : World) : (Instr.typeAssert (.iface 96 x) 69 79 true).run Tryd.prog w = .ok (.tuple #[.int .i64 0, .bool false]) w := by kernel_rfl
theorem ua_plain_short (x : Value) (w : World) : (Instr.typeAssert (.iface 95 x) 69 96 true).run Tryd.prog w = .ok (.tuple #[.string ⟨#[]⟩, .bool false]) w := by kernel_rfl
theorem ua_plain_plain (x : Value) (w : World) : (Instr.typeAssert (.iface 95 x) 69 95 true).run Tryd.prog w = .ok (.tuple #[x, .bool true]) w := by kernel_rfl
theorem ua_plain_ref (x : Value) (w : World) : (Instr.typeAssert (.iface 95 x) 69 73 true).run Tryd.prog w = .ok (.tuple #[.int .i64 0, .bool false]) w := by kernel_rfl
theorem ua_plain_long (x : Value) (w : World) : (Instr.typeAssert (.iface 95 x) 69 79 true).run Tryd.prog w = .ok (.tuple #[.int .i64 0, .bool false]) w := by kernel_rfl
theorem ua_ref_short (x : Value) (w : World) : (Instr.typeAssert (.iface 73 x) 69 96 true).run Tryd.prog w = .ok (.tuple #[.string ⟨#[]⟩, .bool false]) w := by kernel_rfl
theorem ua_ref_plain (x : Value) (w : World) : (Instr.typeAssert (.iface 73 x) 69 95 true).run Tryd.prog w = .ok (.tuple #[.string ⟨#[]⟩, .bool false]) w := by kernel_rfl
theorem ua_ref_ref (x : Value) (w : World) : (Instr.typeAssert (.iface 73 x) 69 73 true).run Tryd.prog w = .ok (.tuple #[x, .bool true]) w := by kernel_rfl
theorem ua_ref_long (x : Value) (w : World) : (Instr.typeAssert (.iface 73 x) 69 79 true).run Tryd.prog w = .ok (.tuple #[.int .i64 0, .bool false]) w := by kernel_rfl
theorem ua_long_short (x : Value) (w : World) : (Instr.typeAssert (.iface 79 x) 69 96 true).run Tryd.prog w = .ok (.tuple #[.string ⟨#[]⟩, .bool false]) w := by kernel_rfl
theorem ua_long_plain (x : Value) (w : World) : (Instr.typeAssert (.iface 79 x) 69 95 true).run Tryd.prog w = .ok (.tuple #[.string ⟨#[]⟩, .bool false]) w := by kernel_rfl
theorem ua_long_ref (x : Value) (w : World) : (Instr.typeAssert (.iface 79 x) 69 73 true).run Tryd.prog w = .ok (.tuple #[.int .i64 0, .bool false]) w := by kernel_rfl
theorem ua_long_long (x : Value) (w : World) : (Instr.typeAssert (.iface 79 x) 69 79 true).run Tryd.prog w = .ok (.tuple #[x, .bool true]) w := by kernel_rfl
theorem write_short (s : ByteArray) (w : World) (hz : s.size + 1 ≤ 4194304) :
    Calls Tryd.prog 28 #[.iface 96 (.string s)] w fun e w' => e = .returned (.tuple #[.string (s ++ ⟨#[47]⟩), .int .i64 0]) ∧ Below w.heap.size w w' := by
  have U0 := ua_short_short
  have U1 := ua_short_plain
  have U2 := ua_short_ref
  have U3 := ua_short_long
  have HJ : Hid (∀ (w : World), Calls Tryd.prog 30 #[.slice (some ⟨w.heap.size, 0, none⟩) 2 2] (w.alloc (.cells #[.string s, .string ⟨#[47]⟩] 9)) fun e w' => e = .returned (.string (s ++ ⟨#[47]⟩)) ∧ Below w.heap.size w w') := fun w =>
    (join_c w.heap.size s ⟨#[47]⟩ (w.alloc (.cells #[.string s, .string ⟨#[47]⟩] 9)) _ _ (heap_alloc_new _ _) hz).mono fun e w' ⟨he, hb⟩ => ⟨he, (bup (Below.refl _ _) _).trans (hb.mono (by simp))⟩
  go_enter Tryd.func28, Tryd.ntmps28
  go_wp2_with (first | (go_at_call 30; refine (HJ.out _).mono ?_; rintro e w3 ⟨rfl, hb3⟩))
  go_ret2
  exact ⟨rfl, hb3⟩
theorem write_plain (s : ByteArray) (w : World) :
    Calls Tryd.prog 28 #[.iface 95 (.string s)] w fun e w' => e = .returned (.tuple #[.string s, .int .i64 0]) ∧ Below w.heap.size w w' := by
  have U0 := ua_plain_short
  have U1 := ua_plain_plain
  have U2 := ua_plain_ref
  have U3 := ua_plain_long
  go_enter Tryd.func28, Tryd.ntmps28
  go_wp2
  go_ret2
  exact ⟨rfl, Below.refl _ _⟩
theorem write_ref (n : Nat) (w : World) (hT : Tabs w) (hn : n < 10000000000000) :
    Calls Tryd.prog 28 #[.iface 73 (.int .i64 n)] w fun e w' => e = .returned (.tuple #[.string (⟨#[47]⟩ ++ strL (dg 10 n)), .int .i64 0]) ∧ Below w.heap.size w w' := by
  have U0 := ua_ref_short
  have U1 := ua_ref_plain
  have U2 := ua_ref_ref
  have U3 := ua_ref_long
  have HW : Hid (∀ w, Tabs w → Calls Tryd.prog 49 #[.string ⟨#[47]⟩, .int .i64 n] w fun e w' => e = .returned (.tuple #[.string (⟨#[47]⟩ ++ strL (dg 10 n)), .int .i64 0]) ∧ Below w.heap.size w w') := fun w hT => wnum_c ⟨#[47]⟩ n w hT (by decide) (by decide) hn
  go_enter Tryd.func28, Tryd.ntmps28
  go_wp2_with (first | (go_at_call 49; refine (HW.out _ hT).mono ?_; rintro e w3 ⟨rfl, hb3⟩))
  go_ret2
  exact ⟨rfl, hb3⟩
theorem write_long (n : Nat) (w : World) (hT : Tabs w) (hn : n < 10000000000000) :
    Calls Tryd.prog 28 #[.iface 79 (.int .i64 n)] w fun e w' => e = .returned (.tuple #[.string (⟨#[35, 49, 47]⟩ ++ strL (dg 10 n)), .int .i64 0]) ∧ Below w.heap.size w w' := by
  have U0 := ua_long_short
  have U1 := ua_long_plain
  have U2 := ua_long_ref
  have U3 := ua_long_long
  have HW : Hid (∀ w, Tabs w → Calls Tryd.prog 49 #[.string ⟨#[35, 49, 47]⟩, .int .i64 n] w fun e w' => e = .returned (.tuple #[.string (⟨#[35, 49, 47]⟩ ++ strL (dg 10 n)), .int .i64 0]) ∧ Below w.heap.size w w') := fun w hT => wnum_c ⟨#[35, 49, 47]⟩ n w hT (by decide) (by decide) hn
  go_enter Tryd.func28, Tryd.ntmps28
  go_wp2_with (first | (go_at_call 49; refine (HW.out _ hT).mono ?_; rintro e w3 ⟨rfl, hb3⟩))
  go_ret2
  exact ⟨rfl, hb3⟩
/-- what the field of a name says -/
def sayV (k : Int) (s : ByteArray) (t : Nat) : Value :=
  if k = 2 then (if ownB s.data.toList = true then .iface 95 (.string s) else .iface 79 (.int .i64 s.size))
  else if k = 0 ∧ s.data.toList.length ≤ 15 then .iface 96 (.string s) else .iface 73 (.int .i64 t)
theorem say_c (k : Int) (s : ByteArray) (t : Nat) (w : World) (hs : s.size ≤ maxLen) :
    Calls Tryd.prog 26 #[.int .i64 k, .string s, .int .i64 t] w fun e w' => e = .returned (sayV k s t) ∧ w' = w := by
  have HO : Hid (∀ w, Calls Tryd.prog 48 #[.string s] w fun e w' => e = .returned (.bool (ownB s.data.toList)) ∧ w' = w) := fun w => own_c s w hs
  have hl : s.data.toList.length = s.size := by simp
  unfold sayV
  rw [hl]
  by_cases h2 : k = 2
  · subst h2
    rw [if_pos rfl]
    cases ho : ownB s.data.toList
    · rw [ho] at HO
      go_enter Tryd.func26, Tryd.ntmps26
      go_wp2_with (go_at_call 48; refine (HO.out _).mono ?_; rintro e w1 ⟨rfl, hw1⟩; subst w1)
      go_ret
      exact ⟨rfl, rfl⟩
    · rw [ho] at HO
      go_enter Tryd.func26, Tryd.ntmps26
      go_wp2_with (go_at_call 48; refine (HO.out _).mono ?_; rintro e w1 ⟨rfl, hw1⟩; subst w1)
      go_ret
      exact ⟨rfl, rfl⟩
  · rw [if_neg h2]
    have d2 : (k == 2) = false := by simpa using h2
    by_cases h0 : k = 0
    · subst h0
      by_cases h15 : s.size ≤ 15
      · rw [if_pos ⟨rfl, h15⟩]
        have g : (s.size : Int) ≤ 15 := by omega
        go_enter Tryd.func26, Tryd.ntmps26
        go_wp2
        go_ret
        exact ⟨rfl, rfl⟩
      · rw [if_neg (fun h => h15 h.2)]
        have g : ¬ (s.size : Int) ≤ 15 := by omega
        go_enter Tryd.func26, Tryd.ntmps26
        go_wp2
        go_ret
        exact ⟨rfl, rfl⟩
    · rw [if_neg (fun h => h0 h.1)]
      have d0 : (k == 0) = false := by simpa using h0
      go_enter Tryd.func26, Tryd.ntmps26
      go_wp2
      go_ret
      exact ⟨rfl, rfl⟩
end Go.Proofs.YtmlnnbinbbmmhaaDoor
