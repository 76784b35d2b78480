
-- strconv.FormatInt to the base 8, walked; to the base 10 and strings.Repeat, off the shelf; num.writeDigits: contracts.
import Derived.Test.YtmlnnbinbbmmhaaDoorRows
import Derived.Test.YtmlnnbinbbmmhaaDoorFld
import Derived.WalkKit
import Derived.ProofKit
import Derived.WalkLawsBesides
import Derived.Laws.BitsAllLaws
import Derived.Lib.IndexBytes
import Derived.WalkSmall
import Derived.Test.YtmlnnbinbbmmhaaDoorShelf
namespace Go.Proofs.YtmlnnbinbbmmhaaDoor
open Go.ChangeShapes Go.WideShapes Go.ChangeAt Go.RowKit
set_option linter.unusedVariables false
set_option maxRecDepth 100000

theorem tz8 (w : World) (ht : w.cell? ⟨6, 7, none⟩ = some (.int .u8 3)) :
    Calls Tryd.prog 108 #[.int .u64 8] w fun e w' => e = .returned (.int .i64 3) ∧ w' = w := by
  have hb : bits .and .u64 8 (IntKind.u64.wrap (-8)) = 8 := by decide +kernel
  go_enter Tryd.func108, Tryd.ntmps108
  go_wp2
  go_ret
  exact ⟨rfl, rfl⟩
theorem pow2_8 (w : World) :
    Calls Tryd.prog 107 #[.int .i64 8] w fun e w' => e = .returned (.bool true) ∧ w' = w := by
  go_enter Tryd.func107, Tryd.ntmps107
  go_wp2
  go_ret
  exact ⟨rfl, rfl⟩
def z65 : Array Value := Array.replicate 65 (.int .u8 0)
theorem zero72 : ∀ w, (zeroValue 161).run Tryd.prog w = .ok (.agg z65) w := fun _ => by kernel_rfl
def tailIsAt (C : Array Value) (p : Nat) (S : List UInt8) : Prop := ∀ j, j < S.length → C[p + j]? = some (.int .u8 ((S.getD j 0).toNat : Int))
theorem digit_at8 (d : Nat) (h : d < 8) : ∀ w, (Instr.index 9 (.string { data := #[48, 49, 50, 51, 52, 53, 54, 55, 56, 57, 97, 98, 99, 100, 101, 102, 103, 104, 105, 106, 107, 108, 109, 110, 111, 112, 113, 114, 115, 116, 117, 118, 119, 120, 121, 122] }) (.int .u64 (d : Int))).run Tryd.prog w = .ok (.int .u8 ((48 + d : Nat) : Int)) w := by
  intro w
  have hc : d = 0 ∨ d = 1 ∨ d = 2 ∨ d = 3 ∨ d = 4 ∨ d = 5 ∨ d = 6 ∨ d = 7 := by omega
  rw [run_index_string w 9 _ .u64 d Tryd.underlying9]
  rcases hc with rfl | rfl | rfl | rfl | rfl | rfl | rfl | rfl
  all_goals rfl
theorem digit_mod8 (x : Nat) : ∀ w, (Instr.index 9 (.string { data := #[48, 49, 50, 51, 52, 53, 54, 55, 56, 57, 97, 98, 99, 100, 101, 102, 103, 104, 105, 106, 107, 108, 109, 110, 111, 112, 113, 114, 115, 116, 117, 118, 119, 120, 121, 122] }) (.int .u64 ((x : Int) % 8))).run Tryd.prog w = .ok (.int .u8 (48 + (x : Int) % 8)) w := by
  intro w
  have h := digit_at8 (x % 8) (Nat.mod_lt _ (by omega)) w
  have e1 : ((x % 8 : Nat) : Int) = (x : Int) % 8 := by omega
  have e2 : ((48 + x % 8 : Nat) : Int) = 48 + (x : Int) % 8 := by omega
  rw [e2, e1] at h
  exact h
theorem len72 : Tryd.prog.arrayLen 161 = 65 := by kernel_rfl
theorem und72 : Tryd.prog.underlying 161 = some (.array (Tryd.prog.arrayLen 161) (Tryd.prog.elem 161)) := by kernel_rfl
theorem size5 : ∀ w, (sizeOf (Tryd.prog.elem 161)).run Tryd.prog w = .ok 1 w := fun _ => by kernel_rfl
theorem slice72 (q b : Nat) (h0 : 1 ≤ q) (h : q < 65) : ∀ w, (Instr.sliceAt 161 (.pointer (some ⟨b, 0, none⟩)) (some (.int .i64 (q : Int))) none none).run Tryd.prog w = .ok (.slice (some ⟨b, q, none⟩) (65 - q) (65 - q)) w := by
  intro w
  rw [run_sliceAt_array_l w 161 ⟨b, 0, none⟩ und72 .i64 q (by omega) (by rw [len72]; omega), size5, len72]
  simp [slicedAt, Result.andThen, Addr.add]
  rw [if_neg (by omega), if_neg (by omega)]
theorem conv65 (w : World) (C : Array Value) (q : Nat) (S : List UInt8) (h0 : 1 ≤ q) (hS : S.length = 65 - q) (h : tailIsAt C q S) :
    (convert 65 9 (.slice (some ⟨w.heap.size, q, none⟩) (65 - q) (65 - q))).run Tryd.prog (w.alloc (.cells C 161)) = .ok (.string ⟨S.toArray⟩) (w.alloc (.cells C 161)) := by
  rw [← hS]
  refine run_convert_bytes_back (w.alloc (.cells C 161)) 65 9 5 ⟨w.heap.size, q, none⟩ S.length S Tryd.underlying65 Tryd.underlying5 Tryd.underlying9 (fun j hj => ?_)
  have h := h j hj
  rw [List.getD_eq_getElem?_getD, List.getElem?_eq_getElem hj] at h
  have ea : (⟨w.heap.size, q, none⟩ : Addr).add j = ⟨w.heap.size, q + j, none⟩ := by cases j <;> simp [Addr.add]
  rw [ea, World.cell?_alloc_at C 161 w.heap.size (q + j) rfl]
  exact h
theorem tail_step (C : Array Value) (p : Nat) (S : List UInt8) (c : UInt8) (n : Int) (hp : p < C.size) (h : tailIsAt C (p + 1) S) (hn : n = (c.toNat : Int)) : tailIsAt (C.setIfInBounds p (.int .u8 n)) p (c :: S) := by
  intro j hj
  cases j with
  | zero => rw [Nat.add_zero, Array.getElem?_setIfInBounds_self_of_lt hp, hn]; rfl
  | succ j =>
    rw [Array.getElem?_setIfInBounds_ne (by omega)]
    have := h j (by simpa using hj)
    rw [show p + (j + 1) = p + 1 + j from by omega]; exact this
theorem and7 (x : Nat) (h : x < 18446744073709551616) : bits .and .u64 (x : Int) 7 = ((x % 8 : Nat) : Int) := by
  have h1 := u64_and_nat x 7 h (by decide)
  rw [nat_mask3] at h1; exact h1
set_option maxHeartbeats 400000 in
theorem fb8 (u : Nat) (w : World) (hu : u ≤ 9223372036854775807) (ht : w.cell? ⟨6, 7, none⟩ = some (.int .u8 3)) (h3 : 6 < w.heap.size) :
    Calls Tryd.prog 93 #[.slice none 0 0, .int .u64 u, .int .i64 8, .bool false, .bool false] w fun e w' => e = .returned (.tuple #[.slice none 0 0, .string ⟨(dg 8 u).toArray⟩]) ∧ Below w.heap.size w w' := by
  have hz := zero72
  have ht2 : ∀ o, (w.alloc o).cell? ⟨6, 7, none⟩ = some (.int .u8 3) := fun o => by rw [World.cell?_alloc_past o 6 7 h3]; exact ht
  have HT : Hid ((dg 8 u).length ≤ 21) := oct_len u hu
  have HU : Hid (u ≤ 9223372036854775807) := hu
  clear ht
  go_enter Tryd.func93, Tryd.ntmps93
  go_wp2_with (first
    | (go_at_call 107; refine (pow2_8 _).mono ?_; rintro e w1 ⟨rfl, hw1⟩; subst w1)
    | (go_at_call 108; refine (tz8 _ (ht2 _)).mono ?_; rintro e w1 ⟨rfl, hw1⟩; subst w1))
  clear ht2 hz h3
  go_loopw [1, 13] (fun a i wx => ∃ (x p : Nat) (S : List UInt8) (C : Array Value), x ≤ 9223372036854775807 ∧ a = .int .u64 x ∧ i = .int .i64 p ∧ p + S.length = 65 ∧ dg 8 u = dg 8 x ++ S ∧ wx = w.alloc (.cells C 161) ∧ C.size = 65 ∧ tailIsAt C p S) (fun a _ _ => (intOf a).toNat)
  case atStart => exact ⟨u, 65, [], z65, HU.out, rfl, rfl, rfl, by simp, rfl, rfl, fun j hj => absurd hj (Nat.not_lt_zero _)⟩
  case round =>
    obtain ⟨x, p, S, C, hx, rfl, rfl, hp, hS, rfl, hC, hT⟩ := hrel
    have h64 := big64 8 x (by omega) hx
    have hpos := dg_pos 8 (by omega) x h64
    have hlen : (dg 8 x).length + S.length ≤ 21 := by have := HT.out; rw [hS, List.length_append] at this; omega
    have HP : Hid (p + S.length = 65) := hp
    have HS : Hid (dg 8 u = dg 8 x ++ S) := hS
    have HC : Hid (C.size = 65) := hC
    have HL : Hid (tailIsAt C p S) := hT
    have hp1 : 45 ≤ p := by omega
    have hp2 : p ≤ 65 := by omega
    clear hp hS hC hT hlen hpos
    obtain ⟨q, rfl⟩ : ∃ q, p = q + 1 := ⟨p - 1, by omega⟩
    obtain ⟨y, hy⟩ : ∃ y, C[q]? = some y := ⟨C[q]'(by rw [HC.out]; omega), Array.getElem?_eq_getElem _⟩
    by_cases hge : 8 ≤ x
    · have hand := and7 x (by omega)
      have hdig := digit_mod8 x
      have HM : Hid (dg 8 x = dg 8 (x / 8) ++ [dbyte (x % 8)]) := dg_more 8 x (by omega) (by omega) h64
      clear h64
      go_wp2
      go_roundw
      case rel =>
        refine ⟨x / 8, q, dbyte (x % 8) :: S, C.setIfInBounds q (.int .u8 (48 + (x : Int) % 8)), by omega, by go_num, rfl, by have := HP.out; simp only [List.length_cons]; omega, by rw [HS.out, HM.out, List.append_assoc]; rfl, rfl, by rw [Array.size_setIfInBounds]; exact HC.out, ?_⟩
        exact tail_step C q S _ _ (by rw [HC.out]; omega) HL.out (by rw [dbyte_toNat _ (by omega)]; omega)
      case measure => simp [intOf]; omega
    · have hdig := digit_at8 x (by omega)
      have HM : Hid (dg 8 x = [dbyte (x)]) := dg_one 8 x (by omega)
      have hT2 : tailIsAt (C.setIfInBounds q (.int .u8 (48 + (x : Int)))) q (dbyte (x) :: S) :=
        tail_step C q S _ _ (by rw [HC.out]; omega) HL.out (by rw [dbyte_toNat _ (by omega)]; omega)
      have hsl := slice72 q w.heap.size (by omega) (by omega)
      have hcv := conv65 w (C.setIfInBounds q (.int .u8 (48 + (x : Int)))) q (dbyte (x) :: S) (by omega) (by have := HP.out; simp only [List.length_cons]; omega) hT2
      clear h64 hT2
      go_wp2
      go_ret2
      exact ⟨by rw [HS.out, HM.out]; rfl, (Below.refl _ _).alloc (Nat.le_refl _) _⟩

theorem fi8 (v : Nat) (w : World) (hv : v ≤ 9223372036854775807) (ht : w.cell? ⟨6, 7, none⟩ = some (.int .u8 3)) (h3 : 6 < w.heap.size) :
    Calls Tryd.prog 84 #[.int .i64 v, .int .i64 8] w fun e w' => e = .returned (.string ⟨(dg 8 v).toArray⟩) ∧ Below w.heap.size w w' := by
  have H : Hid (∀ w, w.cell? ⟨6, 7, none⟩ = some (.int .u8 3) → 6 < w.heap.size → Calls Tryd.prog 93 #[.slice none 0 0, .int .u64 v, .int .i64 8, .bool false, .bool false] w fun e w' => e = .returned (.tuple #[.slice none 0 0, .string ⟨(dg 8 v).toArray⟩]) ∧ Below w.heap.size w w') :=
    fun w h1 h2 => fb8 v w hv h1 h2
  have hn : decide ((v : Int) < 0) = false := by simp
  go_enter Tryd.func84, Tryd.ntmps84
  go_wp2_with (first | (go_at_call 93; refine (H.out _ ht h3).mono ?_; rintro e w1 ⟨rfl, hb⟩) | go_in)
  go_ret
  exact ⟨rfl, hb⟩

theorem below_grown (w : World) (k : Nat) (os : Array Obj) : Below w.heap.size w (Sort.grow (w.drewN k) os) :=
  ⟨rfl, rfl, rfl, by show w.heap.size ≤ (w.heap ++ os).size; rw [Array.size_append]; omega, fun j hj => by show (w.heap ++ os)[j]? = w.heap[j]?; rw [Array.getElem?_append_left hj]⟩
-- what the three tables are for: the powers of ten, and the one cell that bits.TrailingZeros(8) reads
structure Tabs (w : World) : Prop where
  t10 : Lib.TabIs Tryd.prog w "internal/strconv.uint64pow10" .u64 Lib.pow10Tab
  t8 : w.cell? ⟨6, 7, none⟩ = some (.int .u8 3)
  h3 : 6 < w.heap.size
theorem gPow : Tryd.prog.globalNamed "internal/strconv.uint64pow10" = some 2 := by kernel_rfl
theorem Tabs.on {w w' : World} (h : Tabs w) (b : Below w.heap.size w w') : Tabs w' :=
  ⟨var?_below b gPow (Nat.lt_trans (by omega) h.h3) h.t10, (b.cell (p := ⟨6, 7, none⟩) h.h3).trans h.t8, Nat.lt_of_lt_of_le h.h3 b.size⟩
theorem dec_dg (v : Nat) : v < 10 ^ 64 → Lib.decDigits v = dg 10 v := by
  refine dg_ind 10 (by omega) (fun v => v < 10 ^ 64 → Lib.decDigits v = dg 10 v) ?_ ?_ v
  · intro v h _; rw [Lib.decDigits_one h, dg_one 10 v h]; rfl
  · intro v h ih hv
    have hlt : v / 10 < 10 ^ 64 := Nat.lt_of_le_of_lt (Nat.div_le_self _ _) hv
    rw [Lib.decDigits, dif_neg h, ih hlt, dg_more 10 v (by omega) h hv]; rfl
theorem fi10 (v : Nat) (w : World) (hv : v ≤ 9223372036854775807) (hT : Tabs w) :
    Calls Tryd.prog 84 #[.int .i64 v, .int .i64 10] w fun e w' => e = .returned (.string ⟨(dg 10 v).toArray⟩) ∧ Below w.heap.size w w' := by
  refine (Tryd.strconv_FormatInt_10 v (by omega) (by omega) w hT.t10).mono fun e w' ⟨he, k, os, hw⟩ => ?_
  refine ⟨?_, by rw [hw]; exact below_grown w k os⟩
  rw [he, ← dec_dg v (big64 10 v (by omega) hv)]
  unfold Lib.itoa
  rw [if_neg (by omega), Int.toNat_natCast]
theorem rep_blank : ∀ k, Lib.repeatL [32] k = List.replicate k 32
  | 0 => rfl
  | k + 1 => by rw [Lib.repeatL, rep_blank k, List.replicate_succ]; rfl
theorem blanks (k : Nat) (w : World) (hk : k ≤ 20) :
    Calls Tryd.prog 85 #[.string { data := #[32] }, .int .i64 k] w fun e w' => e = .returned (.string ⟨(List.replicate k (32 : UInt8)).toArray⟩) ∧ Below w.heap.size w w' := by
  have hs : ({ data := #[32] } : ByteArray).size = 1 := rfl
  have h := Tryd.strings_Repeat { data := #[32] } k w (by omega) (by rw [hs]; omega)
  rw [show ({ data := #[32] } : ByteArray).data.toList = [32] from rfl, rep_blank] at h
  exact h
-- the document's answer: the text and the number of the error
theorem bel2 {w a b : World} (h : Below w.heap.size w a) (k : Below a.heap.size a b) : Below w.heap.size w b := h.trans (k.mono h.size)
theorem write_range (v width base : Int) (w : World) (h : width < 1 ∨ 20 < width) :
    Calls Tryd.prog 73 #[.int .i64 v, .int .i64 width, .int .i64 base] w fun e w' => e = .returned (.tuple #[.string ByteArray.empty, .int .i64 12]) ∧ Below w.heap.size w w' := by
  by_cases h1 : width < 1
  · have b1 : decide (width < 1) = true := by simp; omega
    go_enter Tryd.func73, Tryd.ntmps73
    go_wp2
    go_ret2
    exact ⟨rfl, Below.refl _ _⟩
  · have b1 : decide (width < 1) = false := by simp; omega
    have b2 : decide (20 < width) = true := by simp; omega
    clear h h1
    go_enter Tryd.func73, Tryd.ntmps73
    go_wp2
    go_ret2
    exact ⟨rfl, Below.refl _ _⟩
theorem write_neg (v width base : Int) (w : World) (h1 : 1 ≤ width) (h2 : width ≤ 20) (hv : v < 0) :
    Calls Tryd.prog 73 #[.int .i64 v, .int .i64 width, .int .i64 base] w fun e w' => e = .returned (.tuple #[.string ByteArray.empty, .int .i64 11]) ∧ Below w.heap.size w w' := by
  have b1 : decide (width < 1) = false := by simp; omega
  have b2 : decide (20 < width) = false := by simp; omega
  have b3 : decide (v < 0) = true := by simp; omega
  go_enter Tryd.func73, Tryd.ntmps73
  go_wp2
  go_ret2
  exact ⟨rfl, Below.refl _ _⟩

theorem write_10_wide (v width : Nat) (w : World) (hT : Tabs w) (hv : v ≤ 9223372036854775807) (h1 : 1 ≤ width) (h2 : width ≤ 20) (hl : width < (dg 10 v).length) (hm : (dg 10 v).length ≤ 30) :
    Calls Tryd.prog 73 #[.int .i64 v, .int .i64 width, .int .i64 10] w fun e w' => e = .returned (.tuple #[.string ByteArray.empty, .int .i64 11]) ∧ Below w.heap.size w w' := by
  have HF : Hid (∀ w, Tabs w → Calls Tryd.prog 84 #[.int .i64 v, .int .i64 10] w fun e w' => e = .returned (.string (strL (dg 10 v))) ∧ Below w.heap.size w w') := fun w hT => fi10 v w hv hT
  have b1 : decide ((width : Int) < 1) = false := by simp; omega
  have b2 : decide ((20 : Int) < width) = false := by simp; omega
  have b3 : decide ((v : Int) < 0) = false := by simp
  have hsz := strL_size (dg 10 v)
  go_enter Tryd.func73, Tryd.ntmps73
  go_wp2_with (first | (go_at_call 84; refine (HF.out _ hT).mono ?_; rintro e w1 ⟨rfl, hb⟩))
  go_ret2
  exact ⟨rfl, hb⟩
theorem write_10_ok (v width : Nat) (w : World) (hT : Tabs w) (hv : v ≤ 9223372036854775807) (h1 : 1 ≤ width) (h2 : width ≤ 20) (hl : (dg 10 v).length ≤ width) :
    Calls Tryd.prog 73 #[.int .i64 v, .int .i64 width, .int .i64 10] w fun e w' => e = .returned (.tuple #[.string (strL (pad 10 v width)), .int .i64 0]) ∧ Below w.heap.size w w' := by
  obtain ⟨k, hk⟩ : ∃ k : Nat, k = width - (dg 10 v).length := ⟨_, rfl⟩
  have ek : (width : Int) - ((dg 10 v).length : Int) = (k : Int) := by omega
  have HR : Hid (∀ w, Calls Tryd.prog 85 #[.string { data := #[32] }, .int .i64 k] w fun e w' => e = .returned (.string (strL (List.replicate k 32))) ∧ Below w.heap.size w w') := fun w => blanks k w (by omega)
  have HP : Hid (strL (dg 10 v) ++ strL (List.replicate k 32) = strL (pad 10 v width)) := by
    show strL (dg 10 v) ++ strL (List.replicate k 32) = strL (pad 10 v width)
    rw [strL_append, hk]; unfold pad; rw [Int.toNat_natCast, Int.toNat_natCast]
  have hsr : (strL (List.replicate k 32)).size = k := by rw [strL_size, List.length_replicate]
  have hk20 : k ≤ 20 := by omega
  have HF : Hid (∀ w, Tabs w → Calls Tryd.prog 84 #[.int .i64 v, .int .i64 10] w fun e w' => e = .returned (.string (strL (dg 10 v))) ∧ Below w.heap.size w w') := fun w hT => fi10 v w hv hT
  have b1 : decide ((width : Int) < 1) = false := by simp; omega
  have b2 : decide ((20 : Int) < width) = false := by simp; omega
  have b3 : decide ((v : Int) < 0) = false := by simp
  have hsz := strL_size (dg 10 v)
  clear hk
  go_enter Tryd.func73, Tryd.ntmps73
  go_wp2_with (first | (go_at_call 84; refine (HF.out _ hT).mono ?_; rintro e w1 ⟨rfl, hb⟩) | (go_at_call 85; refine (HR.out _).mono ?_; rintro e w2 ⟨rfl, hb2⟩))
  go_ret2
  exact ⟨by rw [← HP.out]; rfl, bel2 hb hb2⟩

theorem write_8_wide (v width : Nat) (w : World) (hT : Tabs w) (hv : v ≤ 9223372036854775807) (h1 : 1 ≤ width) (h2 : width ≤ 20) (hl : width < (dg 8 v).length) (hm : (dg 8 v).length ≤ 30) :
    Calls Tryd.prog 73 #[.int .i64 v, .int .i64 width, .int .i64 8] w fun e w' => e = .returned (.tuple #[.string ByteArray.empty, .int .i64 11]) ∧ Below w.heap.size w w' := by
  have HF : Hid (∀ w, Tabs w → Calls Tryd.prog 84 #[.int .i64 v, .int .i64 8] w fun e w' => e = .returned (.string (strL (dg 8 v))) ∧ Below w.heap.size w w') := fun w hT => fi8 v w hv hT.t8 hT.h3
  have b1 : decide ((width : Int) < 1) = false := by simp; omega
  have b2 : decide ((20 : Int) < width) = false := by simp; omega
  have b3 : decide ((v : Int) < 0) = false := by simp
  have hsz := strL_size (dg 8 v)
  go_enter Tryd.func73, Tryd.ntmps73
  go_wp2_with (first | (go_at_call 84; refine (HF.out _ hT).mono ?_; rintro e w1 ⟨rfl, hb⟩))
  go_ret2
  exact ⟨rfl, hb⟩
theorem write_8_ok (v width : Nat) (w : World) (hT : Tabs w) (hv : v ≤ 9223372036854775807) (h1 : 1 ≤ width) (h2 : width ≤ 20) (hl : (dg 8 v).length ≤ width) :
    Calls Tryd.prog 73 #[.int .i64 v, .int .i64 width, .int .i64 8] w fun e w' => e = .returned (.tuple #[.string (strL (pad 8 v width)), .int .i64 0]) ∧ Below w.heap.size w w' := by
  obtain ⟨k, hk⟩ : ∃ k : Nat, k = width - (dg 8 v).length := ⟨_, rfl⟩
  have ek : (width : Int) - ((dg 8 v).length : Int) = (k : Int) := by omega
  have HR : Hid (∀ w, Calls Tryd.prog 85 #[.string { data := #[32] }, .int .i64 k] w fun e w' => e = .returned (.string (strL (List.replicate k 32))) ∧ Below w.heap.size w w') := fun w => blanks k w (by omega)
  have HP : Hid (strL (dg 8 v) ++ strL (List.replicate k 32) = strL (pad 8 v width)) := by
    show strL (dg 8 v) ++ strL (List.replicate k 32) = strL (pad 8 v width)
    rw [strL_append, hk]; unfold pad; rw [Int.toNat_natCast, Int.toNat_natCast]
  have hsr : (strL (List.replicate k 32)).size = k := by rw [strL_size, List.length_replicate]
  have hk20 : k ≤ 20 := by omega
  have HF : Hid (∀ w, Tabs w → Calls Tryd.prog 84 #[.int .i64 v, .int .i64 8] w fun e w' => e = .returned (.string (strL (dg 8 v))) ∧ Below w.heap.size w w') := fun w hT => fi8 v w hv hT.t8 hT.h3
  have b1 : decide ((width : Int) < 1) = false := by simp; omega
  have b2 : decide ((20 : Int) < width) = false := by simp; omega
  have b3 : decide ((v : Int) < 0) = false := by simp
  have hsz := strL_size (dg 8 v)
  clear hk
  go_enter Tryd.func73, Tryd.ntmps73
  go_wp2_with (first | (go_at_call 84; refine (HF.out _ hT).mono ?_; rintro e w1 ⟨rfl, hb⟩) | (go_at_call 85; refine (HR.out _).mono ?_; rintro e w2 ⟨rfl, hb2⟩))
  go_ret2
  exact ⟨by rw [← HP.out]; rfl, bel2 hb hb2⟩
end Go.Proofs.YtmlnnbinbbmmhaaDoor
