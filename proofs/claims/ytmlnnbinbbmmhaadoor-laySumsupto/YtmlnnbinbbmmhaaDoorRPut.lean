
-- shelfref1.digits, put, PutDec, PutOct; num.PutDec, PutOct: contracts.
import Derived.Test.YtmlnnbinbbmmhaaDoorFmt
namespace Go.Proofs.YtmlnnbinbbmmhaaDoor
open Go.ChangeShapes Go.WideShapes Go.ChangeAt Go.RowKit
set_option linter.unusedVariables false
set_option maxRecDepth 100000

def strOfV : Value → ByteArray | .string s => s | _ => ByteArray.empty
def hd (B x : Nat) : List UInt8 := if x = 0 then [] else dg B x
theorem hd_step (B x : Nat) (hB : 2 ≤ B) (hx : x < B ^ 64) : dg B x = hd B (x / B) ++ [dbyte (x % B)] := by
  unfold hd
  by_cases h : x < B
  · rw [if_pos (Nat.div_eq_of_lt h), Nat.mod_eq_of_lt h, dg_one B x h]; rfl
  · have : 0 < x / B := Nat.div_pos (by omega) (by omega)
    rw [if_neg (by omega), dg_more B x hB h hx]
theorem conv1 (w : World) (n : Int) (c : UInt8) (h : n = (c.toNat : Int)) : (convert 65 9 (.slice (some ⟨w.heap.size, 0, none⟩) 1 1)).run Tryd.prog (w.alloc (.cells #[.int .u8 n] 5)) = .ok (.string (strL [c])) (w.alloc (.cells #[.int .u8 n] 5)) := by
  refine run_convert_bytes_back (w.alloc (.cells #[.int .u8 n] 5)) 65 9 5 ⟨w.heap.size, 0, none⟩ 1 [c] Tryd.underlying65 Tryd.underlying5 Tryd.underlying9 (fun j hj => ?_)
  obtain rfl : j = 0 := by simp at hj; omega
  have ea : (⟨w.heap.size, 0, none⟩ : Addr).add 0 = ⟨w.heap.size, 0, none⟩ := by simp [Addr.add]
  rw [ea, World.cell?_alloc_at _ 5 w.heap.size 0 rfl, h]
  rfl
theorem str_eq_of {a b : ByteArray} (h : a = b) : Value.string a = .string b := by rw [h]
theorem blank_next (l : List UInt8) (k : Nat) : strL (l ++ List.replicate k 32) ++ ({ data := #[32] } : ByteArray) = strL (l ++ List.replicate (k + 1) 32) := by
  rw [show ({ data := #[32] } : ByteArray) = strL [32] from rfl, strL_append, List.append_assoc, List.replicate_succ']
-- the document's whole answer
theorem write_10 (v width : Int) (w : World) (hT : Tabs w) (hv : v ≤ 9223372036854775807) :
    Calls Tryd.prog 73 #[.int .i64 v, .int .i64 width, .int .i64 10] w fun e w' => e = .returned (.tuple #[.string (putText 10 v width), .int .i64 (putErr 10 v width)]) ∧ Below w.heap.size w w' := by
  unfold putText putErr
  by_cases h : width < 1 ∨ 20 < width
  · rw [if_pos h, if_pos h]; exact write_range v width 10 w h
  · rw [if_neg h, if_neg h]
    by_cases h0 : v < 0
    · rw [if_pos h0, if_pos h0]; exact write_neg v width 10 w (by omega) (by omega) h0
    · rw [if_neg h0, if_neg h0]
      obtain ⟨n, rfl⟩ := Int.eq_ofNat_of_zero_le (show 0 ≤ v by omega)
      obtain ⟨k, rfl⟩ := Int.eq_ofNat_of_zero_le (show 0 ≤ width by omega)
      have hm := len_21 10 n (by omega) (by omega)
      rw [Int.toNat_natCast]
      by_cases h2 : (k : Int) < (dg 10 n).length
      · rw [if_pos h2, if_pos h2]; exact write_10_wide n k w hT (by omega) (by omega) (by omega) (by omega) (by omega)
      · rw [if_neg h2, if_neg h2]; exact write_10_ok n k w hT (by omega) (by omega) (by omega) (by omega)
theorem put_10 (v width : Int) (w : World) (hT : Tabs w) (hv : v ≤ 9223372036854775807) :
    Calls Tryd.prog 65 #[.int .i64 v, .int .i64 width] w fun e w' => e = .returned (.tuple #[.string (putText 10 v width), .int .i64 (putErr 10 v width)]) ∧ Below w.heap.size w w' := by
  have H : Hid (Calls Tryd.prog 73 #[.int .i64 v, .int .i64 width, .int .i64 10] w fun e w' => e = .returned (.tuple #[.string (putText 10 v width), .int .i64 (putErr 10 v width)]) ∧ Below w.heap.size w w') := write_10 v width w hT hv
  clear hv
  go_enter Tryd.func65, Tryd.ntmps65
  go_wp2_with (go_at_call 73; refine H.out.mono ?_; rintro e w1 ⟨rfl, hb⟩)
  go_ret2
  exact ⟨rfl, hb⟩
theorem write_8 (v width : Int) (w : World) (hT : Tabs w) (hv : v ≤ 9223372036854775807) :
    Calls Tryd.prog 73 #[.int .i64 v, .int .i64 width, .int .i64 8] w fun e w' => e = .returned (.tuple #[.string (putText 8 v width), .int .i64 (putErr 8 v width)]) ∧ Below w.heap.size w w' := by
  unfold putText putErr
  by_cases h : width < 1 ∨ 20 < width
  · rw [if_pos h, if_pos h]; exact write_range v width 8 w h
  · rw [if_neg h, if_neg h]
    by_cases h0 : v < 0
    · rw [if_pos h0, if_pos h0]; exact write_neg v width 8 w (by omega) (by omega) h0
    · rw [if_neg h0, if_neg h0]
      obtain ⟨n, rfl⟩ := Int.eq_ofNat_of_zero_le (show 0 ≤ v by omega)
      obtain ⟨k, rfl⟩ := Int.eq_ofNat_of_zero_le (show 0 ≤ width by omega)
      have hm := len_21 8 n (by omega) (by omega)
      rw [Int.toNat_natCast]
      by_cases h2 : (k : Int) < (dg 8 n).length
      · rw [if_pos h2, if_pos h2]; exact write_8_wide n k w hT (by omega) (by omega) (by omega) (by omega) (by omega)
      · rw [if_neg h2, if_neg h2]; exact write_8_ok n k w hT (by omega) (by omega) (by omega) (by omega)
theorem put_8 (v width : Int) (w : World) (hT : Tabs w) (hv : v ≤ 9223372036854775807) :
    Calls Tryd.prog 95 #[.int .i64 v, .int .i64 width] w fun e w' => e = .returned (.tuple #[.string (putText 8 v width), .int .i64 (putErr 8 v width)]) ∧ Below w.heap.size w w' := by
  have H : Hid (Calls Tryd.prog 73 #[.int .i64 v, .int .i64 width, .int .i64 8] w fun e w' => e = .returned (.tuple #[.string (putText 8 v width), .int .i64 (putErr 8 v width)]) ∧ Below w.heap.size w w') := write_8 v width w hT hv
  clear hv
  go_enter Tryd.func95, Tryd.ntmps95
  go_wp2_with (go_at_call 73; refine H.out.mono ?_; rintro e w1 ⟨rfl, hb⟩)
  go_ret2
  exact ⟨rfl, hb⟩
end Go.Proofs.YtmlnnbinbbmmhaaDoor
