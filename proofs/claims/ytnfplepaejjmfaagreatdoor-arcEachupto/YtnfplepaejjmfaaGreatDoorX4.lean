
-- head.Parse: the whole contract.
import Derived.Test.YtnfplepaejjmfaaGreatDoorX3
import Derived.Test.YtnfplepaejjmfaaGreatDoorShelf
namespace Go.Proofs.YtnfplepaejjmfaaGreatDoor
open Go.ChangeShapes Go.WideShapes Go.ChangeAt Go.RowKit
set_option linter.unusedVariables false
set_option maxRecDepth 100000

def hdV (h : Hd) : Value := .agg #[.int .i64 h.date, .int .i64 h.uid, .int .i64 h.gid, .int .i64 h.mode, .string h.name, .int .i64 h.size]
theorem sl60 (b : ByteArray) (n : Nat) (h : n + 60 ≤ b.size) : (b.extract n (n + 60)).data.toList = fld b.data.toList n 60 ∧ (b.extract n (n + 60)).size = 60 := by
  constructor
  · rw [Lib.extract_eq]
    show (((b.data.toList.drop n).take (n + 60 - n)).toArray).toList = _
    rw [show n + 60 - n = 60 from by omega]; rfl
  · rw [ByteArray.size_extract]; omega
theorem fld_max (l : List UInt8) (a n : Nat) (h : n ≤ 60) : (strL (fld l a n)).size ≤ maxLen := by
  rw [strL_size]; unfold fld maxLen; rw [List.length_take]; omega
theorem tail_is (l : List UInt8) : ((strL (fld l 58 2)).toList == [96, 10]) = decide (fld l 58 2 = [96, 10]) := by
  rw [Lib.toList_data, strL_data]
  by_cases h : fld l 58 2 = [96, 10]
  · rw [h]; rfl
  · rw [decide_eq_false h]; simpa using h
theorem parse_c (b : ByteArray) (i : Int) (w : World) (hC : Cols w) (hm : b.size ≤ maxLen) :
    Calls Tryz.prog 35 #[.string b, .int .i64 i] w fun e w' => e = .returned (.tuple #[hdV (parseAt b i).1, .int .i64 (parseAt b i).2]) ∧ Below w.heap.size w w' := by
  unfold parseAt
  by_cases h0 : i < 0
  · rw [if_pos (Or.inl h0)]; exact parse_neg b i w hm h0
  by_cases h1 : (b.size : Int) - 60 < i
  · rw [if_pos (Or.inr h1)]; exact parse_few b i w hm (by omega) h1
  rw [if_neg (by omega)]
  obtain ⟨n, rfl⟩ := Int.eq_ofNat_of_zero_le (show 0 ≤ i by omega)
  rw [Int.toNat_natCast]
  obtain ⟨hd, hs⟩ := sl60 b n (by omega)
  obtain ⟨Hs, hHs⟩ : ∃ Hs, Hs = b.extract n (n + 60) := ⟨_, rfl⟩
  rw [← hHs] at hd hs
  have hsl : ∀ w, (Instr.slice 9 (.string b) (some (.int .i64 (n : Int))) (some (.int .i64 ((n : Int) + 60))) none).run Tryz.prog w = .ok (.string Hs) w := by
    intro w
    rw [run_slice_string w 9 b .i64 .i64 n ((n : Int) + 60) Tryz.underlying9 (by omega) (by omega) (by omega), Int.toNat_natCast, show ((n : Int) + 60).toNat = n + 60 from by omega, hHs]
  have HCut : Hid (∀ w, Cols w → Calls Tryz.prog 57 #[.string Hs] w fun e w' => e = .returned (.agg #[col Hs 0 16, col Hs 16 12, col Hs 28 6, col Hs 34 6, col Hs 40 8, col Hs 48 10, col Hs 58 2]) ∧ Below w.heap.size w w') := fun w hC => cut_c Hs w hC hs
  unfold col at HCut
  rw [hd] at HCut
  generalize fld b.data.toList n 60 = L at HCut ⊢
  unfold parseH
  by_cases ht : fld L 58 2 = [96, 10]
  · rw [if_pos ht]
    have ht' : ((strL (fld L 58 2)).toList == [96, 10]) = true := by rw [tail_is]; exact decide_eq_true ht
    have HR := fun w hC => readNumbers_c (strL (fld L 0 16)) (strL (fld L 16 12)) (strL (fld L 28 6)) (strL (fld L 34 6)) (strL (fld L 40 8)) (strL (fld L 48 10)) (strL (fld L 58 2)) ((rd 10 (fld L 16 12)).1 : Int) ((rd 10 (fld L 28 6)).1 : Int) ((rd 10 (fld L 34 6)).1 : Int) ((rd 8 (fld L 40 8)).1 : Int) ((rd 10 (fld L 48 10)).1 : Int) ((rd 10 (fld L 16 12)).2 : Int) ((rd 10 (fld L 28 6)).2 : Int) ((rd 10 (fld L 34 6)).2 : Int) ((rd 8 (fld L 40 8)).2 : Int) ((rd 10 (fld L 48 10)).2 : Int) w hC
      (fun w => by have h := Rd.dec_any (strL (fld L 16 12)) w (fld_max _ _ _ (by omega)); rw [strL_data] at h; exact h)
      (fun w => by have h := Rd.dec_any (strL (fld L 28 6)) w (fld_max _ _ _ (by omega)); rw [strL_data] at h; exact h)
      (fun w => by have h := Rd.dec_any (strL (fld L 34 6)) w (fld_max _ _ _ (by omega)); rw [strL_data] at h; exact h)
      (fun w => by have h := Rd.oct_any (strL (fld L 40 8)) w (fld_max _ _ _ (by omega)); rw [strL_data] at h; exact h)
      (fun w => by have h := Rd.dec_any (strL (fld L 48 10)) w (fld_max _ _ _ (by omega)); rw [strL_data] at h; exact h)
    by_cases hn : numOk L
    · rw [if_pos hn]
      obtain ⟨q1, q2, q3, q4, q5⟩ := hn
      refine parse_ok b Hs (strL (fld L 0 16)) (strL (fld L 16 12)) (strL (fld L 28 6)) (strL (fld L 34 6)) (strL (fld L 40 8)) (strL (fld L 48 10)) (strL (fld L 58 2)) (strL (trimN (fld L 0 16))) _ _ _ _ _ n w hC hm (by omega) (by omega) hsl HCut ht' (fun w hC => (HR w hC).mono fun e w' h => ?_) (fun w => ?_)
      · rcases h with ⟨_, _, _, _, _, h, hb⟩ | ⟨hno, _⟩
        · exact ⟨h, hb⟩
        · exact absurd ⟨by rw [q1]; rfl, by rw [q2]; rfl, by rw [q3]; rfl, by rw [q4]; rfl, by rw [q5]; rfl⟩ hno
      · have h := Tryz.strings_TrimRight_one (strL (fld L 0 16)) 32 (by decide) w (by have := fld_max L 0 16 (by omega); unfold maxLen at this; omega)
        rw [strL_data] at h; exact h
    · rw [if_neg hn]
      refine parse_bad b Hs (strL (fld L 0 16)) (strL (fld L 16 12)) (strL (fld L 28 6)) (strL (fld L 34 6)) (strL (fld L 40 8)) (strL (fld L 48 10)) (strL (fld L 58 2)) n w hC hm (by omega) (by omega) hsl HCut ht' (fun w hC => (HR w hC).mono fun e w' h => ?_)
      rcases h with ⟨q1, q2, q3, q4, q5, _⟩ | ⟨_, ⟨x, hx, he⟩, hb⟩
      · exact absurd ⟨by omega, by omega, by omega, by omega, by omega⟩ hn
      · exact ⟨x, hx, he, hb⟩
  · rw [if_neg ht]
    have ht' : ((strL (fld L 58 2)).toList == [96, 10]) = false := by rw [tail_is]; exact decide_eq_false ht
    exact parse_tail b Hs (strL (fld L 0 16)) (strL (fld L 16 12)) (strL (fld L 28 6)) (strL (fld L 34 6)) (strL (fld L 40 8)) (strL (fld L 48 10)) (strL (fld L 58 2)) n w hC hm (by omega) (by omega) hsl HCut ht'
end Go.Proofs.YtnfplepaejjmfaaGreatDoor
