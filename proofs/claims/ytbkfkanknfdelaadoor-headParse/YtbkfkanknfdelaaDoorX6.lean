
-- shelfref7.Parse: the whole contract.
import Derived.Test.YtbkfkanknfdelaaDoorX5
namespace Go.Proofs.YtbkfkanknfdelaaDoor
open Go.ChangeShapes Go.WideShapes Go.ChangeAt Go.RowKit
set_option linter.unusedVariables false
set_option maxRecDepth 100000

theorem slice_fld (H : ByteArray) (L : List UInt8) (hL : H.data.toList = L) (a n : Nat) (h : a + n ≤ H.size) : ∀ w, (Instr.slice 9 (.string H) (some (.int .i64 (a : Int))) (some (.int .i64 ((a + n : Nat) : Int))) none).run Tryd.prog w = .ok (.string (strL (fld L a n))) w := by
  intro w
  have h := slice_col H a n h w
  rw [h]; unfold col; rw [hL]
theorem slice_f0 (H : ByteArray) (L : List UInt8) (hL : H.data.toList = L) (n : Nat) (h : n ≤ H.size) : ∀ w, (Instr.slice 9 (.string H) none (some (.int .i64 (n : Int))) none).run Tryd.prog w = .ok (.string (strL (fld L 0 n))) w := by
  intro w
  rw [run_slice_string_to_if w 9 H .i64 n Tryd.underlying9, if_pos (by omega)]
  rw [Int.toNat_natCast, Lib.extract_upto, hL]
  rfl
theorem fld2 (H : ByteArray) (L : List UInt8) (hL : H.data.toList = L) (h : H.size = 60) : fld L 58 2 = [H[58], H[59]] := by
  subst hL
  have hl : H.data.toList.length = H.size := by simp
  unfold fld
  rw [List.drop_eq_getElem_cons (by omega), List.drop_eq_getElem_cons (by omega)]
  rfl
theorem fld_60 (L : List UInt8) (a n : Nat) (h : n ≤ 60) : (strL (fld L a n)).size ≤ 60 := by
  rw [strL_size]; unfold fld; rw [List.length_take]; omega
theorem rparse_c (b : ByteArray) (i : Int) (w : World) (hm : b.size ≤ maxLen) :
    Calls Tryd.prog 13 #[.string b, .int .i64 i] w fun e w' => e = .returned (.tuple #[hdV (parseAt b i).1, .int .i64 (parseAt b i).2]) ∧ Below w.heap.size w w' := by
  unfold parseAt
  by_cases h0 : i < 0
  · rw [if_pos (Or.inl h0)]; exact rparse_neg b i w hm h0
  by_cases h1 : (b.size : Int) - 60 < i
  · rw [if_pos (Or.inr h1)]
    by_cases h2 : (b.size : Int) < i
    · exact rparse_over b i w hm (by omega) h2
    · exact rparse_few b i w hm (by omega) (by omega) (by omega)
  rw [if_neg (by omega)]
  obtain ⟨n, rfl⟩ := Int.eq_ofNat_of_zero_le (show 0 ≤ i by omega)
  rw [Int.toNat_natCast]
  obtain ⟨hd, hs⟩ := sl60 b n (by omega)
  obtain ⟨Hs, hHs⟩ : ∃ Hs, Hs = b.extract n (n + 60) := ⟨_, rfl⟩
  rw [← hHs] at hd hs
  have hsl : ∀ w, (Instr.slice 9 (.string b) (some (.int .i64 (n : Int))) (some (.int .i64 ((n : Int) + 60))) none).run Tryd.prog w = .ok (.string Hs) w := by
    intro w
    rw [run_slice_string w 9 b .i64 .i64 n ((n : Int) + 60) Tryd.underlying9 (by omega) (by omega) (by omega), Int.toNat_natCast, show ((n : Int) + 60).toNat = n + 60 from by omega, hHs]
  have x58 := Rd.idx Hs 58 (by omega)
  have x59 := Rd.idx Hs 59 (by omega)
  have e2 := fld2 Hs _ hd hs
  have hn0 := slice_f0 Hs _ hd 16 (by omega)
  have s1 := slice_fld Hs _ hd 16 12 (by omega)
  have s2 := slice_fld Hs _ hd 28 6 (by omega)
  have s3 := slice_fld Hs _ hd 34 6 (by omega)
  have s4 := slice_fld Hs _ hd 40 8 (by omega)
  have s5 := slice_fld Hs _ hd 48 10 (by omega)
  generalize fld b.data.toList n 60 = L at e2 hn0 s1 s2 s3 s4 s5 ⊢
  have HD : Hid (∀ (g : ByteArray) (w : World), g.size ≤ 60 → Calls Tryd.prog 23 #[.string g] w fun e w' => e = .returned (.tuple #[.int .i64 ((fun g : ByteArray => ((rd 10 g.data.toList).1 : Int)) g), .int .i64 ((fun g : ByteArray => ((rd 10 g.data.toList).2 : Int)) g)]) ∧ w' = w) := fun g w hg => Rd.ref_dec g w (by unfold maxLen; omega)
  have HO : Hid (∀ (g : ByteArray) (w : World), g.size ≤ 60 → Calls Tryd.prog 24 #[.string g] w fun e w' => e = .returned (.tuple #[.int .i64 ((fun g : ByteArray => ((rd 8 g.data.toList).1 : Int)) g), .int .i64 ((fun g : ByteArray => ((rd 8 g.data.toList).2 : Int)) g)]) ∧ w' = w) := fun g w hg => Rd.ref_oct g w (by unfold maxLen; omega)
  unfold parseH
  by_cases ht : fld L 58 2 = [96, 10]
  · rw [if_pos ht]
    rw [e2] at ht
    have t58 : Hs[58] = 96 := by injection ht
    have t59 : Hs[59] = 10 := by injection ht with _ h; injection h
    have c1 : (((Hs[58].toNat : Nat) : Int) != 96) = false := by rw [t58]; rfl
    have c2 : (((Hs[59].toNat : Nat) : Int) != 10) = false := by rw [t59]; rfl
    by_cases hn : numOk L
    · rw [if_pos hn]
      obtain ⟨q1, q2, q3, q4, q5⟩ := hn
      have h := rparse_ok b Hs (strL (fld L 0 16)) (strL (fld L 16 12)) (strL (fld L 28 6)) (strL (fld L 34 6)) (strL (fld L 40 8)) (strL (fld L 48 10)) (strL (trimN (fld L 0 16))) n _ _ _ _ _ _ w hm (by omega) (by omega) hsl x58 x59 c1 c2 hn0
        (fun w => by have h := name_c (strL (fld L 0 16)) w (fld_max _ _ _ (by omega)); rw [strL_data] at h; exact h)
        s1 (fld_60 _ _ _ (by omega)) s2 (fld_60 _ _ _ (by omega)) s3 (fld_60 _ _ _ (by omega)) s4 (fld_60 _ _ _ (by omega)) s5 (fld_60 _ _ _ (by omega)) HD HO
        (by simp only [strL_data, q1]; rfl) (by simp only [strL_data, q2]; rfl) (by simp only [strL_data, q3]; rfl) (by simp only [strL_data, q4]; rfl) (by simp only [strL_data, q5]; rfl)
      simp only [strL_data] at h
      exact h
    · rw [if_neg hn]
      refine rparse_bad b Hs (strL (fld L 16 12)) (strL (fld L 28 6)) (strL (fld L 34 6)) (strL (fld L 40 8)) (strL (fld L 48 10)) n _ _ _ _ _ _ w hm (by omega) (by omega) hsl x58 x59 c1 c2
        s1 (fld_60 _ _ _ (by omega)) s2 (fld_60 _ _ _ (by omega)) s3 (fld_60 _ _ _ (by omega)) s4 (fld_60 _ _ _ (by omega)) s5 (fld_60 _ _ _ (by omega)) HD HO ?_
      simp only [strL_data]
      rintro ⟨a1, a2, a3, a4, a5⟩
      exact hn ⟨by omega, by omega, by omega, by omega, by omega⟩
  · rw [if_neg ht]
    rw [e2] at ht
    refine rparse_tail b Hs n _ _ w hm (by omega) (by omega) hsl x58 x59 ?_
    rintro ⟨a1, a2⟩
    refine ht ?_
    rw [show Hs[58] = 96 from UInt8.toNat_inj.1 (by have : (96 : UInt8).toNat = 96 := rfl; omega), show Hs[59] = 10 from UInt8.toNat_inj.1 (by have : (10 : UInt8).toNat = 10 := rfl; omega)]
end Go.Proofs.YtbkfkanknfdelaaDoor
