
-- shelfref7.Format: the whole contract.
import Derived.Test.YtbkfkanknfdelaaDoorW5
namespace Go.Proofs.YtbkfkanknfdelaaDoor
open Go.ChangeShapes Go.WideShapes Go.ChangeAt Go.RowKit
set_option linter.unusedVariables false
set_option maxRecDepth 100000

theorem strL_cat (h : Hd) (hn : named h.name.data.toList) (hf : fitsH h) :
    strL (nameF h.name.data.toList) ++ strL (pad 10 h.date 12) ++ strL (pad 10 h.uid 6) ++ strL (pad 10 h.gid 6) ++ strL (pad 8 h.mode 8) ++ strL (pad 10 h.size 10) ++ ⟨#[96, 10]⟩ = strL (formL h) := by
  rw [show (⟨#[96, 10]⟩ : ByteArray) = strL [96, 10] from rfl]
  simp only [strL_append]
  unfold formL
  simp only [List.append_assoc]
theorem rformat_c (h : Hd) (w : World) (hk : HdOk h) :
    Calls Tryd.prog 18 #[.agg (hdC h)] w fun e w' => e = .returned (.tuple #[.string (formatH h).1, .int .i64 (formatH h).2]) ∧ Below w.heap.size w w' := by
  have hI := hk.inn
  have hm := hk.2.2.2.2.2
  have hl : h.name.data.toList.length = h.name.size := by simp
  have HD : Hid (∀ (v k : Int) (wx : World), v ≤ 9223372036854775807 → Below w.heap.size w wx → RowB w.heap.size h.date h.uid h.gid h.mode h.size h.name wx → Calls Tryd.prog 31 #[.int .i64 v, .int .i64 k] wx fun e w' => e = .returned (.tuple #[.string (putText 10 v k), .int .i64 (putErr 10 v k)]) ∧ Below w.heap.size w w' ∧ RowB w.heap.size h.date h.uid h.gid h.mode h.size h.name w') := fun v k wx hv hb hr => (refput_10 v k wx hv).mono fun e w' ⟨he, hb'⟩ => ⟨he, bel3 hb hb', ⟨hkeep hb' hr.row⟩⟩
  have HO : Hid (∀ (v k : Int) (wx : World), v ≤ 9223372036854775807 → Below w.heap.size w wx → RowB w.heap.size h.date h.uid h.gid h.mode h.size h.name wx → Calls Tryd.prog 32 #[.int .i64 v, .int .i64 k] wx fun e w' => e = .returned (.tuple #[.string (putText 8 v k), .int .i64 (putErr 8 v k)]) ∧ Below w.heap.size w w' ∧ RowB w.heap.size h.date h.uid h.gid h.mode h.size h.name w') := fun v k wx hv hb hr => (refput_8 v k wx hv).mono fun e w' ⟨he, hb'⟩ => ⟨he, bel3 hb hb', ⟨hkeep hb' hr.row⟩⟩
  have p1 : putErr 10 h.date 12 = if fitN 10 h.date 12 then 0 else 11 := putErr_fit 10 h.date 12 (by omega) (by omega)
  have p2 : putErr 10 h.uid 6 = if fitN 10 h.uid 6 then 0 else 11 := putErr_fit 10 h.uid 6 (by omega) (by omega)
  have p3 : putErr 10 h.gid 6 = if fitN 10 h.gid 6 then 0 else 11 := putErr_fit 10 h.gid 6 (by omega) (by omega)
  have p4 : putErr 8 h.mode 8 = if fitN 8 h.mode 8 then 0 else 11 := putErr_fit 8 h.mode 8 (by omega) (by omega)
  have p5 : putErr 10 h.size 10 = if fitN 10 h.size 10 then 0 else 11 := putErr_fit 10 h.size 10 (by omega) (by omega)
  have key : ∀ (c : Prop) [Decidable c], (if c then (0 : Int) else 11) = 0 → c := fun c _ e => by
    by_cases hc : c
    · exact hc
    · rw [if_neg hc] at e; omega
  unfold formatH
  by_cases hn : named h.name.data.toList
  · rw [if_pos hn]
    have hn1 : h.name.size ≤ 16 := by have := hn.1; omega
    have hname : h.name.toList = [] ∨ ((h.name.toList == []) = false ∧ 0 < h.name.size ∧ ∃ c : Int, (c == 32) = false ∧ ∀ w, (Instr.index 9 (.string h.name) (.int .i64 ((h.name.size : Int) - 1))).run Tryd.prog w = .ok (.int .u8 c) w) := by
      by_cases h0 : h.name.size = 0
      · exact Or.inl (empty_toList _ h0)
      · have hlt : h.name.size - 1 < h.name.size := by omega
        refine Or.inr ⟨some_toList _ (by omega), by omega, (((h.name[h.name.size - 1]'hlt).toNat : Nat) : Int), ?_, fun w => ?_⟩
        · have hg : h.name.data.toList.getLast? = some (h.name[h.name.size - 1]'hlt) := last_get h.name (by omega)
          have hc : ¬ (h.name[h.name.size - 1]'hlt).toNat = 32 := fun hc => hn.2 (by rw [hg]; exact congrArg some (UInt8.toNat_inj.1 hc))
          simp; omega
        · have hx := Rd.idx h.name (h.name.size - 1) hlt w
          rwa [show ((h.name.size - 1 : Nat) : Int) = (h.name.size : Int) - 1 from by omega] at hx
    by_cases hf : fitsH h
    · rw [if_pos hf]
      have hcat := strL_cat h hn hf
      obtain ⟨f1, f2, f3, f4, f5⟩ := hf
      have t1 : putText 10 h.date 12 = strL (pad 10 h.date 12) := (putText_fit 10 h.date 12 (by omega) (by omega)).trans (if_pos f1)
      have t2 : putText 10 h.uid 6 = strL (pad 10 h.uid 6) := (putText_fit 10 h.uid 6 (by omega) (by omega)).trans (if_pos f2)
      have t3 : putText 10 h.gid 6 = strL (pad 10 h.gid 6) := (putText_fit 10 h.gid 6 (by omega) (by omega)).trans (if_pos f3)
      have t4 : putText 8 h.mode 8 = strL (pad 8 h.mode 8) := (putText_fit 8 h.mode 8 (by omega) (by omega)).trans (if_pos f4)
      have t5 : putText 10 h.size 10 = strL (pad 10 h.size 10) := (putText_fit 10 h.size 10 (by omega) (by omega)).trans (if_pos f5)
      have hx := rformat_ok h.date h.uid h.gid h.mode h.size h.name w hm hn1 hname (putText 10) (putErr 10) (putText 8) (putErr 8) HD hI.1 hI.2.1 hI.2.2.1 hI.2.2.2.1 hI.2.2.2.2 HO
        (by rw [p1, if_pos f1]; rfl) (by rw [p2, if_pos f2]; rfl) (by rw [p3, if_pos f3]; rfl) (by rw [p4, if_pos f4]; rfl) (by rw [p5, if_pos f5]; rfl)
        (by rw [t1, strL_size]; exact pad_lenI 10 h.date 12 f1) (by rw [t2, strL_size]; exact pad_lenI 10 h.uid 6 f2) (by rw [t3, strL_size]; exact pad_lenI 10 h.gid 6 f3) (by rw [t4, strL_size]; exact pad_lenI 8 h.mode 8 f4) (by rw [t5, strL_size]; exact pad_lenI 10 h.size 10 f5)
      rw [t1, t2, t3, t4, t5, hcat] at hx
      exact hx
    · rw [if_neg hf]
      refine rformat_bad h.date h.uid h.gid h.mode h.size h.name w hm hn1 hname (putText 10) (putErr 10) (putText 8) (putErr 8) HD hI.1 hI.2.1 hI.2.2.1 hI.2.2.2.1 hI.2.2.2.2 HO ?_
      rintro ⟨q1, q2, q3, q4, q5⟩
      rw [p1] at q1; rw [p2] at q2; rw [p3] at q3; rw [p4] at q4; rw [p5] at q5
      exact hf ⟨key _ q1, key _ q2, key _ q3, key _ q4, key _ q5⟩
  · rw [if_neg hn]
    by_cases hs : h.name.size ≤ 16
    · have hlast : h.name.data.toList.getLast? = some 32 := Classical.byContradiction fun hc => hn ⟨by omega, hc⟩
      have h0 : 0 < h.name.size := by
        rw [← hl]
        cases e : h.name.data.toList with
        | nil => rw [e] at hlast; simp at hlast
        | cons a r => simp
      have hlt : h.name.size - 1 < h.name.size := by omega
      have hg : h.name.data.toList.getLast? = some (h.name[h.name.size - 1]'hlt) := last_get h.name h0
      refine rformat_blank h.date h.uid h.gid h.mode h.size h.name w hm hs (((h.name[h.name.size - 1]'hlt).toNat : Nat) : Int) (some_toList _ h0) h0 (fun w => ?_) ?_
      · have hx := Rd.idx h.name (h.name.size - 1) hlt w
        rwa [show ((h.name.size - 1 : Nat) : Int) = (h.name.size : Int) - 1 from by omega] at hx
      · rw [hg] at hlast; injection hlast with hlast
        rw [hlast]; rfl
    · exact rformat_long h.date h.uid h.gid h.mode h.size h.name w hm (by omega)
end Go.Proofs.YtbkfkanknfdelaaDoor
