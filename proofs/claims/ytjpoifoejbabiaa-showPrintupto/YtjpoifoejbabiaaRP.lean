
-- The document's Print.
import Derived.Test.YtjpoifoejbabiaaRE
namespace Go.Proofs.Ytjpoifoejbabiaa
open Go.ChangeShapes Go.WideShapes Go.ChangeAt Go.RowKit
set_option linter.unusedVariables false
set_option maxRecDepth 100000
set_option linter.unusedSimpArgs false
set_option maxHeartbeats 4000000 in
theorem rprint_c (v : Value) (L : List Mx) (vb : Bool) (w : World) (h : RowM w v L) (hl : L.length ≤ 2097152) (ht : totM L ≤ 2097152) :
    Calls Try.prog 17 #[v, .bool vb] w fun e w' => e = .returned (.string (strB (prtsL vb L))) ∧ Below w.heap.size w w' := by
  obtain ⟨i0, hi, hz0, hz1, hz2⟩ := info_parts info5f
  obtain ⟨a1, c1, q1, _, _⟩ := h.form
  obtain ⟨n, hnn⟩ : ∃ n, n = L.length := ⟨_, rfl⟩
  subst q1
  have HV := hidK h
  have HN := hidK hnn
  have HT := hidK ht
  rw [← hnn] at hl HV ⊢
  clear h hnn ht
  go_enter Try.func17, Try.ntmps17
  go_wp2
  go_loopw [5, 6] (fun o i wx => ∃ k : Nat, i = .int .i64 k ∧ k ≤ n ∧ OB w.heap.size wx o (prtsL vb (L.take k)) ∧ Below w.heap.size w wx) (fun _ i _ => n - (intOf i).toNat)
  case atStart => exact ⟨0, rfl, Nat.zero_le _, ⟨rfl, .inl ⟨rfl, rfl⟩⟩, Below.refl _ _⟩
  case round =>
    obtain ⟨k, rfl, hkn, hO, hB⟩ := hrel
    by_cases hk : k < n
    · have kI : (k : Int) < (n : Int) := by omega
      have k0 : (0 : Int) ≤ (k : Int) := by omega
      have hkl : k < L.length := by have := HN.out; omega
      obtain ⟨⟨dd, uu, gg, mm, en, zz, dt⟩, hx⟩ : ∃ x, L[k]? = some x := ⟨_, List.getElem?_eq_getElem hkl⟩
      obtain ⟨b1, o1, p1, e1, _, _, _, _, D1, _, D2⟩ := HV.out.mx hx
      simp only [] at D1 D2
      injection e1 with e1 e1b e1c
      subst e1
      have HX := hidK (prts_take (vb := vb) hx)
      have htt := totM_at hx
      have hle := prts_len vb (L.take k)
      have htl : (L.take k).length ≤ k := by rw [List.length_take]; omega
      have htb := HT.out
      simp only [] at htt
      obtain ⟨acc, hacc⟩ : ∃ acc, acc = prtsL vb (L.take k) := ⟨_, rfl⟩
      rw [← hacc] at hO hle HX
      have hab : acc.length + 4 * (en.size + dt.size) ≤ 33554432 := by omega
      have hes : en.size ≤ 2097152 := by omega
      have hs := hB.size
      have HD1 := hidK D1
      have HD2 := hidK D2
      clear D1 D2 hx hkl e1b e1c hacc hle htl htt htb
      cases vb with
      | false =>
        have HZ := hidK (show prtL false ⟨dd, uu, gg, mm, en, zz, dt⟩ = lsq dt from rfl)
        have d2 := cell_onG HD2.out hB
        go_upto_region 9 with fail
        go_upto_region 4 with (refine Lib.wpList_append_own_string _ rfl (.tmp 26) (.tmp 31) 57 9 rfl w.heap.size 5 i0 Try.underlying57 Try.underlying9 hi hz0 hz1 hz2 _ _ _ rfl hO dt rfl (by unfold maxLen; omega) (by omega) hs ?_; intro v1 w1 hown' hgrow _; have R := ab_str w hO hB hs hown' hgrow; clear hown' hgrow)
        obtain ⟨hO5, hB5⟩ := R
        have HO5 := hidK hO5
        clear hO hB hs hO5 d2
        go_wp2
        go_roundw
        case rel => exact ⟨k + 1, by go_num, by omega, by rw [HX.out, HZ.out]; exact HO5.out, hB5⟩
        case measure => simp [intOf]; omega
      | true =>
        obtain ⟨Q, hQ⟩ : ∃ Q, Q = strB (QL en) := ⟨_, rfl⟩
        have HQ : Hid (∀ w, Calls Try.prog 32 #[.string en] w fun e w' => e = .returned (.string Q) ∧ Below w.heap.size w w') := fun w => by rw [hQ]; exact rquote_c en w (by omega)
        have hQs : Q.size ≤ 4 * en.size + 2 := by rw [hQ, strB_size]; exact QL_len en
        have HQL := hidK (show lsq Q = QL en by rw [hQ, lsq_strB])
        have HZ2 := hidK (show acc ++ lsq ⟨#[10, 60]⟩ ++ lsq Q ++ lsq ⟨#[62, 10, 10]⟩ ++ lsq dt = acc ++ prtL true ⟨dd, uu, gg, mm, en, zz, dt⟩ by unfold prtL; rw [HQL.out]; simp [lsq])
        have y2 : (⟨#[10, 60]⟩ : ByteArray).size = 2 := rfl
        have y3 : (⟨#[62, 10, 10]⟩ : ByteArray).size = 3 := rfl
        clear hQ
        go_upto_region 6 with fail
        go_upto_region 7 with (refine Lib.wpList_append_own_string _ rfl (.tmp 14) _ 57 9 rfl w.heap.size 5 i0 Try.underlying57 Try.underlying9 hi hz0 hz1 hz2 _ _ _ rfl hO ⟨#[10, 60]⟩ rfl (by unfold maxLen; omega) (by omega) hs ?_; intro v1 w1 hown' hgrow _; have R := ab_str w hO hB hs hown' hgrow; clear hown' hgrow)
        obtain ⟨hO1, hB1⟩ := R
        have hs1 := hB1.size
        have l1 : (acc ++ lsq ⟨#[10, 60]⟩).length = acc.length + 2 := by simp [lsq]
        have d1 := cell_onG HD1.out hB1
        clear hO hB hs
        go_upto_region 8 with (first | (go_at_call 32; refine (HQ.out _).mono ?_; rintro e w3 ⟨rfl, hb3⟩; have hB3 := bel3K hB1 hb3; have hO3 := hO1.on hb3; have hs3 := hB3.size) | (refine Lib.wpList_append_own_string _ rfl (.tmp 16) (.tmp 22) 57 9 rfl w.heap.size 5 i0 Try.underlying57 Try.underlying9 hi hz0 hz1 hz2 _ _ _ rfl hO3 Q rfl (by unfold maxLen; omega) (by omega) hs3 ?_; intro v4 w4 hown' hgrow _; have R := ab_str w hO3 hB3 hs3 hown' hgrow; clear hown' hgrow))
        obtain ⟨hO4, hB4⟩ := R
        have hs4 := hB4.size
        have l4 : ((acc ++ lsq ⟨#[10, 60]⟩) ++ lsq Q).length = acc.length + 2 + Q.size := by rw [List.length_append, l1, lsq_size]
        clear hO1 hB1 hs1 hO3 hB3 hs3 hb3 d1 l1
        go_upto_region 9 with (refine Lib.wpList_append_own_string _ rfl (.tmp 24) _ 57 9 rfl w.heap.size 5 i0 Try.underlying57 Try.underlying9 hi hz0 hz1 hz2 _ _ _ rfl hO4 ⟨#[62, 10, 10]⟩ rfl (by unfold maxLen; omega) (by omega) hs4 ?_; intro v5 w5 hown' hgrow _; have R := ab_str w hO4 hB4 hs4 hown' hgrow; clear hown' hgrow)
        obtain ⟨hO5, hB5⟩ := R
        have hs5 := hB5.size
        have l5 : (((acc ++ lsq ⟨#[10, 60]⟩) ++ lsq Q) ++ lsq ⟨#[62, 10, 10]⟩).length = acc.length + 5 + Q.size := by rw [List.length_append, l4, lsq_size, y3]; omega
        have d2 := cell_onG HD2.out hB5
        clear hO4 hB4 hs4 l4
        go_upto_region 4 with (refine Lib.wpList_append_own_string _ rfl (.tmp 26) (.tmp 31) 57 9 rfl w.heap.size 5 i0 Try.underlying57 Try.underlying9 hi hz0 hz1 hz2 _ _ _ rfl hO5 dt rfl (by unfold maxLen; omega) (by omega) hs5 ?_; intro v6 w6 hown' hgrow _; have R := ab_str w hO5 hB5 hs5 hown' hgrow; clear hown' hgrow)
        obtain ⟨hO6, hB6⟩ := R
        have HO6 := hidK hO6
        clear hO5 hB5 hs5 hO6 d2
        go_wp2
        go_roundw
        case rel => exact ⟨k + 1, by go_num, by omega, by rw [HX.out, ← HZ2.out]; exact HO6.out, hB6⟩
        case measure => simp [intOf]; omega
    · obtain rfl : k = n := by omega
      have hcv := conv_q wr w.heap.size u5 (prtsL vb (L.take k)) hO
      have HE := hidK (show L.take k = L by rw [HN.out]; exact List.take_length)
      go_wp2
      go_ret
      exact ⟨by rw [HE.out]; rfl, hB⟩
end Go.Proofs.Ytjpoifoejbabiaa
