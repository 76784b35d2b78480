
-- The document's Events.
import Derived.Test.YtjpoifoejbabiaaRM
import Derived.Deep.RegionWith
import Derived.Deep.Cut
namespace Go.Proofs.Ytjpoifoejbabiaa
open Go.ChangeShapes Go.WideShapes Go.ChangeAt Go.RowKit
set_option linter.unusedVariables false
set_option maxRecDepth 100000
set_option linter.unusedSimpArgs false
theorem one_byte (c : Int) : ∀ u ∈ [Value.int .u8 c], u.oneCell' = true := by
  intro u hu
  simp only [List.mem_cons, List.not_mem_nil, or_false] at hu
  subst hu; rfl
set_option maxHeartbeats 4000000 in
theorem revents_c (v : Value) (L : List Ew) (w : World) (h : RowW w v L) (hl : L.length ≤ 2097152) (ht : totE L ≤ 2097152) :
    Calls Try.prog 13 #[v] w fun e w' => e = .returned (.string (strB (evtsL L))) ∧ Below w.heap.size w w' := by
  obtain ⟨i0, hi, hz0, hz1, hz2⟩ := info_parts info5f
  obtain ⟨a1, c1, q1, _, _⟩ := h.form
  obtain ⟨n, hnn⟩ : ∃ n, n = L.length := ⟨_, rfl⟩
  subst q1
  have HV := hidK h
  have HN := hidK hnn
  have HT := hidK ht
  rw [← hnn] at hl HV ⊢
  clear h hnn ht
  go_enter Try.func13, Try.ntmps13
  go_wp2
  go_loopw [3, 4] (fun o i wx => ∃ k : Nat, i = .int .i64 k ∧ k ≤ n ∧ OB w.heap.size wx o (evtsL (L.take k)) ∧ Below w.heap.size w wx) (fun _ i _ => n - (intOf i).toNat)
  case atStart => exact ⟨0, rfl, Nat.zero_le _, ⟨rfl, .inl ⟨rfl, rfl⟩⟩, Below.refl _ _⟩
  case round =>
    obtain ⟨k, rfl, hkn, hO, hB⟩ := hrel
    by_cases hk : k < n
    · have kI : (k : Int) < (n : Int) := by omega
      have k0 : (0 : Int) ≤ (k : Int) := by omega
      have hkl : k < L.length := by have := HN.out; omega
      obtain ⟨⟨ec, en⟩, hx⟩ : ∃ x, L[k]? = some x := ⟨_, List.getElem?_eq_getElem hkl⟩
      obtain ⟨b1, o1, p1, e1, D0, D1⟩ := HV.out.ew hx
      simp only [] at D0 D1
      injection e1 with e1 e1b e1c
      subst e1
      have HX := hidK (evts_take hx)
      have htt := totE_at hx
      have hle := evts_len (L.take k)
      have htl : (L.take k).length ≤ k := by rw [List.length_take]; omega
      have htb := HT.out
      simp only [] at htt
      obtain ⟨acc, hacc⟩ : ∃ acc, acc = evtsL (L.take k) := ⟨_, rfl⟩
      rw [← hacc] at hO hle HX
      have hab : acc.length + 4 * en.size ≤ 33554432 := by omega
      have hes : en.size ≤ 2097152 := by omega
      have hs := hB.size
      have d0 := cell_onG D0 hB
      have HD1 := hidK D1
      clear D0 D1 hx hkl e1b e1c hacc hle htl htt htb
      by_cases hu : ec = 117
      · subst hu
        have HZ := hidK (show evtL ⟨117, en⟩ = [] from rfl)
        have hc117 : ((117 : UInt8).toNat : Int) = 117 := rfl
        rw [hc117] at d0
        go_wp2
        go_roundw
        case rel => exact ⟨k + 1, by go_num, by omega, by rw [HX.out, HZ.out, List.append_nil]; exact hO, hB⟩
        case measure => simp [intOf]; omega
      · have HZ := hidK (show evtL ⟨ec, en⟩ = ec :: 32 :: 45 :: 32 :: (QL en ++ [10]) by unfold evtL; exact if_neg hu)
        have hu2 : (((ec.toNat : Nat) : Int) == 117) = false := by
          refine beq_eq_false_iff_ne.2 fun q => hu ?_
          apply UInt8.toNat_inj.1
          have : ec.toNat = 117 := by omega
          rw [this]; rfl
        obtain ⟨Q, hQ⟩ : ∃ Q, Q = strB (QL en) := ⟨_, rfl⟩
        have HQ : Hid (∀ w, Calls Try.prog 32 #[.string en] w fun e w' => e = .returned (.string Q) ∧ Below w.heap.size w w') := fun w => by rw [hQ]; exact rquote_c en w (by omega)
        have hQs : Q.size ≤ 4 * en.size + 2 := by rw [hQ, strB_size]; exact QL_len en
        have HQL := hidK (show lsq Q = QL en by rw [hQ, lsq_strB])
        have HZ2 := hidK (show acc ++ [ec] ++ [32, 45, 32] ++ lsq Q ++ [10] = acc ++ evtL ⟨ec, en⟩ by rw [HZ.out, HQL.out]; simp)
        clear hu HZ hQ
        go_upto_region 6 with fail
        go_upto_region 7 with (refine wpList_append_own _ rfl (.tmp 17) (.tmp 23) 57 rfl w.heap.size 5 i0 (.int .u8 0) 1 1 Try.underlying57 hi hz0 hz1 hz2 rfl (by decide) _ _ _ rfl (own_upK hO _) ⟨wr.heap.size, 0, none⟩ 1 1 [.int .u8 ((ec : UInt8).toNat : Int)] rfl rfl (new_rowK wr #[.int .u8 ((ec : UInt8).toNat : Int)] 5 [.int .u8 ((ec : UInt8).toNat : Int)] rfl) (one_byte _) (by unfold maxLen; omega) (by omega) (by rw [World.size_alloc]; exact Nat.le_succ_of_le hs) ?_; intro v1 w1 hown' hgrow _; have R := ab_byte w hO hB hs hown' hgrow; clear hown' hgrow)
        obtain ⟨hO1, hB1⟩ := R
        have hs1 := hB1.size
        have l1 : (acc ++ [ec]).length = acc.length + 1 := by simp
        have z3 : (⟨#[32, 45, 32]⟩ : ByteArray).size = 3 := rfl
        clear hO hB hs d0
        go_upto_region 8 with (refine Lib.wpList_append_own_string _ rfl (.tmp 25) _ 57 9 rfl w.heap.size 5 i0 Try.underlying57 Try.underlying9 hi hz0 hz1 hz2 _ _ _ rfl hO1 ⟨#[32, 45, 32]⟩ rfl (by unfold maxLen; omega) (by omega) hs1 ?_; intro v2 w2 hown' hgrow _; have R := ab_str w hO1 hB1 hs1 hown' hgrow; clear hown' hgrow)
        obtain ⟨hO2, hB2⟩ := R
        have hs2 := hB2.size
        have l2 : ((acc ++ [ec]) ++ lsq ⟨#[32, 45, 32]⟩).length = acc.length + 4 := by simp [lsq]
        have d1 := cell_onG HD1.out hB2
        clear hO1 hB1 hs1 l1
        go_upto_region 9 with (first | (go_at_call 32; refine (HQ.out _).mono ?_; rintro e w3 ⟨rfl, hb3⟩; have hB3 := bel3K hB2 hb3; have hO3 := hO2.on hb3; have hs3 := hB3.size) | (refine Lib.wpList_append_own_string _ rfl (.tmp 27) (.tmp 33) 57 9 rfl w.heap.size 5 i0 Try.underlying57 Try.underlying9 hi hz0 hz1 hz2 _ _ _ rfl hO3 Q rfl (by unfold maxLen; omega) (by omega) hs3 ?_; intro v4 w4 hown' hgrow _; have R := ab_str w hO3 hB3 hs3 hown' hgrow; clear hown' hgrow))
        obtain ⟨hO4, hB4⟩ := R
        have hs4 := hB4.size
        have l4 : (((acc ++ [ec]) ++ lsq ⟨#[32, 45, 32]⟩) ++ lsq Q).length = acc.length + 4 + Q.size := by rw [List.length_append, l2, lsq_size]
        clear hO2 hB2 hs2 hO3 hB3 hs3 hb3 d1
        go_upto_region 4 with (refine wpList_append_own _ rfl (.tmp 35) (.tmp 36) 57 rfl w.heap.size 5 i0 (.int .u8 0) 1 1 Try.underlying57 hi hz0 hz1 hz2 rfl (by decide) _ _ _ rfl (own_upK hO4 _) ⟨w4.heap.size, 0, none⟩ 1 1 [.int .u8 ((10 : UInt8).toNat : Int)] rfl rfl (new_rowK w4 #[.int .u8 ((10 : UInt8).toNat : Int)] 5 [.int .u8 ((10 : UInt8).toNat : Int)] rfl) (one_byte _) (by unfold maxLen; omega) (by omega) (by rw [World.size_alloc]; exact Nat.le_succ_of_le hs4) ?_; intro v5 w5 hown' hgrow _; have R := ab_byte w hO4 hB4 hs4 hown' hgrow; clear hown' hgrow)
        obtain ⟨hO5, hB5⟩ := R
        have HO5 := hidK hO5
        clear hO4 hB4 hs4 hO5
        go_wp2
        go_roundw
        case rel => exact ⟨k + 1, by go_num, by omega, by rw [HX.out, ← HZ2.out]; exact HO5.out, hB5⟩
        case measure => simp [intOf]; omega
    · obtain rfl : k = n := by omega
      have hcv := conv_q wr w.heap.size u3 (evtsL (L.take k)) hO
      have HE := hidK (show L.take k = L by rw [HN.out]; exact List.take_length)
      go_wp2
      go_ret
      exact ⟨by rw [HE.out]; rfl, hB⟩
end Go.Proofs.Ytjpoifoejbabiaa
