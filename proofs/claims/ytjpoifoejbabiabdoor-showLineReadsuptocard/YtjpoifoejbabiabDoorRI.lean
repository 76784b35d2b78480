
-- The document's List.
import Derived.Test.YtjpoifoejbabiabDoorRL
namespace Go.Proofs.YtjpoifoejbabiabDoor
open Go.ChangeShapes Go.WideShapes Go.ChangeAt Go.RowKit
set_option linter.unusedVariables false
set_option maxRecDepth 100000
set_option linter.unusedSimpArgs false
theorem one_byteL (c : Int) : ∀ u ∈ [Value.int .u8 c], u.oneCell' = true := by
  intro u hu
  simp only [List.mem_cons, List.not_mem_nil, or_false] at hu
  subst hu; rfl
/-- what is told of a member -/
def lstL (vb : Bool) (m : Mx) : List UInt8 := if vb then lsq (lineB m) else QL m.n ++ [10]
def lstsL (vb : Bool) (L : List Mx) : List UInt8 := L.flatMap (lstL vb)
theorem lineB_size {m : Mx} (h : okM m) : (lineB m).size ≤ 600 + 4 * m.n.size := by
  obtain ⟨_, h2, h3, _, h5⟩ := h
  unfold lineB
  simp only [ByteArray.size_append]
  have e1 : (⟨#[32]⟩ : ByteArray).size = 1 := rfl
  have e2 : (⟨#[47]⟩ : ByteArray).size = 1 := rfl
  have e3 : (⟨#[10]⟩ : ByteArray).size = 1 := rfl
  have a1 := modeB_size m.m
  have a2 := itB_size h2
  have a3 := itB_size h3
  have a4 := itB_size h5
  have a5 := padB_size (itB m.s)
  have a6 := dateT_size m.d
  have a7 := QL_len m.n
  rw [strB_size]
  omega
theorem lstL_len {vb : Bool} {m : Mx} (h : okM m) : (lstL vb m).length ≤ 600 + 4 * (m.n.size + m.dt.size) := by
  unfold lstL
  have a := lineB_size h
  have b := QL_len m.n
  cases vb with
  | false => rw [if_neg (by simp), List.length_append]; simp; omega
  | true => rw [if_pos rfl, lsq_size]; omega
theorem lsts_len (vb : Bool) (L : List Mx) (h : ∀ m ∈ L, okM m) : (lstsL vb L).length ≤ 4 * totM L + 600 * L.length := by
  unfold lstsL totM
  induction L with
  | nil => simp
  | cons e r ih =>
    have := lstL_len (vb := vb) (h e (by simp))
    have := ih (fun m hm => h m (by simp [hm]))
    simp only [List.flatMap_cons, List.length_append, List.map_cons, List.sum_cons, List.length_cons]; omega
theorem lsts_take {vb : Bool} {L : List Mx} {k : Nat} {x : Mx} (h : L[k]? = some x) : lstsL vb (L.take (k + 1)) = lstsL vb (L.take k) ++ lstL vb x := by
  unfold lstsL; rw [takeSucc h, List.flatMap_append]; simp
def ListOk (f : Nat) : Prop := ∀ (v : Value) (L : List Mx) (vb : Bool) (w : World), RowM w v L → L.length ≤ 2097152 → totM L ≤ 2097152 → (∀ m ∈ L, okM m) → LTabs w → Calls Tryd.prog f #[v, .bool vb] w fun e w' => e = .returned (.string (strB (lstsL vb L))) ∧ Below w.heap.size w w'
set_option maxHeartbeats 4000000 in
theorem rlist_c : ListOk 16 := by
  intro v L vb w h hl ht hok hT
  obtain ⟨i0, hi, hz0, hz1, hz2⟩ := info_parts info5f
  obtain ⟨a1, c1, q1, _, _⟩ := h.form
  obtain ⟨n, hnn⟩ : ∃ n, n = L.length := ⟨_, rfl⟩
  subst q1
  have HV := hidK h
  have HN := hidK hnn
  have HT := hidK ht
  have HOK := hidK hok
  have HTB := hidK hT
  rw [← hnn] at hl HV ⊢
  clear h hnn ht hok hT
  go_enter Tryd.func16, Tryd.ntmps16
  go_wp2
  go_loopw [5, 6] (fun o i wx => ∃ k : Nat, i = .int .i64 k ∧ k ≤ n ∧ OB w.heap.size wx o (lstsL vb (L.take k)) ∧ Below w.heap.size w wx) (fun _ i _ => n - (intOf i).toNat)
  case atStart => exact ⟨0, rfl, Nat.zero_le _, ⟨rfl, .inl ⟨rfl, rfl⟩⟩, Below.refl _ _⟩
  case round =>
    obtain ⟨k, rfl, hkn, hO, hB⟩ := hrel
    by_cases hk : k < n
    · have kI : (k : Int) < (n : Int) := by omega
      have k0 : (0 : Int) ≤ (k : Int) := by omega
      have hkl : k < L.length := by have := HN.out; omega
      obtain ⟨⟨dd, uu, gg, mm, en, zz, dt⟩, hx⟩ : ∃ x, L[k]? = some x := ⟨_, List.getElem?_eq_getElem hkl⟩
      obtain ⟨b1, o1, p1, e1, d0, d1, d2, d3, d4, d5, d6⟩ := (HV.out.on hB).mx hx
      simp only [] at d0 d1 d2 d3 d4 d5 d6
      injection e1 with e1 e1b e1c
      subst e1
      have hokx := HOK.out _ (List.mem_of_getElem? hx)
      have HX := hidK (lsts_take (vb := vb) hx)
      have htt := totM_at hx
      have hle := lsts_len vb (L.take k) (fun m hm => HOK.out m (List.mem_of_mem_take hm))
      have htl : (L.take k).length ≤ k := by rw [List.length_take]; omega
      have htb := HT.out
      simp only [] at htt
      obtain ⟨acc, hacc⟩ : ∃ acc, acc = lstsL vb (L.take k) := ⟨_, rfl⟩
      rw [← hacc] at hO hle HX
      have hab : acc.length + 4 * (en.size + dt.size) ≤ 1600000000 := by omega
      have hes : en.size ≤ 2097152 := by omega
      have hs := hB.size
      clear hx hkl e1b e1c hacc hle htl htt htb
      cases vb with
      | false =>
        obtain ⟨Q, hQ⟩ : ∃ Q, Q = strB (QL en) := ⟨_, rfl⟩
        have HQ : Hid (∀ w, Calls Tryd.prog 36 #[.string en] w fun e w' => e = .returned (.string Q) ∧ Below w.heap.size w w') := fun w => by rw [hQ]; exact rquote_c en w (by omega)
        have hQs : Q.size ≤ 4 * en.size + 2 := by rw [hQ, strB_size]; exact QL_len en
        have HZ2 := hidK (show acc ++ lsq Q ++ [10] = acc ++ lstL false ⟨dd, uu, gg, mm, en, zz, dt⟩ by unfold lstL; rw [if_neg (by simp), hQ, lsq_strB, List.append_assoc])
        clear hQ
        go_upto_region 7 with fail
        go_upto_region 8 with (first | (go_at_call 36; refine (HQ.out _).mono ?_; rintro e w3 ⟨rfl, hb3⟩; have hB3 := bel3K hB hb3; have hO3 := hO.on hb3; have hs3 := hB3.size) | (refine Lib.wpList_append_own_string _ rfl (.tmp 21) (.tmp 27) 49 9 rfl w.heap.size 5 i0 Tryd.underlying49 Tryd.underlying9 hi hz0 hz1 hz2 _ _ _ rfl hO3 Q rfl (by unfold maxLen; omega) (by omega) hs3 ?_; intro v4 w4 hown' hgrow _; have R := ab_str w hO3 hB3 hs3 hown' hgrow; clear hown' hgrow))
        obtain ⟨hO4, hB4⟩ := R
        have hs4 := hB4.size
        have l4 : (acc ++ lsq Q).length = acc.length + Q.size := by rw [List.length_append, lsq_size]
        clear hO hB hs hO3 hB3 hs3 hb3 d0 d1 d2 d3 d4 d5 d6
        go_upto_region 4 with (refine wpList_append_own _ rfl (.tmp 29) (.tmp 30) 49 rfl w.heap.size 5 i0 (.int .u8 0) 1 1 Tryd.underlying49 hi hz0 hz1 hz2 rfl (by decide) _ _ _ rfl (own_upK hO4 _) ⟨w4.heap.size, 0, none⟩ 1 1 [.int .u8 ((10 : UInt8).toNat : Int)] rfl rfl (new_rowK w4 #[.int .u8 ((10 : UInt8).toNat : Int)] 5 [.int .u8 ((10 : UInt8).toNat : Int)] rfl) (one_byteL _) (by unfold maxLen; omega) (by omega) (by rw [World.size_alloc]; exact Nat.le_succ_of_le hs4) ?_; intro v5 w5 hown' hgrow _; have R := ab_byte w hO4 hB4 hs4 hown' hgrow; clear hown' hgrow)
        obtain ⟨hO5, hB5⟩ := R
        have HO5 := hidK hO5
        clear hO4 hB4 hs4 hO5
        go_wp2
        go_roundw
        case rel => exact ⟨k + 1, by go_num, by omega, by rw [HX.out, ← HZ2.out]; exact HO5.out, hB5⟩
        case measure => simp [intOf]; omega
      | true =>
        obtain ⟨Q, hQ⟩ : ∃ Q, Q = lineB ⟨dd, uu, gg, mm, en, zz, dt⟩ := ⟨_, rfl⟩
        have HQ : Hid (∀ W, Below w.heap.size w W → Calls Tryd.prog 14 #[.agg #[.int .i64 dd, .int .i64 uu, .int .i64 gg, .int .i64 mm, .string en, .int .i64 zz, .string dt]] W fun e w' => e = .returned (.string Q) ∧ Below W.heap.size W w') := fun W hb => by rw [hQ]; exact rline_c ⟨dd, uu, gg, mm, en, zz, dt⟩ hokx (by show en.size ≤ _; omega) W (HTB.out.on hb)
        have hQs : Q.size ≤ 600 + 4 * en.size := by rw [hQ]; exact lineB_size hokx
        have HZ2 := hidK (show acc ++ lsq Q = acc ++ lstL true ⟨dd, uu, gg, mm, en, zz, dt⟩ by unfold lstL; rw [if_pos rfl, hQ])
        clear hQ
        go_upto_region 6 with fail
        go_upto_region 4 with (first | (go_at_call 14; refine (HQ.out _ hB).mono ?_; rintro e w3 ⟨rfl, hb3⟩; have hB3 := bel3K hB hb3; have hO3 := hO.on hb3; have hs3 := hB3.size) | (refine Lib.wpList_append_own_string _ rfl (.tmp 14) (.tmp 19) 49 9 rfl w.heap.size 5 i0 Tryd.underlying49 Tryd.underlying9 hi hz0 hz1 hz2 _ _ _ rfl hO3 Q rfl (by unfold maxLen; omega) (by omega) hs3 ?_; intro v4 w4 hown' hgrow _; have R := ab_str w hO3 hB3 hs3 hown' hgrow; clear hown' hgrow))
        obtain ⟨hO5, hB5⟩ := R
        have HO5 := hidK hO5
        clear hO hB hs hO3 hB3 hs3 hb3 hO5 d0 d1 d2 d3 d4 d5 d6
        go_wp2
        go_roundw
        case rel => exact ⟨k + 1, by go_num, by omega, by rw [HX.out, ← HZ2.out]; exact HO5.out, hB5⟩
        case measure => simp [intOf]; omega
    · obtain rfl : k = n := by omega
      have hcv := conv_q wr w.heap.size u5 (lstsL vb (L.take k)) hO
      have HE := hidK (show L.take k = L by rw [HN.out]; exact List.take_length)
      go_wp2
      go_ret
      exact ⟨by rw [HE.out]; rfl, hB⟩
end Go.Proofs.YtjpoifoejbabiabDoor
