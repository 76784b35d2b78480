
-- ShowList's walk, over any List that tells so.
import Derived.Test.YtjpoifoejbabiabDoorGT
import Derived.Test.YtjpoifoejbabiabDoorRI
import Derived.Deep.Cut
namespace Go.Proofs.YtjpoifoejbabiabDoor
open Go.ChangeShapes Go.WideShapes Go.ChangeAt Go.RowKit
set_option linter.unusedVariables false
set_option maxRecDepth 100000
set_option linter.unusedSimpArgs false
set_option maxHeartbeats 8000000 in
theorem showList_w (HP0 : ListOk 12) (HR0 : ListOk 16) (v0 : Value) (L : List Mx) (vb : Bool) (w : World) (h0 : RowM w v0 L) (hl : L.length ≤ 1048576) (ht : totM L ≤ 1048576) (hok : ∀ m ∈ L, okM m) (hT0 : LTabs w) :
    Calls Tryd.prog 6 #[v0, .bool vb] w fun e w' => e = .returned (.bool true) ∧ Below w.heap.size w w' := by
  obtain ⟨a0, c0, q0, _, _⟩ := h0.form
  obtain ⟨n, hnn⟩ : ∃ n, n = L.length := ⟨_, rfl⟩
  obtain ⟨S, hS⟩ : ∃ S, S = strB (lstsL vb L) := ⟨_, rfl⟩
  have HL := hidK (longer_c v0 L w h0 (by omega))
  subst q0
  have HV := hidK h0
  have HN := hidK hnn
  have HS := hidK hS
  have HT := hidK ht
  have HOK := hidK hok
  have HTB := hidK hT0
  have HPO := hidK HP0
  have HRO := hidK HR0
  have HRP : Hid (∀ W, Below w.heap.size w W → Calls Tryd.prog 16 #[.slice a0 n c0, .bool vb] W fun e w' => e = .returned (.string S) ∧ Below W.heap.size W w') := fun W hb => by
    rw [hS, hnn]; exact HR0 _ L vb W (h0.on hb) (by omega) (by omega) hok (hT0.on hb)
  rw [← hnn] at hl HL HV ⊢
  clear h0 hnn hS ht HP0 HR0 hok hT0
  go_enter Tryd.func6, Tryd.ntmps6
  go_upto_region 2 with (go_at_call 15; refine HL.out.mono ?_; rintro e w1 ⟨u, rfl, ho1, hb1⟩)
  obtain ⟨g, cap, qu, hg, hcap, hcm⟩ := own_slice (by simp) ho1
  rw [List.length_append, List.length_singleton, ← HN.out] at qu hcap
  unfold maxLen at hcm
  subst qu
  have HO1 := hidK ho1
  have HR1 := hidK (show RowM w1 (.slice (some ⟨g, 0, none⟩) n cap) L by
    have h5 := rowG_take (k := n) (OwnM.row ho1) (by rw [List.length_append, List.length_singleton, ← HN.out]) (by omega)
    rw [List.take_append_of_le_length (by have := HN.out; omega), List.take_of_length_le (by have := HN.out; omega)] at h5
    exact h5)
  have HP1 : Hid (Calls Tryd.prog 12 #[.slice (some ⟨g, 0, none⟩) n cap, .bool vb] w1 fun e w' => e = .returned (.string S) ∧ Below w1.heap.size w1 w') := by
    have h5 := HPO.out _ L vb w1 HR1.out (by have := HN.out; omega) (by have := HT.out; omega) HOK.out (HTB.out.on hb1)
    rw [← HS.out] at h5; exact h5
  have hn1 : (n : Int) ≤ (cap : Int) := by omega
  have hn2 : n ≤ cap := by omega
  clear ho1 HR1
  go_upto_region 3 with (go_at_call 12; refine HP1.out.mono ?_; rintro e w2 ⟨rfl, hb2⟩)
  have hb12 := bel3K hb1 hb2
  go_upto_region 4 with (go_at_call 16; refine (HRP.out _ hb12).mono ?_; rintro e w3 ⟨rfl, hb3⟩)
  have hb13 := bel3K hb12 hb3
  have HO3 := hidK (OwnM.on (OwnM.on HO1.out hb2) hb3)
  have HU : Hid (Calls Tryd.prog 17 #[.slice (some ⟨g, 0, none⟩) (n + 1) cap, .slice a0 n c0] w3 fun e w' => e = .returned (.bool true) ∧ Below w3.heap.size w3 w') := unchanged_c _ _ L w3 (OwnM.row HO3.out) (HV.out.on hb13) (by have := HN.out; omega)
  clear HO1 HP1 hb2 hb3 hb12 hb1
  go_upto_region 5 with (go_at_call 17; refine HU.out.mono ?_; rintro e w4 ⟨rfl, hb4⟩)
  have hb14 := bel3K hb13 hb4
  have HO4 := hidK (OwnM.on HO3.out hb4)
  clear HU HO3 hb13 hb4
  by_cases hn0 : n = 0
  · subst hn0
    go_wp2
    go_ret
    exact ⟨rfl, hb14⟩
  · have z1 : ((n : Int) == 0) = false := by simp; omega
    have z2 : decide ((n : Int) = 0) = false := by simp; omega
    have z3 : ¬ ((n : Int) = 0) := by omega
    cases L with
    | nil => exact absurd HN.out hn0
    | cons x r =>
      obtain ⟨dd, uu, gg, mm, nn, zz, dt⟩ := x
      have HO5 : Hid (w4.ownsRow w.heap.size 25 7 (.slice (some ⟨g, 0, none⟩) (n + 1) cap) (⟨dd, uu, gg, mm, nn, zz, dt⟩ :: (r ++ [behM])).length ((⟨dd, uu, gg, mm, nn, zz, dt⟩ :: (r ++ [behM])).flatMap mxL)) := HO4.out
      obtain ⟨x0, x1⟩ := own_cell (i := 4) mxL_len (u := .string nn) rfl HO5.out
      have HO6 := hidK (own_first (i := 4) (x := ⟨dd, uu, gg, mm, nn, zz, dt⟩) (y := ⟨dd, uu, gg, mm, ⟨#[97, 110, 111, 116, 104, 101, 114]⟩, zz, dt⟩) (u := .string ⟨#[97, 110, 111, 116, 104, 101, 114]⟩) (by decide) mxL_len (by decide) rfl HO5.out)
      have hb5 := Below.setCell hb14 (p := ⟨g, 4, none⟩) hg (.string ⟨#[97, 110, 111, 116, 104, 101, 114]⟩)
      obtain ⟨W5, hW5⟩ : ∃ W5, W5 = w4.setCell ⟨g, 4, none⟩ (.string ⟨#[97, 110, 111, 116, 104, 101, 114]⟩) := ⟨_, rfl⟩
      rw [← hW5] at HO6 hb5
      obtain ⟨T, hT⟩ : ∃ T, T = strB (lstsL vb (⟨dd, uu, gg, mm, ⟨#[97, 110, 111, 116, 104, 101, 114]⟩, zz, dt⟩ :: r)) := ⟨_, rfl⟩
      have HR6 := hidK (show RowM W5 (.slice (some ⟨g, 0, none⟩) n cap) (⟨dd, uu, gg, mm, ⟨#[97, 110, 111, 116, 104, 101, 114]⟩, zz, dt⟩ :: r) by
        have h5 := rowG_take (k := n) (OwnM.row (L := ⟨dd, uu, gg, mm, ⟨#[97, 110, 111, 116, 104, 101, 114]⟩, zz, dt⟩ :: (r ++ [behM])) HO6.out) (by have := HN.out; simp at this ⊢; omega) (by omega)
        have h6 : (⟨dd, uu, gg, mm, ⟨#[97, 110, 111, 116, 104, 101, 114]⟩, zz, dt⟩ :: (r ++ [behM])).take n = ⟨dd, uu, gg, mm, ⟨#[97, 110, 111, 116, 104, 101, 114]⟩, zz, dt⟩ :: r := by
          rw [← List.cons_append, List.take_append_of_le_length (by have := HN.out; simp at this ⊢; omega), List.take_of_length_le (by have := HN.out; simp at this ⊢; omega)]
        rw [h6] at h5; exact h5)
      have hl6 : (⟨dd, uu, gg, mm, ⟨#[97, 110, 111, 116, 104, 101, 114]⟩, zz, dt⟩ :: r).length ≤ 2097152 := by have := HN.out; simp at this ⊢; omega
      have ht6 : totM (⟨dd, uu, gg, mm, ⟨#[97, 110, 111, 116, 104, 101, 114]⟩, zz, dt⟩ :: r) ≤ 2097152 := by
        have h5 := HT.out
        unfold totM at h5 ⊢
        simp only [List.map_cons, List.sum_cons] at h5 ⊢
        have h7 : (⟨#[97, 110, 111, 116, 104, 101, 114]⟩ : ByteArray).size ≤ 16 := by decide
        omega
      have hok6 : ∀ m ∈ (⟨dd, uu, gg, mm, ⟨#[97, 110, 111, 116, 104, 101, 114]⟩, zz, dt⟩ : Mx) :: r, okM m := by
        intro m hm
        rcases List.mem_cons.1 hm with rfl | hm
        · exact HOK.out ⟨dd, uu, gg, mm, nn, zz, dt⟩ (by simp)
        · exact HOK.out m (by simp [hm])
      have HPT : Hid (∀ W, Below W5.heap.size W5 W → Calls Tryd.prog 12 #[.slice (some ⟨g, 0, none⟩) n cap, .bool vb] W fun e w' => e = .returned (.string T) ∧ Below W.heap.size W w') := fun W hb => by
        rw [hT]; exact HPO.out _ _ vb W (HR6.out.on hb) hl6 ht6 hok6 (HTB.out.on (bel3K hb5 hb))
      have HRT : Hid (∀ W, Below W5.heap.size W5 W → Calls Tryd.prog 16 #[.slice (some ⟨g, 0, none⟩) n cap, .bool vb] W fun e w' => e = .returned (.string T) ∧ Below W.heap.size W w') := fun W hb => by
        rw [hT]; exact HRO.out _ _ vb W (HR6.out.on hb) hl6 ht6 hok6 (HTB.out.on (bel3K hb5 hb))
      have hn3 : (0 : Int) < (n : Int) + 1 := by omega
      have hn4 : (0 : Int) < ((n + 1 : Nat) : Int) := by omega
      clear HO4 HO5 HO6 HR6 hl6 ht6 hok6 hT HRP HPO HRO
      go_upto_region 7 with fail
      go_upto_region 8 with fail
      rw [← hW5]
      clear hW5 x0 x1
      go_upto_region 9 with (go_at_call 12; refine (HPT.out _ (Below.refl _ _)).mono ?_; rintro e w6 ⟨rfl, hb6⟩)
      go_upto_region 10 with (go_at_call 16; refine (HRT.out _ hb6).mono ?_; rintro e w7 ⟨rfl, hb7⟩)
      go_wp2
      go_ret
      exact ⟨by simp, bel3K (bel3K hb5 hb6) hb7⟩
end Go.Proofs.YtjpoifoejbabiabDoor
