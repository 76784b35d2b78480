
-- The landed List.
import Derived.Test.YtjpoifoejbabiabDoorLDL
import Derived.Test.YtjpoifoejbabiabDoorEL
import Derived.Test.YtjpoifoejbabiabDoorRI
namespace Go.Proofs.YtjpoifoejbabiabDoor
open Go.ChangeShapes Go.WideShapes Go.ChangeAt Go.RowKit
set_option linter.unusedVariables false
set_option maxRecDepth 100000
set_option linter.unusedSimpArgs false
set_option maxHeartbeats 4000000 in
theorem list1_f (dd uu gg mm zz : Int) (nn dt : ByteArray) (Bv : Nat) (w : World) (hv : w.cell? ⟨Bv, 0, none⟩ = some (.bool false)) (hn : nn.size ≤ 2097152) :
    Calls Tryd.prog 32 #[.agg #[.int .i64 dd, .int .i64 uu, .int .i64 gg, .int .i64 mm, .string nn, .int .i64 zz, .string dt], .pointer (some ⟨Bv, 0, none⟩)] w fun e w' => e = .returned (.string (strB (QL nn ++ [10]))) ∧ Below w.heap.size w w' := by
  have hP0 := heap_alloc_new w (.cells #[.int .i64 dd, .int .i64 uu, .int .i64 gg, .int .i64 mm, .string nn, .int .i64 zz, .string dt] 25)
  have c1 := cell_onG hv (bupK (Below.refl w.heap.size w) (.cells #[.int .i64 dd, .int .i64 uu, .int .i64 gg, .int .i64 mm, .string nn, .int .i64 zz, .string dt] 25))
  have c4 := cell_rowK hP0 4 _ rfl
  obtain ⟨R, hR⟩ : ∃ R, R = strB (QL nn ++ [10]) := ⟨_, rfl⟩
  obtain ⟨Q, hQ⟩ : ∃ Q, Q = strB (QL nn) := ⟨_, rfl⟩
  have hQs : Q.size ≤ 8388610 := by rw [hQ, strB_size]; have := QL_len nn; omega
  have HQ : Hid (∀ w, Calls Tryd.prog 21 #[.string nn] w fun e w' => e = .returned (.string Q) ∧ Below w.heap.size w w') := fun w => by rw [hQ]; exact quote_c nn w (by omega)
  have HL : Hid (∀ (W : World) (b : Nat), W.heap[b]? = some (.cells #[.string Q] 9 (0, 0)) → Calls Tryd.prog 18 #[.slice (some ⟨b, 0, none⟩) 1 1] W fun e w' => e = .returned (.string R) ∧ Below W.heap.size W w') := fun W b hb => by
    have h5 := line_new [Q] 1 rfl w W b hb (by simp) (by simp only [List.flatMap_cons, List.flatMap_nil, List.length_append, lsq_size, List.length_nil]; omega)
    have h6 : strB ([Q].flatMap lsq ++ [10]) = R := by
      rw [hR, hQ]
      simp only [List.flatMap_cons, List.flatMap_nil, List.append_nil, lsq_strB]
    rw [h6] at h5
    exact h5
  rw [← hR]
  clear hR hQ hQs hv hn hP0
  go_enter Tryd.func32, Tryd.ntmps32
  go_wp2_with (first
    | (go_at_call 21; refine (HQ.out _).mono ?_; rintro e w2 ⟨rfl, hb2⟩)
    | (go_at_call 18; refine (HL.out _ _ (heap_alloc_new _ _)).mono ?_; rintro e w4 ⟨rfl, hb4⟩))
  go_ret
  exact ⟨rfl, bel3K (bupK (bel3K (bupK (Below.refl _ _) _) hb2) _) hb4⟩
set_option maxHeartbeats 4000000 in
theorem list1_t (dd uu gg mm zz : Int) (nn dt : ByteArray) (Bv : Nat) (w : World) (hv : w.cell? ⟨Bv, 0, none⟩ = some (.bool true)) (hx : okM ⟨dd, uu, gg, mm, nn, zz, dt⟩) (hn : nn.size ≤ 2097152) (hT : LTabs w) :
    Calls Tryd.prog 32 #[.agg #[.int .i64 dd, .int .i64 uu, .int .i64 gg, .int .i64 mm, .string nn, .int .i64 zz, .string dt], .pointer (some ⟨Bv, 0, none⟩)] w fun e w' => e = .returned (.string (lineB ⟨dd, uu, gg, mm, nn, zz, dt⟩)) ∧ Below w.heap.size w w' := by
  have hP0 := heap_alloc_new w (.cells #[.int .i64 dd, .int .i64 uu, .int .i64 gg, .int .i64 mm, .string nn, .int .i64 zz, .string dt] 25)
  have c1 := cell_onG hv (bupK (Below.refl w.heap.size w) (.cells #[.int .i64 dd, .int .i64 uu, .int .i64 gg, .int .i64 mm, .string nn, .int .i64 zz, .string dt] 25))
  obtain ⟨R, hR⟩ : ∃ R, R = lineB ⟨dd, uu, gg, mm, nn, zz, dt⟩ := ⟨_, rfl⟩
  have HL : Hid (Calls Tryd.prog 7 #[.agg #[.int .i64 dd, .int .i64 uu, .int .i64 gg, .int .i64 mm, .string nn, .int .i64 zz, .string dt]] (w.alloc (.cells #[.int .i64 dd, .int .i64 uu, .int .i64 gg, .int .i64 mm, .string nn, .int .i64 zz, .string dt] 25)) fun e w' => e = .returned (.string R) ∧ Below (w.alloc (.cells #[.int .i64 dd, .int .i64 uu, .int .i64 gg, .int .i64 mm, .string nn, .int .i64 zz, .string dt] 25)).heap.size (w.alloc (.cells #[.int .i64 dd, .int .i64 uu, .int .i64 gg, .int .i64 mm, .string nn, .int .i64 zz, .string dt] 25)) w') := by
    rw [hR]
    exact Line_ok ⟨dd, uu, gg, mm, nn, zz, dt⟩ _ hx hn (hT.on (bupK (Below.refl _ _) _))
  rw [← hR]
  clear hR hT hx hn hv hP0
  go_enter Tryd.func32, Tryd.ntmps32
  go_wp2_with (go_at_call 7; refine HL.out.mono ?_; rintro e w4 ⟨rfl, hb4⟩)
  go_ret
  exact ⟨rfl, bel3K (bupK (Below.refl _ _) _) hb4⟩
set_option maxHeartbeats 4000000 in
theorem List_ok : ListOk 12 := by
  intro v L vb w h hl ht hok hT
  obtain ⟨W, hW⟩ : ∃ W, W = w.alloc (.cells #[.bool vb] 4) := ⟨_, rfl⟩
  have hb : Below w.heap.size w W := by rw [hW]; exact bupK (Below.refl _ _) _
  have hc : W.cell? ⟨w.heap.size, 0, none⟩ = some (.bool vb) := by rw [hW]; exact cell_rowK (heap_alloc_new w _) 0 _ rfl
  have HE : Hid (Calls Tryd.prog 31 #[v, .func (.func 32) #[] #[.pointer (some ⟨w.heap.size, 0, none⟩)]] W fun e w' => e = .returned (.string (strB (L.flatMap (lstL vb)))) ∧ Below W.heap.size W w') := by
    refine eachL_c (lstL vb) w.heap.size v L W (h.on hb) hl (by have := lsts_len vb L hok; unfold lstsL at this; omega) ?_
    rintro ⟨dd, uu, gg, mm, nn, zz, dt⟩ hx W' hb'
    have hc' := cell_onG hc hb'
    have hsz : nn.size ≤ 2097152 := by
      obtain ⟨k, hk⟩ := List.getElem?_of_mem hx
      have := totM_at hk
      simp only [] at this
      omega
    cases vb with
    | false => exact list1_f dd uu gg mm zz nn dt w.heap.size W' hc' hsz
    | true =>
      have h5 := list1_t dd uu gg mm zz nn dt w.heap.size W' hc' (hok _ hx) hsz (hT.on (bel3K hb hb'))
      have e5 : strB (lstL true ⟨dd, uu, gg, mm, nn, zz, dt⟩) = lineB ⟨dd, uu, gg, mm, nn, zz, dt⟩ := strB_lsq _
      rw [e5]
      exact h5
  clear hc h hl ht
  obtain ⟨R, hR⟩ : ∃ R, R = strB (lstsL vb L) := ⟨_, rfl⟩
  rw [← hR]
  have HE2 : Hid (Calls Tryd.prog 31 #[v, .func (.func 32) #[] #[.pointer (some ⟨w.heap.size, 0, none⟩)]] (w.alloc (.cells #[.bool vb] 4)) fun e w' => e = .returned (.string R) ∧ Below W.heap.size W w') := by rw [hR, ← hW]; exact HE.out
  clear hR hW HE
  go_enter Tryd.func12, Tryd.ntmps12
  go_wp2_with (go_at_call 31; refine HE2.out.mono ?_; rintro e w1 ⟨rfl, hb1⟩)
  go_ret
  exact ⟨rfl, bel3K hb hb1⟩
end Go.Proofs.YtjpoifoejbabiabDoor
