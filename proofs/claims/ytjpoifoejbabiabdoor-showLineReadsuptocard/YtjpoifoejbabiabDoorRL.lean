
-- The document's Line.
import Derived.Test.YtjpoifoejbabiabDoorTL
import Derived.Test.YtjpoifoejbabiabDoorDay
import Derived.Deep.RegionHeld3
import Derived.Deep.Cut
import Derived.BigRegion
namespace Go.Proofs.YtjpoifoejbabiabDoor
open Go.ChangeShapes Go.WideShapes Go.ChangeAt Go.RowKit
set_option linter.unusedVariables false
set_option maxRecDepth 100000
set_option linter.unusedSimpArgs false
theorem mName_le (k : Nat) : (mName k).size ≤ 3 := by
  rcases Nat.lt_or_ge k 12 with h | h
  · rw [mName_size k h]; exact Nat.le_refl _
  · unfold mName
    rw [strB_size]
    simp only [List.getD]
    rw [List.getElem?_eq_none (by simpa using h)]
    simp
theorem dateT_size (s : Int) : (dateT s).size ≤ 200 := by
  rcases dateT_ways s with h | ⟨y, m, d, h1, hD, h⟩
  · rw [h]; decide
  · rw [h]
    have hy := IsDay.year_le hD
    have hs : s / 86400 ≤ 11574075 := by have := h1.2; omega
    have h5 := mName_le (m - 1)
    have h6 := dayB_size d
    have h7 := twoB_size (s % 86400 / 3600).toNat
    have h8 := twoB_size (s % 3600 / 60).toNat
    have h0 := hD.1
    have h9 := yearB_size y (by omega) (by omega)
    unfold dateS
    simp only [ByteArray.size_append]
    have e1 : (⟨#[32]⟩ : ByteArray).size = 1 := rfl
    have e2 : (⟨#[58]⟩ : ByteArray).size = 1 := rfl
    omega
set_option maxHeartbeats 8000000 in
theorem rline_c (x : Mx) (hx : okM x) (hn : x.n.size ≤ 2097152) (w : World) (hT : LTabs w) :
    Calls Tryd.prog 14 #[.agg (mxL x).toArray] w fun e w' => e = .returned (.string (lineB x)) ∧ Below w.heap.size w w' := by
  obtain ⟨dd, uu, gg, mm, nn, zz, dt⟩ := x
  obtain ⟨i1, i2, i3, i4, i5⟩ := hx
  simp only [] at i1 i2 i3 i4 i5 hn
  unfold lineB
  simp only [mxL]
  obtain ⟨A, hA⟩ : ∃ A, A = modeB mm := ⟨_, rfl⟩
  obtain ⟨U, hU⟩ : ∃ U, U = itB uu := ⟨_, rfl⟩
  obtain ⟨G, hG⟩ : ∃ G, G = itB gg := ⟨_, rfl⟩
  obtain ⟨Y, hY⟩ : ∃ Y, Y = itB zz := ⟨_, rfl⟩
  obtain ⟨Z, hZ⟩ : ∃ Z, Z = padB Y := ⟨_, rfl⟩
  obtain ⟨D, hD⟩ : ∃ D, D = dateT dd := ⟨_, rfl⟩
  obtain ⟨Q, hQ⟩ : ∃ Q, Q = strB (QL nn) := ⟨_, rfl⟩
  have hAs : A.size = 9 := by rw [hA]; exact modeB_size mm
  have hUs : U.size ≤ 21 := by rw [hU]; exact itB_size i2
  have hGs : G.size ≤ 21 := by rw [hG]; exact itB_size i3
  have hYs : Y.size ≤ 21 := by rw [hY]; exact itB_size i5
  have hZs : Z.size ≤ 277 := by rw [hZ]; have := padB_size Y; omega
  have hDs : D.size ≤ 200 := by rw [hD]; exact dateT_size dd
  have hQs : Q.size ≤ 8388610 := by rw [hQ, strB_size]; have := QL_len nn; omega
  have hB0 : Below w.heap.size w (w.alloc (.cells #[.int .i64 dd, .int .i64 uu, .int .i64 gg, .int .i64 mm, .string nn, .int .i64 zz, .string dt] 25)) := bupK (Below.refl _ _) _
  have hP0 := heap_alloc_new w (.cells #[.int .i64 dd, .int .i64 uu, .int .i64 gg, .int .i64 mm, .string nn, .int .i64 zz, .string dt] 25)
  have KEEP : ∀ wx w' : World, (wx.heap[w.heap.size]? = some (.cells #[.int .i64 dd, .int .i64 uu, .int .i64 gg, .int .i64 mm, .string nn, .int .i64 zz, .string dt] 25 (0, 0)) ∧ Below w.heap.size w wx) → Below wx.heap.size wx w' → (w'.heap[w.heap.size]? = some (.cells #[.int .i64 dd, .int .i64 uu, .int .i64 gg, .int .i64 mm, .string nn, .int .i64 zz, .string dt] 25 (0, 0)) ∧ Below w.heap.size w w') := fun wx w' hS hb => ⟨hkeepK hb hS.1, bel3K hS.2 hb⟩
  have HT := hidK hT
  have HM : Hid (∀ wx, (wx.heap[w.heap.size]? = some (.cells #[.int .i64 dd, .int .i64 uu, .int .i64 gg, .int .i64 mm, .string nn, .int .i64 zz, .string dt] 25 (0, 0)) ∧ Below w.heap.size w wx) → Calls Tryd.prog 33 #[.int .i64 mm] wx fun e w' => e = .returned (.string A) ∧ (w'.heap[w.heap.size]? = some (.cells #[.int .i64 dd, .int .i64 uu, .int .i64 gg, .int .i64 mm, .string nn, .int .i64 zz, .string dt] 25 (0, 0)) ∧ Below w.heap.size w w')) := fun wx hS => (rmode_c mm wx).mono fun e w' ⟨he, hb⟩ => ⟨by rw [he, hA]; rfl, KEEP wx w' hS hb⟩
  have HU : Hid (∀ wx, (wx.heap[w.heap.size]? = some (.cells #[.int .i64 dd, .int .i64 uu, .int .i64 gg, .int .i64 mm, .string nn, .int .i64 zz, .string dt] 25 (0, 0)) ∧ Below w.heap.size w wx) → Calls Tryd.prog 10 #[.int .i64 uu] wx fun e w' => e = .returned (.string U) ∧ (w'.heap[w.heap.size]? = some (.cells #[.int .i64 dd, .int .i64 uu, .int .i64 gg, .int .i64 mm, .string nn, .int .i64 zz, .string dt] 25 (0, 0)) ∧ Below w.heap.size w w')) := fun wx hS => (itoa_c i2 wx (hT.on hS.2)).mono fun e w' ⟨he, hb⟩ => ⟨by rw [he, hU], KEEP wx w' hS hb⟩
  have HG : Hid (∀ wx, (wx.heap[w.heap.size]? = some (.cells #[.int .i64 dd, .int .i64 uu, .int .i64 gg, .int .i64 mm, .string nn, .int .i64 zz, .string dt] 25 (0, 0)) ∧ Below w.heap.size w wx) → Calls Tryd.prog 10 #[.int .i64 gg] wx fun e w' => e = .returned (.string G) ∧ (w'.heap[w.heap.size]? = some (.cells #[.int .i64 dd, .int .i64 uu, .int .i64 gg, .int .i64 mm, .string nn, .int .i64 zz, .string dt] 25 (0, 0)) ∧ Below w.heap.size w w')) := fun wx hS => (itoa_c i3 wx (hT.on hS.2)).mono fun e w' ⟨he, hb⟩ => ⟨by rw [he, hG], KEEP wx w' hS hb⟩
  have HZ : Hid (∀ wx, (wx.heap[w.heap.size]? = some (.cells #[.int .i64 dd, .int .i64 uu, .int .i64 gg, .int .i64 mm, .string nn, .int .i64 zz, .string dt] 25 (0, 0)) ∧ Below w.heap.size w wx) → Calls Tryd.prog 10 #[.int .i64 zz] wx fun e w' => e = .returned (.string Y) ∧ (w'.heap[w.heap.size]? = some (.cells #[.int .i64 dd, .int .i64 uu, .int .i64 gg, .int .i64 mm, .string nn, .int .i64 zz, .string dt] 25 (0, 0)) ∧ Below w.heap.size w w')) := fun wx hS => (itoa_c i5 wx (hT.on hS.2)).mono fun e w' ⟨he, hb⟩ => ⟨by rw [he, hY], KEEP wx w' hS hb⟩
  have HR : Hid (∀ wx, (wx.heap[w.heap.size]? = some (.cells #[.int .i64 dd, .int .i64 uu, .int .i64 gg, .int .i64 mm, .string nn, .int .i64 zz, .string dt] 25 (0, 0)) ∧ Below w.heap.size w wx) → Calls Tryd.prog 34 #[.string Y, .int .i64 6] wx fun e w' => e = .returned (.string Z) ∧ (w'.heap[w.heap.size]? = some (.cells #[.int .i64 dd, .int .i64 uu, .int .i64 gg, .int .i64 mm, .string nn, .int .i64 zz, .string dt] 25 (0, 0)) ∧ Below w.heap.size w w')) := fun wx hS => (shelfref2Right_c Y wx (by omega)).mono fun e w' ⟨he, hb⟩ => ⟨by rw [he, hZ], KEEP wx w' hS hb⟩
  have HD : Hid (∀ wx, (wx.heap[w.heap.size]? = some (.cells #[.int .i64 dd, .int .i64 uu, .int .i64 gg, .int .i64 mm, .string nn, .int .i64 zz, .string dt] 25 (0, 0)) ∧ Below w.heap.size w wx) → Calls Tryd.prog 35 #[.int .i64 dd] wx fun e w' => e = .returned (.string D) ∧ (w'.heap[w.heap.size]? = some (.cells #[.int .i64 dd, .int .i64 uu, .int .i64 gg, .int .i64 mm, .string nn, .int .i64 zz, .string dt] 25 (0, 0)) ∧ Below w.heap.size w w')) := fun wx hS => (rdate_c dd wx (hT.on hS.2)).mono fun e w' ⟨he, hb⟩ => ⟨by rw [he, hD], KEEP wx w' hS hb⟩
  have HQ : Hid (∀ wx, (wx.heap[w.heap.size]? = some (.cells #[.int .i64 dd, .int .i64 uu, .int .i64 gg, .int .i64 mm, .string nn, .int .i64 zz, .string dt] 25 (0, 0)) ∧ Below w.heap.size w wx) → Calls Tryd.prog 36 #[.string nn] wx fun e w' => e = .returned (.string Q) ∧ (w'.heap[w.heap.size]? = some (.cells #[.int .i64 dd, .int .i64 uu, .int .i64 gg, .int .i64 mm, .string nn, .int .i64 zz, .string dt] 25 (0, 0)) ∧ Below w.heap.size w w')) := fun wx hS => (rquote_c nn wx (by omega)).mono fun e w' ⟨he, hb⟩ => ⟨by rw [he, hQ]; rfl, KEEP wx w' hS hb⟩
  obtain ⟨P1, h1⟩ : ∃ P, A ++ ⟨#[32]⟩ = P := ⟨_, rfl⟩
  have s1 : P1.size ≤ 10 := by rw [← h1, ByteArray.size_append]; have : (⟨#[32]⟩ : ByteArray).size = 1 := rfl; omega
  have q2 : ¬ (9223372036854775807 < P1.size + U.size) := by omega
  obtain ⟨P2, h2⟩ : ∃ P, P1 ++ U = P := ⟨_, rfl⟩
  have s2 : P2.size ≤ 31 := by rw [← h2, ByteArray.size_append]; omega
  have q3 : ¬ (9223372036854775807 < P2.size + 1) := by omega
  obtain ⟨P3, h3⟩ : ∃ P, P2 ++ ⟨#[47]⟩ = P := ⟨_, rfl⟩
  have s3 : P3.size ≤ 32 := by rw [← h3, ByteArray.size_append]; have : (⟨#[47]⟩ : ByteArray).size = 1 := rfl; omega
  have q4 : ¬ (9223372036854775807 < P3.size + G.size) := by omega
  obtain ⟨P4, h4⟩ : ∃ P, P3 ++ G = P := ⟨_, rfl⟩
  have s4 : P4.size ≤ 53 := by rw [← h4, ByteArray.size_append]; omega
  have q5 : ¬ (9223372036854775807 < P4.size + 1) := by omega
  obtain ⟨P5, h5⟩ : ∃ P, P4 ++ ⟨#[32]⟩ = P := ⟨_, rfl⟩
  have s5 : P5.size ≤ 54 := by rw [← h5, ByteArray.size_append]; have : (⟨#[32]⟩ : ByteArray).size = 1 := rfl; omega
  have q6 : ¬ (9223372036854775807 < P5.size + Z.size) := by omega
  obtain ⟨P6, h6⟩ : ∃ P, P5 ++ Z = P := ⟨_, rfl⟩
  have s6 : P6.size ≤ 331 := by rw [← h6, ByteArray.size_append]; omega
  have q7 : ¬ (9223372036854775807 < P6.size + 1) := by omega
  obtain ⟨P7, h7⟩ : ∃ P, P6 ++ ⟨#[32]⟩ = P := ⟨_, rfl⟩
  have s7 : P7.size ≤ 332 := by rw [← h7, ByteArray.size_append]; have : (⟨#[32]⟩ : ByteArray).size = 1 := rfl; omega
  have q8 : ¬ (9223372036854775807 < P7.size + D.size) := by omega
  obtain ⟨P8, h8⟩ : ∃ P, P7 ++ D = P := ⟨_, rfl⟩
  have s8 : P8.size ≤ 532 := by rw [← h8, ByteArray.size_append]; omega
  have q9 : ¬ (9223372036854775807 < P8.size + 1) := by omega
  obtain ⟨P9, h9⟩ : ∃ P, P8 ++ ⟨#[32]⟩ = P := ⟨_, rfl⟩
  have s9 : P9.size ≤ 533 := by rw [← h9, ByteArray.size_append]; have : (⟨#[32]⟩ : ByteArray).size = 1 := rfl; omega
  have q10 : ¬ (9223372036854775807 < P9.size + Q.size) := by omega
  obtain ⟨P10, h10⟩ : ∃ P, P9 ++ Q = P := ⟨_, rfl⟩
  have s10 : P10.size ≤ 8389143 := by rw [← h10, ByteArray.size_append]; omega
  have q11 : ¬ (9223372036854775807 < P10.size + 1) := by omega
  obtain ⟨P11, h11⟩ : ∃ P, P10 ++ ⟨#[10]⟩ = P := ⟨_, rfl⟩
  have s11 : P11.size ≤ 8389144 := by rw [← h11, ByteArray.size_append]; have : (⟨#[10]⟩ : ByteArray).size = 1 := rfl; omega
  rw [← hA, ← hU, ← hG, ← hY, ← hZ, ← hD, ← hQ]
  have HF := hidK (show A ++ ⟨#[32]⟩ ++ U ++ ⟨#[47]⟩ ++ G ++ ⟨#[32]⟩ ++ Z ++ ⟨#[32]⟩ ++ D ++ ⟨#[32]⟩ ++ Q ++ ⟨#[10]⟩ = P11 by rw [h1, h2, h3, h4, h5, h6, h7, h8, h9, h10, h11])
  rw [HF.out]
  have hS0 : (w.alloc (.cells #[.int .i64 dd, .int .i64 uu, .int .i64 gg, .int .i64 mm, .string nn, .int .i64 zz, .string dt] 25)).heap[w.heap.size]? = some (.cells #[.int .i64 dd, .int .i64 uu, .int .i64 gg, .int .i64 mm, .string nn, .int .i64 zz, .string dt] 25 (0, 0)) ∧ Below w.heap.size w (w.alloc (.cells #[.int .i64 dd, .int .i64 uu, .int .i64 gg, .int .i64 mm, .string nn, .int .i64 zz, .string dt] 25)) := ⟨hP0, hB0⟩
  have HUE := hidK hU
  have HGE := hidK hG
  clear hA hU hG hY hZ hD hQ hT KEEP hB0
  have x0 := cell_rowK hP0 0 _ rfl
  have x3 := cell_rowK hP0 3 _ rfl
  go_enter Tryd.func14, Tryd.ntmps14
  go_upto_region 2 with (go_at_call 33; refine (HM.out _ hS0).mono ?_; rintro e w1 ⟨rfl, hS1⟩)
  have x5 := cell_rowK hS1.1 5 _ rfl
  go_upto_region 3 with (first | (go_at_call 10; refine (HZ.out _ hS1).mono ?_; rintro e w2 ⟨rfl, hS2⟩) | (go_at_call 34; refine (HR.out _ hS2).mono ?_; rintro e w3 ⟨rfl, hS3⟩))
  have x0 := cell_rowK hS3.1 0 _ rfl
  go_upto_region 4 with (go_at_call 35; refine (HD.out _ hS3).mono ?_; rintro e w4 ⟨rfl, hS4⟩)
  have x4 := cell_rowK hS4.1 4 _ rfl
  go_upto_region 5 with (go_at_call 36; refine (HQ.out _ hS4).mono ?_; rintro e w5 ⟨rfl, hS5⟩)
  have K5 : ∀ wx w' : World, (wx.cell? ⟨w.heap.size, 1, none⟩ = some (.int .i64 uu) ∧ wx.cell? ⟨w.heap.size, 2, none⟩ = some (.int .i64 gg) ∧ Below w.heap.size w wx) → Below wx.heap.size wx w' → (w'.cell? ⟨w.heap.size, 1, none⟩ = some (.int .i64 uu) ∧ w'.cell? ⟨w.heap.size, 2, none⟩ = some (.int .i64 gg) ∧ Below w.heap.size w w') := fun wx w' hS hb => ⟨cell_onG hS.1 hb, cell_onG hS.2.1 hb, bel3K hS.2.2 hb⟩
  have HU5 : Hid (∀ wx, (wx.cell? ⟨w.heap.size, 1, none⟩ = some (.int .i64 uu) ∧ wx.cell? ⟨w.heap.size, 2, none⟩ = some (.int .i64 gg) ∧ Below w.heap.size w wx) → Calls Tryd.prog 10 #[.int .i64 uu] wx fun e w' => e = .returned (.string U) ∧ (w'.cell? ⟨w.heap.size, 1, none⟩ = some (.int .i64 uu) ∧ w'.cell? ⟨w.heap.size, 2, none⟩ = some (.int .i64 gg) ∧ Below w.heap.size w w')) := fun wx hS => (itoa_c i2 wx (HT.out.on hS.2.2)).mono fun e w' ⟨he, hb⟩ => ⟨by rw [he, HUE.out], K5 wx w' hS hb⟩
  have HG5 : Hid (∀ wx, (wx.cell? ⟨w.heap.size, 1, none⟩ = some (.int .i64 uu) ∧ wx.cell? ⟨w.heap.size, 2, none⟩ = some (.int .i64 gg) ∧ Below w.heap.size w wx) → Calls Tryd.prog 10 #[.int .i64 gg] wx fun e w' => e = .returned (.string G) ∧ (w'.cell? ⟨w.heap.size, 1, none⟩ = some (.int .i64 uu) ∧ w'.cell? ⟨w.heap.size, 2, none⟩ = some (.int .i64 gg) ∧ Below w.heap.size w w')) := fun wx hS => (itoa_c i3 wx (HT.out.on hS.2.2)).mono fun e w' ⟨he, hb⟩ => ⟨by rw [he, HGE.out], K5 wx w' hS hb⟩
  have hSw : w5.cell? ⟨w.heap.size, 1, none⟩ = some (.int .i64 uu) ∧ w5.cell? ⟨w.heap.size, 2, none⟩ = some (.int .i64 gg) ∧ Below w.heap.size w w5 := ⟨cell_rowK hS5.1 1 _ rfl, cell_rowK hS5.1 2 _ rfl, hS5.2⟩
  clear K5 hS0 hS1 hS2 hS3 hS4 hS5 HM HU HG HZ HR HD HQ x0 x3 x4 x5 hP0
  go_region_held3 (fun w' => (w'.cell? ⟨w.heap.size, 1, none⟩ = some (.int .i64 uu) ∧ w'.cell? ⟨w.heap.size, 2, none⟩ = some (.int .i64 gg) ∧ Below w.heap.size w w')) (first | assumption | exact ⟨hSw.1, hSw.2.1, hSw.2.2.drew⟩) (first
    | (go_at_call_of 10 (Value.int IntKind.i64 uu); refine (HU5.out _ (by assumption)).mono ?_; rintro e w' ⟨rfl, hS'⟩)
    | (go_at_call_of 10 (Value.int IntKind.i64 gg); refine (HG5.out _ (by assumption)).mono ?_; rintro e w' ⟨rfl, hS'⟩))
  go_wp2
  go_ret
  exact ⟨rfl, hS'.2.2⟩
end Go.Proofs.YtjpoifoejbabiabDoor
