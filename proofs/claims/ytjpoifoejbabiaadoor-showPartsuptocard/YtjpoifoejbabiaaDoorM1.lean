import Derived.Test.YtjpoifoejbabiaaDoorPS
import Derived.Test.YtjpoifoejbabiaaDoorB1
import Derived.Test.YtjpoifoejbabiaaDoorA1
import Derived.Test.YtjpoifoejbabiaaDoorRL
import Derived.Test.YtjpoifoejbabiaaDoorLK
import Derived.Deep.RegionHeld3
import Derived.Deep.Cut
import Derived.BigRegion

-- A builder stands still where nothing below is written; what goes through a list.
namespace Go.Proofs.YtjpoifoejbabiaaDoor
open Go.ChangeShapes Go.WideShapes Go.ChangeAt Go.RowKit
set_option linter.unusedVariables false
set_option maxRecDepth 100000
set_option linter.unusedSimpArgs false
theorem isB_on {B b : Nat} {l : List UInt8} {w w' : World} (h : IsB B b l w) (hb : Below w.heap.size w w') : IsB B b l w' := by
  have key : ∀ p, Lib.BuilderAtF 39 5 B b p (Lib.byteCells l) w → Lib.BuilderAtF 39 5 B b p (Lib.byteCells l) w' := by
    intro p h
    obtain ⟨hB, v, hbk, hown, hne⟩ := h
    exact ⟨hB, v, (hb.block b (blk_lt hbk)).trans hbk, hown.kept (row := none) ⟨hb.os, hb.tape, hb.output, hb.size, fun k hk _ => hb.block k hk⟩ (by cases hv : v.ownBlock <;> simp), hne⟩
  rcases h with h | h
  · exact .inl (key _ h)
  · exact .inr (key _ h)
theorem fm_take {α β : Type} (S : α → List β) {L : List α} {k : Nat} {x : α} (h : L[k]? = some x) : (L.take (k + 1)).flatMap S = (L.take k).flatMap S ++ S x := by
  rw [takeSucc h, List.flatMap_append]; simp
theorem fm_le {α β : Type} (S : α → List β) (L : List α) {k : Nat} : ((L.take k).flatMap S).length ≤ (L.flatMap S).length := by
  have := congrArg List.length (congrArg (List.flatMap S) (List.take_append_drop k L))
  rw [List.flatMap_append, List.length_append] at this
  omega
theorem fm_le1 {α β : Type} (S : α → List β) {L : List α} {k : Nat} {x : α} (h : L[k]? = some x) : ((L.take k).flatMap S).length + (S x).length ≤ (L.flatMap S).length := by
  have := fm_le S L (k := k + 1)
  rw [fm_take S h, List.length_append] at this
  exact this
end Go.Proofs.YtjpoifoejbabiaaDoor

-- show.line: pieces put together to a line.
namespace Go.Proofs.YtjpoifoejbabiaaDoor
open Go.ChangeShapes Go.WideShapes Go.ChangeAt Go.RowKit
set_option linter.unusedVariables false
set_option maxRecDepth 100000
set_option linter.unusedSimpArgs false
theorem join_flat (xs : List ByteArray) : Lib.join (xs.map (·.data.toList)) [] = xs.flatMap lsq := by
  cases xs with
  | nil => rfl
  | cons x r =>
    rw [List.map_cons, Lib.join_cons, List.flatMap_cons]
    congr 1
    unfold Lib.joinTail
    rw [List.flatMap_def, List.map_map]
    rfl
set_option maxHeartbeats 2000000 in
theorem line_c (xs : List ByteArray) (b cap : Nat) (w : World) (hc : ∀ (j : Nat) x, xs[j]? = some x → w.cell? ⟨b, j, none⟩ = some (.string x)) (hb : b < w.heap.size) (hn : xs.length ≤ 1000) (hcap : xs.length ≤ cap) (hl : (xs.flatMap lsq).length ≤ 1099511627776) :
    Calls Tryd.prog 10 #[.slice (some ⟨b, 0, none⟩) xs.length cap] w fun e w' => e = .returned (.string (strB (xs.flatMap lsq ++ [10]))) ∧ Below w.heap.size w w' := by
  have h0 := Tryd.strings_Join b 0 cap xs ⟨#[]⟩ w (fun j x hj => by rw [Nat.zero_add]; exact hc j x hj) hb (by omega) hcap (by show (Lib.join _ []).length ≤ _; rw [join_flat]; omega)
  have e0 : Lib.join (xs.map (·.data.toList)) (⟨#[]⟩ : ByteArray).data.toList = xs.flatMap lsq := join_flat xs
  rw [e0] at h0
  obtain ⟨J, hJ⟩ : ∃ J, J = strB (xs.flatMap lsq) := ⟨_, rfl⟩
  have HJ : Hid (Calls Tryd.prog 19 #[.slice (some ⟨b, 0, none⟩) xs.length cap, .string ⟨#[]⟩] w fun e w' => e = .returned (.string J) ∧ Below w.heap.size w w') := by rw [hJ]; exact h0
  have hs : J.size ≤ 1099511627776 := by rw [hJ, strB_size]; exact hl
  have HF := hidK (show J ++ ⟨#[10]⟩ = strB (xs.flatMap lsq ++ [10]) by rw [hJ, show (⟨#[10]⟩ : ByteArray) = strB [10] from rfl, strB_app])
  have q1 : ¬ (9223372036854775807 < J.size + 1) := by omega
  clear h0 e0 hJ hc hl hn
  go_enter Tryd.func10, Tryd.ntmps10
  go_wp2_with (go_at_call 19; refine HJ.out.mono ?_; rintro e w1 ⟨rfl, hb1⟩)
  go_ret
  exact ⟨by rw [← HF.out]; rfl, hb1⟩
theorem line0_c (w : World) :
    Calls Tryd.prog 10 #[.slice none 0 0] w fun e w' => e = .returned (.string ⟨#[10]⟩) ∧ w' = w := by
  have HJ := hidK (Tryd.strings_Join_none none 0 ⟨#[]⟩ w)
  go_enter Tryd.func10, Tryd.ntmps10
  go_wp2_with (go_at_call 19; refine HJ.out.mono ?_; rintro e w1 ⟨rfl, rfl⟩)
  go_ret
  exact ⟨rfl, rfl⟩
/-- over a row that was just made -/
theorem line_new (xs : List ByteArray) (n : Nat) (hn : n = xs.length) (w W : World) (b : Nat) (hb : W.heap[b]? = some (.cells (xs.map Value.string).toArray 9 (0, 0))) (h1 : xs.length ≤ 1000) (hl : (xs.flatMap lsq).length ≤ 1099511627776) :
    Calls Tryd.prog 10 #[.slice (some ⟨b, 0, none⟩) n n] W fun e w' => e = .returned (.string (strB (xs.flatMap lsq ++ [10]))) ∧ Below W.heap.size W w' := by
  subst hn
  exact line_c xs b _ W (fun j x hj => cell_rowK hb j _ (by simp [hj])) (Array.getElem?_eq_some_iff.1 hb).1 h1 (Nat.le_refl _) hl
end Go.Proofs.YtjpoifoejbabiaaDoor

-- The landed Line.
namespace Go.Proofs.YtjpoifoejbabiaaDoor
open Go.ChangeShapes Go.WideShapes Go.ChangeAt Go.RowKit
set_option linter.unusedVariables false
set_option maxRecDepth 100000
set_option linter.unusedSimpArgs false
theorem decimal_c {n : Int} (h : inI n) (w : World) (hT : LTabs w) :
    Calls Tryd.prog 13 #[.int .i64 n] w fun e w' => e = .returned (.string (itB n)) ∧ Below w.heap.size w w' := by
  have HI := hidK (itoa_c h w hT)
  obtain ⟨I, hI⟩ : ∃ I, I = itB n := ⟨_, rfl⟩
  rw [← hI] at HI ⊢
  clear hI
  go_enter Tryd.func13, Tryd.ntmps13
  go_wp2_with (go_at_call 25; refine HI.out.mono ?_; rintro e w1 ⟨rfl, hb1⟩)
  go_ret
  exact ⟨rfl, hb1⟩
theorem keepL {w wx w' : World} {dd uu gg mm zz : Int} {nn : ByteArray} (h : (wx.cell? ⟨w.heap.size, 0, none⟩ = some (.int .i64 dd) ∧ wx.cell? ⟨w.heap.size, 1, none⟩ = some (.int .i64 uu) ∧ wx.cell? ⟨w.heap.size, 2, none⟩ = some (.int .i64 gg) ∧ wx.cell? ⟨w.heap.size, 3, none⟩ = some (.int .i64 mm) ∧ wx.cell? ⟨w.heap.size, 4, none⟩ = some (.string nn) ∧ wx.cell? ⟨w.heap.size, 5, none⟩ = some (.int .i64 zz) ∧ Below w.heap.size w wx)) (hb : Below wx.heap.size wx w') : (w'.cell? ⟨w.heap.size, 0, none⟩ = some (.int .i64 dd) ∧ w'.cell? ⟨w.heap.size, 1, none⟩ = some (.int .i64 uu) ∧ w'.cell? ⟨w.heap.size, 2, none⟩ = some (.int .i64 gg) ∧ w'.cell? ⟨w.heap.size, 3, none⟩ = some (.int .i64 mm) ∧ w'.cell? ⟨w.heap.size, 4, none⟩ = some (.string nn) ∧ w'.cell? ⟨w.heap.size, 5, none⟩ = some (.int .i64 zz) ∧ Below w.heap.size w w') :=
  ⟨cell_onG h.1 hb, cell_onG h.2.1 hb, cell_onG h.2.2.1 hb, cell_onG h.2.2.2.1 hb, cell_onG h.2.2.2.2.1 hb, cell_onG h.2.2.2.2.2.1 hb, bel3K h.2.2.2.2.2.2 hb⟩
theorem keepNewL {w wx : World} {dd uu gg mm zz : Int} {nn : ByteArray} (h : (wx.cell? ⟨w.heap.size, 0, none⟩ = some (.int .i64 dd) ∧ wx.cell? ⟨w.heap.size, 1, none⟩ = some (.int .i64 uu) ∧ wx.cell? ⟨w.heap.size, 2, none⟩ = some (.int .i64 gg) ∧ wx.cell? ⟨w.heap.size, 3, none⟩ = some (.int .i64 mm) ∧ wx.cell? ⟨w.heap.size, 4, none⟩ = some (.string nn) ∧ wx.cell? ⟨w.heap.size, 5, none⟩ = some (.int .i64 zz) ∧ Below w.heap.size w wx)) (o : Obj) : ((wx.alloc o).cell? ⟨w.heap.size, 0, none⟩ = some (.int .i64 dd) ∧ (wx.alloc o).cell? ⟨w.heap.size, 1, none⟩ = some (.int .i64 uu) ∧ (wx.alloc o).cell? ⟨w.heap.size, 2, none⟩ = some (.int .i64 gg) ∧ (wx.alloc o).cell? ⟨w.heap.size, 3, none⟩ = some (.int .i64 mm) ∧ (wx.alloc o).cell? ⟨w.heap.size, 4, none⟩ = some (.string nn) ∧ (wx.alloc o).cell? ⟨w.heap.size, 5, none⟩ = some (.int .i64 zz) ∧ Below w.heap.size w (wx.alloc o)) := keepL h (bupK (Below.refl _ _) _)
theorem keepDrewL {w wx : World} {dd uu gg mm zz : Int} {nn : ByteArray} (h : (wx.cell? ⟨w.heap.size, 0, none⟩ = some (.int .i64 dd) ∧ wx.cell? ⟨w.heap.size, 1, none⟩ = some (.int .i64 uu) ∧ wx.cell? ⟨w.heap.size, 2, none⟩ = some (.int .i64 gg) ∧ wx.cell? ⟨w.heap.size, 3, none⟩ = some (.int .i64 mm) ∧ wx.cell? ⟨w.heap.size, 4, none⟩ = some (.string nn) ∧ wx.cell? ⟨w.heap.size, 5, none⟩ = some (.int .i64 zz) ∧ Below w.heap.size w wx)) : (wx.drew.cell? ⟨w.heap.size, 0, none⟩ = some (.int .i64 dd) ∧ wx.drew.cell? ⟨w.heap.size, 1, none⟩ = some (.int .i64 uu) ∧ wx.drew.cell? ⟨w.heap.size, 2, none⟩ = some (.int .i64 gg) ∧ wx.drew.cell? ⟨w.heap.size, 3, none⟩ = some (.int .i64 mm) ∧ wx.drew.cell? ⟨w.heap.size, 4, none⟩ = some (.string nn) ∧ wx.drew.cell? ⟨w.heap.size, 5, none⟩ = some (.int .i64 zz) ∧ Below w.heap.size w wx.drew) := ⟨h.1, h.2.1, h.2.2.1, h.2.2.2.1, h.2.2.2.2.1, h.2.2.2.2.2.1, h.2.2.2.2.2.2.drew⟩
set_option maxHeartbeats 8000000 in
theorem Line_ok : LineOk 5 := by
  rintro ⟨dd, uu, gg, mm, nn, zz, dt⟩ w hx hn hT
  obtain ⟨i1, i2, i3, i4, i5⟩ := hx
  simp only [] at i1 i2 i3 i4 i5 hn
  obtain ⟨R, hR⟩ : ∃ R, R = lineB ⟨dd, uu, gg, mm, nn, zz, dt⟩ := ⟨_, rfl⟩
  rw [← hR]
  unfold lineB at hR
  simp only [mxL]
  obtain ⟨A, hA⟩ : ∃ A, A = modeB mm := ⟨_, rfl⟩
  obtain ⟨U, hU⟩ : ∃ U, U = itB uu := ⟨_, rfl⟩
  obtain ⟨G, hG⟩ : ∃ G, G = itB gg := ⟨_, rfl⟩
  obtain ⟨Y, hY⟩ : ∃ Y, Y = itB zz := ⟨_, rfl⟩
  obtain ⟨Z, hZ⟩ : ∃ Z, Z = padB Y := ⟨_, rfl⟩
  obtain ⟨D, hD⟩ : ∃ D, D = dateT dd := ⟨_, rfl⟩
  obtain ⟨Q, hQ⟩ : ∃ Q, Q = strB (QL nn) := ⟨_, rfl⟩
  have hAs : A.size = 9 := by rw [hA]; exact modeB_size mm
  have hUs : U.size ≤ 21 := by rw [hU]; exact itB_size i2
  have hGs : G.size ≤ 21 := by rw [hG]; exact itB_size i3
  have hYs : Y.size ≤ 21 := by rw [hY]; exact itB_size i5
  have hZs : Z.size ≤ 277 := by rw [hZ]; have := padB_size Y; omega
  have hDs : D.size ≤ 200 := by rw [hD]; exact dateT_size dd
  have hQs : Q.size ≤ 8388610 := by rw [hQ, strB_size]; have := QL_len nn; omega
  simp only [] at hR
  rw [← hA, ← hU, ← hG, ← hY, ← hZ, ← hD, ← hQ] at hR
  have hB0 : Below w.heap.size w (w.alloc (.cells #[.int .i64 dd, .int .i64 uu, .int .i64 gg, .int .i64 mm, .string nn, .int .i64 zz, .string dt] 26)) := bupK (Below.refl _ _) _
  have hP0 := heap_alloc_new w (.cells #[.int .i64 dd, .int .i64 uu, .int .i64 gg, .int .i64 mm, .string nn, .int .i64 zz, .string dt] 26)
  have KEEP : ∀ wx w' : World, (wx.cell? ⟨w.heap.size, 0, none⟩ = some (.int .i64 dd) ∧ wx.cell? ⟨w.heap.size, 1, none⟩ = some (.int .i64 uu) ∧ wx.cell? ⟨w.heap.size, 2, none⟩ = some (.int .i64 gg) ∧ wx.cell? ⟨w.heap.size, 3, none⟩ = some (.int .i64 mm) ∧ wx.cell? ⟨w.heap.size, 4, none⟩ = some (.string nn) ∧ wx.cell? ⟨w.heap.size, 5, none⟩ = some (.int .i64 zz) ∧ Below w.heap.size w wx) → Below wx.heap.size wx w' → (w'.cell? ⟨w.heap.size, 0, none⟩ = some (.int .i64 dd) ∧ w'.cell? ⟨w.heap.size, 1, none⟩ = some (.int .i64 uu) ∧ w'.cell? ⟨w.heap.size, 2, none⟩ = some (.int .i64 gg) ∧ w'.cell? ⟨w.heap.size, 3, none⟩ = some (.int .i64 mm) ∧ w'.cell? ⟨w.heap.size, 4, none⟩ = some (.string nn) ∧ w'.cell? ⟨w.heap.size, 5, none⟩ = some (.int .i64 zz) ∧ Below w.heap.size w w') := fun wx w' hS hb => keepL hS hb
  have HM : Hid (∀ wx, (wx.cell? ⟨w.heap.size, 0, none⟩ = some (.int .i64 dd) ∧ wx.cell? ⟨w.heap.size, 1, none⟩ = some (.int .i64 uu) ∧ wx.cell? ⟨w.heap.size, 2, none⟩ = some (.int .i64 gg) ∧ wx.cell? ⟨w.heap.size, 3, none⟩ = some (.int .i64 mm) ∧ wx.cell? ⟨w.heap.size, 4, none⟩ = some (.string nn) ∧ wx.cell? ⟨w.heap.size, 5, none⟩ = some (.int .i64 zz) ∧ Below w.heap.size w wx) → Calls Tryd.prog 12 #[.int .i64 mm] wx fun e w' => e = .returned (.string A) ∧ (w'.cell? ⟨w.heap.size, 0, none⟩ = some (.int .i64 dd) ∧ w'.cell? ⟨w.heap.size, 1, none⟩ = some (.int .i64 uu) ∧ w'.cell? ⟨w.heap.size, 2, none⟩ = some (.int .i64 gg) ∧ w'.cell? ⟨w.heap.size, 3, none⟩ = some (.int .i64 mm) ∧ w'.cell? ⟨w.heap.size, 4, none⟩ = some (.string nn) ∧ w'.cell? ⟨w.heap.size, 5, none⟩ = some (.int .i64 zz) ∧ Below w.heap.size w w')) := fun wx hS => (mode_c mm wx (hT.on hS.2.2.2.2.2.2)).mono fun e w' ⟨he, hb⟩ => ⟨by rw [he, hA], KEEP wx w' hS hb⟩
  have HU : Hid (∀ wx, (wx.cell? ⟨w.heap.size, 0, none⟩ = some (.int .i64 dd) ∧ wx.cell? ⟨w.heap.size, 1, none⟩ = some (.int .i64 uu) ∧ wx.cell? ⟨w.heap.size, 2, none⟩ = some (.int .i64 gg) ∧ wx.cell? ⟨w.heap.size, 3, none⟩ = some (.int .i64 mm) ∧ wx.cell? ⟨w.heap.size, 4, none⟩ = some (.string nn) ∧ wx.cell? ⟨w.heap.size, 5, none⟩ = some (.int .i64 zz) ∧ Below w.heap.size w wx) → Calls Tryd.prog 13 #[.int .i64 uu] wx fun e w' => e = .returned (.string U) ∧ (w'.cell? ⟨w.heap.size, 0, none⟩ = some (.int .i64 dd) ∧ w'.cell? ⟨w.heap.size, 1, none⟩ = some (.int .i64 uu) ∧ w'.cell? ⟨w.heap.size, 2, none⟩ = some (.int .i64 gg) ∧ w'.cell? ⟨w.heap.size, 3, none⟩ = some (.int .i64 mm) ∧ w'.cell? ⟨w.heap.size, 4, none⟩ = some (.string nn) ∧ w'.cell? ⟨w.heap.size, 5, none⟩ = some (.int .i64 zz) ∧ Below w.heap.size w w')) := fun wx hS => (decimal_c i2 wx (hT.on hS.2.2.2.2.2.2)).mono fun e w' ⟨he, hb⟩ => ⟨by rw [he, hU], KEEP wx w' hS hb⟩
  have HG : Hid (∀ wx, (wx.cell? ⟨w.heap.size, 0, none⟩ = some (.int .i64 dd) ∧ wx.cell? ⟨w.heap.size, 1, none⟩ = some (.int .i64 uu) ∧ wx.cell? ⟨w.heap.size, 2, none⟩ = some (.int .i64 gg) ∧ wx.cell? ⟨w.heap.size, 3, none⟩ = some (.int .i64 mm) ∧ wx.cell? ⟨w.heap.size, 4, none⟩ = some (.string nn) ∧ wx.cell? ⟨w.heap.size, 5, none⟩ = some (.int .i64 zz) ∧ Below w.heap.size w wx) → Calls Tryd.prog 13 #[.int .i64 gg] wx fun e w' => e = .returned (.string G) ∧ (w'.cell? ⟨w.heap.size, 0, none⟩ = some (.int .i64 dd) ∧ w'.cell? ⟨w.heap.size, 1, none⟩ = some (.int .i64 uu) ∧ w'.cell? ⟨w.heap.size, 2, none⟩ = some (.int .i64 gg) ∧ w'.cell? ⟨w.heap.size, 3, none⟩ = some (.int .i64 mm) ∧ w'.cell? ⟨w.heap.size, 4, none⟩ = some (.string nn) ∧ w'.cell? ⟨w.heap.size, 5, none⟩ = some (.int .i64 zz) ∧ Below w.heap.size w w')) := fun wx hS => (decimal_c i3 wx (hT.on hS.2.2.2.2.2.2)).mono fun e w' ⟨he, hb⟩ => ⟨by rw [he, hG], KEEP wx w' hS hb⟩
  have HZ : Hid (∀ wx, (wx.cell? ⟨w.heap.size, 0, none⟩ = some (.int .i64 dd) ∧ wx.cell? ⟨w.heap.size, 1, none⟩ = some (.int .i64 uu) ∧ wx.cell? ⟨w.heap.size, 2, none⟩ = some (.int .i64 gg) ∧ wx.cell? ⟨w.heap.size, 3, none⟩ = some (.int .i64 mm) ∧ wx.cell? ⟨w.heap.size, 4, none⟩ = some (.string nn) ∧ wx.cell? ⟨w.heap.size, 5, none⟩ = some (.int .i64 zz) ∧ Below w.heap.size w wx) → Calls Tryd.prog 13 #[.int .i64 zz] wx fun e w' => e = .returned (.string Y) ∧ (w'.cell? ⟨w.heap.size, 0, none⟩ = some (.int .i64 dd) ∧ w'.cell? ⟨w.heap.size, 1, none⟩ = some (.int .i64 uu) ∧ w'.cell? ⟨w.heap.size, 2, none⟩ = some (.int .i64 gg) ∧ w'.cell? ⟨w.heap.size, 3, none⟩ = some (.int .i64 mm) ∧ w'.cell? ⟨w.heap.size, 4, none⟩ = some (.string nn) ∧ w'.cell? ⟨w.heap.size, 5, none⟩ = some (.int .i64 zz) ∧ Below w.heap.size w w')) := fun wx hS => (decimal_c i5 wx (hT.on hS.2.2.2.2.2.2)).mono fun e w' ⟨he, hb⟩ => ⟨by rw [he, hY], KEEP wx w' hS hb⟩
  have HR : Hid (∀ wx, (wx.cell? ⟨w.heap.size, 0, none⟩ = some (.int .i64 dd) ∧ wx.cell? ⟨w.heap.size, 1, none⟩ = some (.int .i64 uu) ∧ wx.cell? ⟨w.heap.size, 2, none⟩ = some (.int .i64 gg) ∧ wx.cell? ⟨w.heap.size, 3, none⟩ = some (.int .i64 mm) ∧ wx.cell? ⟨w.heap.size, 4, none⟩ = some (.string nn) ∧ wx.cell? ⟨w.heap.size, 5, none⟩ = some (.int .i64 zz) ∧ Below w.heap.size w wx) → Calls Tryd.prog 14 #[.string Y, .int .i64 6] wx fun e w' => e = .returned (.string Z) ∧ (w'.cell? ⟨w.heap.size, 0, none⟩ = some (.int .i64 dd) ∧ w'.cell? ⟨w.heap.size, 1, none⟩ = some (.int .i64 uu) ∧ w'.cell? ⟨w.heap.size, 2, none⟩ = some (.int .i64 gg) ∧ w'.cell? ⟨w.heap.size, 3, none⟩ = some (.int .i64 mm) ∧ w'.cell? ⟨w.heap.size, 4, none⟩ = some (.string nn) ∧ w'.cell? ⟨w.heap.size, 5, none⟩ = some (.int .i64 zz) ∧ Below w.heap.size w w')) := fun wx hS => (textRight_c Y wx (by omega)).mono fun e w' ⟨he, hb⟩ => ⟨by rw [he, hZ], KEEP wx w' hS hb⟩
  have HD : Hid (∀ wx, (wx.cell? ⟨w.heap.size, 0, none⟩ = some (.int .i64 dd) ∧ wx.cell? ⟨w.heap.size, 1, none⟩ = some (.int .i64 uu) ∧ wx.cell? ⟨w.heap.size, 2, none⟩ = some (.int .i64 gg) ∧ wx.cell? ⟨w.heap.size, 3, none⟩ = some (.int .i64 mm) ∧ wx.cell? ⟨w.heap.size, 4, none⟩ = some (.string nn) ∧ wx.cell? ⟨w.heap.size, 5, none⟩ = some (.int .i64 zz) ∧ Below w.heap.size w wx) → Calls Tryd.prog 15 #[.int .i64 dd] wx fun e w' => e = .returned (.string D) ∧ (w'.cell? ⟨w.heap.size, 0, none⟩ = some (.int .i64 dd) ∧ w'.cell? ⟨w.heap.size, 1, none⟩ = some (.int .i64 uu) ∧ w'.cell? ⟨w.heap.size, 2, none⟩ = some (.int .i64 gg) ∧ w'.cell? ⟨w.heap.size, 3, none⟩ = some (.int .i64 mm) ∧ w'.cell? ⟨w.heap.size, 4, none⟩ = some (.string nn) ∧ w'.cell? ⟨w.heap.size, 5, none⟩ = some (.int .i64 zz) ∧ Below w.heap.size w w')) := fun wx hS => (date_c dd wx (hT.on hS.2.2.2.2.2.2)).mono fun e w' ⟨he, hb⟩ => ⟨by rw [he, hD], KEEP wx w' hS hb⟩
  have HQ : Hid (∀ wx, (wx.cell? ⟨w.heap.size, 0, none⟩ = some (.int .i64 dd) ∧ wx.cell? ⟨w.heap.size, 1, none⟩ = some (.int .i64 uu) ∧ wx.cell? ⟨w.heap.size, 2, none⟩ = some (.int .i64 gg) ∧ wx.cell? ⟨w.heap.size, 3, none⟩ = some (.int .i64 mm) ∧ wx.cell? ⟨w.heap.size, 4, none⟩ = some (.string nn) ∧ wx.cell? ⟨w.heap.size, 5, none⟩ = some (.int .i64 zz) ∧ Below w.heap.size w wx) → Calls Tryd.prog 11 #[.string nn] wx fun e w' => e = .returned (.string Q) ∧ (w'.cell? ⟨w.heap.size, 0, none⟩ = some (.int .i64 dd) ∧ w'.cell? ⟨w.heap.size, 1, none⟩ = some (.int .i64 uu) ∧ w'.cell? ⟨w.heap.size, 2, none⟩ = some (.int .i64 gg) ∧ w'.cell? ⟨w.heap.size, 3, none⟩ = some (.int .i64 mm) ∧ w'.cell? ⟨w.heap.size, 4, none⟩ = some (.string nn) ∧ w'.cell? ⟨w.heap.size, 5, none⟩ = some (.int .i64 zz) ∧ Below w.heap.size w w')) := fun wx hS => (quote_c nn wx (by omega)).mono fun e w' ⟨he, hb⟩ => ⟨by rw [he, hQ]; rfl, KEEP wx w' hS hb⟩
  have hF : strB ([A, ⟨#[32]⟩, U, ⟨#[47]⟩, G, ⟨#[32]⟩, Z, ⟨#[32]⟩, D, ⟨#[32]⟩, Q].flatMap lsq ++ [10]) = R := by
    rw [hR]
    apply ByteArray.ext
    simp [strB, lsq]
  have HL : Hid (∀ wx b, (wx.cell? ⟨w.heap.size, 0, none⟩ = some (.int .i64 dd) ∧ wx.cell? ⟨w.heap.size, 1, none⟩ = some (.int .i64 uu) ∧ wx.cell? ⟨w.heap.size, 2, none⟩ = some (.int .i64 gg) ∧ wx.cell? ⟨w.heap.size, 3, none⟩ = some (.int .i64 mm) ∧ wx.cell? ⟨w.heap.size, 4, none⟩ = some (.string nn) ∧ wx.cell? ⟨w.heap.size, 5, none⟩ = some (.int .i64 zz) ∧ Below w.heap.size w wx) → wx.heap[b]? = some (.cells #[.string A, .string ⟨#[32]⟩, .string U, .string ⟨#[47]⟩, .string G, .string ⟨#[32]⟩, .string Z, .string ⟨#[32]⟩, .string D, .string ⟨#[32]⟩, .string Q] 9 (0, 0)) → Calls Tryd.prog 10 #[.slice (some ⟨b, 0, none⟩) 11 11] wx fun e w' => e = .returned (.string R) ∧ (w'.cell? ⟨w.heap.size, 0, none⟩ = some (.int .i64 dd) ∧ w'.cell? ⟨w.heap.size, 1, none⟩ = some (.int .i64 uu) ∧ w'.cell? ⟨w.heap.size, 2, none⟩ = some (.int .i64 gg) ∧ w'.cell? ⟨w.heap.size, 3, none⟩ = some (.int .i64 mm) ∧ w'.cell? ⟨w.heap.size, 4, none⟩ = some (.string nn) ∧ w'.cell? ⟨w.heap.size, 5, none⟩ = some (.int .i64 zz) ∧ Below w.heap.size w w')) := fun wx b hS hb => (line_new [A, ⟨#[32]⟩, U, ⟨#[47]⟩, G, ⟨#[32]⟩, Z, ⟨#[32]⟩, D, ⟨#[32]⟩, Q] 11 rfl w wx b hb (by simp) (by
      simp only [List.flatMap_cons, List.flatMap_nil, List.length_append, lsq_size, List.length_nil]
      have e1 : (⟨#[32]⟩ : ByteArray).size = 1 := rfl
      have e2 : (⟨#[47]⟩ : ByteArray).size = 1 := rfl
      omega)).mono fun e w' ⟨he, hb⟩ => ⟨by rw [he, hF], KEEP wx w' hS hb⟩
  have hSw : ((w.alloc (.cells #[.int .i64 dd, .int .i64 uu, .int .i64 gg, .int .i64 mm, .string nn, .int .i64 zz, .string dt] 26)).cell? ⟨w.heap.size, 0, none⟩ = some (.int .i64 dd) ∧ (w.alloc (.cells #[.int .i64 dd, .int .i64 uu, .int .i64 gg, .int .i64 mm, .string nn, .int .i64 zz, .string dt] 26)).cell? ⟨w.heap.size, 1, none⟩ = some (.int .i64 uu) ∧ (w.alloc (.cells #[.int .i64 dd, .int .i64 uu, .int .i64 gg, .int .i64 mm, .string nn, .int .i64 zz, .string dt] 26)).cell? ⟨w.heap.size, 2, none⟩ = some (.int .i64 gg) ∧ (w.alloc (.cells #[.int .i64 dd, .int .i64 uu, .int .i64 gg, .int .i64 mm, .string nn, .int .i64 zz, .string dt] 26)).cell? ⟨w.heap.size, 3, none⟩ = some (.int .i64 mm) ∧ (w.alloc (.cells #[.int .i64 dd, .int .i64 uu, .int .i64 gg, .int .i64 mm, .string nn, .int .i64 zz, .string dt] 26)).cell? ⟨w.heap.size, 4, none⟩ = some (.string nn) ∧ (w.alloc (.cells #[.int .i64 dd, .int .i64 uu, .int .i64 gg, .int .i64 mm, .string nn, .int .i64 zz, .string dt] 26)).cell? ⟨w.heap.size, 5, none⟩ = some (.int .i64 zz) ∧ Below w.heap.size w (w.alloc (.cells #[.int .i64 dd, .int .i64 uu, .int .i64 gg, .int .i64 mm, .string nn, .int .i64 zz, .string dt] 26))) := ⟨cell_rowK hP0 0 _ rfl, cell_rowK hP0 1 _ rfl, cell_rowK hP0 2 _ rfl, cell_rowK hP0 3 _ rfl, cell_rowK hP0 4 _ rfl, cell_rowK hP0 5 _ rfl, hB0⟩
  clear hA hU hG hY hZ hD hQ hR hF hT KEEP hB0 hP0 hAs hUs hGs hYs hZs hDs hQs
  go_enter Tryd.func5, Tryd.ntmps5
  go_upto_region 1 with fail
  go_region_held3 (fun w' => (w'.cell? ⟨w.heap.size, 0, none⟩ = some (.int .i64 dd) ∧ w'.cell? ⟨w.heap.size, 1, none⟩ = some (.int .i64 uu) ∧ w'.cell? ⟨w.heap.size, 2, none⟩ = some (.int .i64 gg) ∧ w'.cell? ⟨w.heap.size, 3, none⟩ = some (.int .i64 mm) ∧ w'.cell? ⟨w.heap.size, 4, none⟩ = some (.string nn) ∧ w'.cell? ⟨w.heap.size, 5, none⟩ = some (.int .i64 zz) ∧ Below w.heap.size w w')) (first | assumption | exact keepDrewL hSw | exact hSw | (refine keepNewL ?_ _; assumption)) (first
    | (go_at_call 12; refine (HM.out _ (by assumption)).mono ?_; rintro e w' ⟨rfl, hS'⟩)
    | (go_at_call_of 13 (Value.int IntKind.i64 uu); refine (HU.out _ (by assumption)).mono ?_; rintro e w' ⟨rfl, hS'⟩)
    | (go_at_call_of 13 (Value.int IntKind.i64 gg); refine (HG.out _ (by assumption)).mono ?_; rintro e w' ⟨rfl, hS'⟩)
    | (go_at_call_of 13 (Value.int IntKind.i64 zz); refine (HZ.out _ (by assumption)).mono ?_; rintro e w' ⟨rfl, hS'⟩)
    | (go_at_call 14; refine (HR.out _ (by assumption)).mono ?_; rintro e w' ⟨rfl, hS'⟩)
    | (go_at_call 15; refine (HD.out _ (by assumption)).mono ?_; rintro e w' ⟨rfl, hS'⟩)
    | (go_at_call 11; refine (HQ.out _ (by assumption)).mono ?_; rintro e w' ⟨rfl, hS'⟩)
    | (go_at_call 10; refine (HL.out _ _ (by first | assumption | (refine keepNewL ?_ _; assumption)) (heap_alloc_new _ _)).mono ?_; rintro e w' ⟨rfl, hS'⟩))
  go_wp2
  go_ret
  exact ⟨rfl, hS'.2.2.2.2.2.2⟩
end Go.Proofs.YtjpoifoejbabiaaDoor
