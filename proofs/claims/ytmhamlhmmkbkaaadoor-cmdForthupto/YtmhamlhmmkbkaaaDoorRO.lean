
-- readOperands: the anchor, the archive, the names.
import Derived.Test.YtmhamlhmmkbkaaaDoorKW
import Derived.Test.YtmhamlhmmkbkaaaDoorCZ
import Derived.Deep.RegionHeld3
import Derived.Deep.Cut
namespace Go.Proofs.YtmhamlhmmkbkaaaDoor
open Go.ChangeShapes Go.WideShapes Go.ChangeAt Go.RowKit Go.MapKept Go.Shelf
set_option linter.unusedVariables false
set_option maxRecDepth 100000
set_option linter.unusedSimpArgs false
theorem made_flat {α : Type} (c : α → List Value) (z : Nat) (hz : 0 < z) (hc : ∀ x, (c x).length = z) (x0 : α) (n : Nat) : (madeCells (c x0).toArray (n * z)).toList = (List.replicate n x0).flatMap c := by
  apply List.ext_getElem?
  intro j
  by_cases hj : j < n * z
  · have hk : j / z < n := Nat.div_lt_of_lt_mul (by rw [Nat.mul_comm]; exact hj)
    have hm : j % z < z := Nat.mod_lt _ hz
    have e : j = j / z * z + j % z := by have := Nat.div_add_mod j z; rw [Nat.mul_comm] at this; exact this.symm
    have hr : (List.replicate n x0)[j / z]? = some x0 := by rw [List.getElem?_replicate, if_pos hk]
    have h2 := flatG_get hc (List.replicate n x0) (j / z) (j % z) x0 hr hm
    rw [← e] at h2
    have hcx := hc x0
    have h3 : (c x0)[j % z]? = some ((c x0)[j % z]'(by omega)) := List.getElem?_eq_getElem (by omega)
    rw [h2, h3]
    simp only [madeCells, Array.toList_map, Array.toList_range, List.getElem?_map, List.getElem?_range hj, Option.map_some, List.size_toArray, hcx]
    rw [getElem!_pos (c x0).toArray (j % z) (by simpa [hcx] using hm)]
    simp
  · rw [List.getElem?_eq_none (by rw [Array.length_toList, size_madeCells]; omega), List.getElem?_eq_none (by rw [flatG_len c z hc, List.length_replicate]; omega)]
def zMx : Mx := ⟨0, 0, 0, 0, ⟨#[]⟩, 0, ⟨#[]⟩⟩
theorem mk_texts (n : Nat) (hn : n ≤ 67108864) (W : World) : (Instr.makeSlice 22 (.int .i64 n) (.int .i64 n)).run Tryd.prog W = .ok (.slice (some ⟨W.heap.size, 0, none⟩) n n) (W.alloc (.cells ((List.replicate n (⟨#[]⟩ : ByteArray)).flatMap txL).toArray 9)) := by
  obtain ⟨i0, hi, hz0, hz1, hz2⟩ := info_parts infoTx15
  rw [run_make W 22 9 i0 _ Tryd.underlying22 hi hz0 .i64 .i64 n n (by omega) (by omega) (by rw [hz2]; omega) (by omega), hz1, Int.toNat_natCast, ← made_flat txL 1 (by decide) txL_len (⟨#[]⟩ : ByteArray) n]
  rfl
/-- the command that was read, but for its archive and its names -/
def cmLn (pr : Int) (r : Rd) (anc arc : ByteArray) (nms : List ByteArray) : Cm := ⟨pr, opF r.op r.s, r.vb, r.up, r.qu, r.det, r.dat, r.bare, r.thin, r.kind, whOf r.po, anc, arc, nms⟩
def restG (pr : Int) (r : Rd) (anc : ByteArray) : List ByteArray → Ans
  | [] => .inl (⟨#[]⟩, 156)
  | a :: t => .inr (cmLn pr r anc a t)
def lastG (pr : Int) (r : Rd) (t : List ByteArray) : Ans :=
  if r.po = 0 then restG pr r ⟨#[]⟩ t else match t with
    | [] => .inl (⟨#[]⟩, 157)
    | a :: t => restG pr r a t
def RoPost (w0 : World) (b : Nat) (a : Ans) (e : Ending) (w' : World) : Prop := match a with
  | .inl x => e = .returned (.tuple #[.string x.1, .int .i64 x.2]) ∧ x.2 ≠ 0 ∧ Below w0.heap.size w0 w'
  | .inr c => e = .returned (.tuple #[.string ⟨#[]⟩, .int .i64 0]) ∧ Below w0.heap.size w0 w' ∧ ∃ ws g n ps, w'.heap[b]? = some (.cells #[ws, .int .i64 c.prog, .int .u8 (c.op.toNat : Int), .bool c.vb, .bool c.up, .bool c.qu, .bool c.det, .bool c.dat, .bool c.bare, .bool c.thin, .int .i64 c.kind, .int .i64 c.wh, .string c.anc, .string c.arc, .slice (some ⟨g, 0, none⟩) n n, ps] 43 (0, 0)) ∧ OwnT w0.heap.size w' (.slice (some ⟨g, 0, none⟩) n n) c.nms
theorem whOf_ne {p : UInt8} (h : p ≠ 0) : (whOf p != 0) = true := by
  unfold whOf
  rw [if_neg h]
  split <;> rfl
theorem own_made {w : World} {B g : Nat} {L : List ByteArray} (hB : B ≤ g) (hl : L.length ≤ 67108864) (h : w.heap[g]? = some (.cells (L.flatMap txL).toArray 9 (0, 0))) : OwnT B w (.slice (some ⟨g, 0, none⟩) L.length L.length) L := by
  have e : (L.flatMap txL).length = L.length := by rw [flatG_len txL 1 txL_len, Nat.mul_one]
  refine ⟨by rw [e, Nat.mul_one], .inr ⟨g, L.length, (L.flatMap txL).toArray, rfl, hB, h, Nat.le_refl _, by unfold maxLen; omega, by simpa using e, ?_⟩⟩
  simp only [Nat.mul_one]
  rw [List.take_of_length_le (by simp [e])]
theorem spl_all (L : List ByteArray) : splice ((List.replicate L.length (⟨#[]⟩ : ByteArray)).flatMap txL) 0 (L.flatMap txL) = L.flatMap txL := by
  unfold splice
  rw [List.take_zero, List.nil_append, Nat.zero_add, List.drop_eq_nil_of_le, List.append_nil]
  rw [flatG_len txL 1 txL_len, flatG_len txL 1 txL_len, List.length_replicate]
  exact Nat.le_refl _
set_option maxHeartbeats 4000000 in
theorem ro_a (w0 : World) (b : Nat) (w : World) (pr : Int) (r : Rd) (x : ByteArray) (t : List ByteArray) (h : Ln w0 b w pr r ⟨#[]⟩ ⟨#[]⟩ (x :: t)) (h0 : r.po = 0) (hl : t.length ≤ 16777216) :
    Calls Tryd.prog 24 #[.pointer (some ⟨b, 0, none⟩)] w (RoPost w0 b (.inr (cmLn pr r ⟨#[]⟩ x t))) := by
  obtain ⟨a, n, c, g1, g2⟩ := h.box
  unfold lnRow at g2
  have hw0 : whOf r.po = 0 := by rw [h0]; rfl
  have c11 := cell_rowK g2 11 _ rfl
  rw [hw0] at c11
  have HN := hidK (next_yes_anyW w0 b w pr r ⟨#[]⟩ ⟨#[]⟩ x t h rfl)
  clear g1 g2 hw0 h0 h
  go_enter Tryd.func24, Tryd.ntmps24
  go_upto_region 9 with (go_at_call 32; refine HN.out.mono ?_; rintro e w1 ⟨rfl, l1, k1⟩)
  obtain ⟨a1, n1, c1, r1, g1⟩ := l1.box
  have hn1 : n1 = t.length := by obtain ⟨_, _, e, _⟩ := r1; injection e
  subst hn1
  unfold lnRow at g1
  have HR1 := hidK r1
  clear r1
  go_upto_region 10 with (refine wpList_store_kz rfl rfl _ _ _ rfl b 13 (.string x) rfl rfl _ _ #[.slice a1 t.length c1, .int .i64 pr, .int .u8 ((opF r.op r.s).toNat : Int), .bool r.vb, .bool r.up, .bool r.qu, .bool r.det, .bool r.dat, .bool r.bare, .bool r.thin, .int .i64 r.kind, .int .i64 (whOf r.po), .string ⟨#[]⟩, .string x, .slice none 0 0, .string (byB (poL r.po))] g1 (by kernel_rfl) rfl rfl rfl ?_; intro W2 S2 q2)
  have c0 := cell_rowK S2 0 _ rfl
  have HMK := mk_texts t.length (by omega)
  have hbW : b < W2.heap.size := (Array.getElem?_eq_some_iff.1 S2).1
  have S3 := hupK S2 (.cells ((List.replicate t.length (⟨#[]⟩ : ByteArray)).flatMap txL).toArray 9)
  have HN3 := hidK (heap_alloc_new W2 (.cells ((List.replicate t.length (⟨#[]⟩ : ByteArray)).flatMap txL).toArray 9))
  have HB2 := hidK (q2.belowN l1.bel l1.lo (Nat.le_refl _))
  clear S2 g1
  go_upto_region 11 with (refine wpList_store_kz rfl rfl _ _ _ rfl b 14 (.slice (some ⟨W2.heap.size, 0, none⟩) t.length t.length) rfl rfl _ _ #[.slice a1 t.length c1, .int .i64 pr, .int .u8 ((opF r.op r.s).toNat : Int), .bool r.vb, .bool r.up, .bool r.qu, .bool r.det, .bool r.dat, .bool r.bare, .bool r.thin, .int .i64 r.kind, .int .i64 (whOf r.po), .string ⟨#[]⟩, .string x, .slice (some ⟨W2.heap.size, 0, none⟩) t.length t.length, .string (byB (poL r.po))] S3 (by kernel_rfl) rfl rfl rfl ?_; intro W4 S4 q4)
  have HN4 : Hid (W4.heap[W2.heap.size]? = some (.cells ((List.replicate t.length (⟨#[]⟩ : ByteArray)).flatMap txL).toArray 9 (0, 0))) := q4.keeps (by omega) HN3.out
  have hB4 : Below w0.heap.size w0 W4 := q4.belowN (HB2.out.alloc HB2.out.size _) l1.lo (Nat.le_refl _)
  have HS4 := hidK S4
  have d0 := cell_rowK S4 0 _ rfl
  have d14 := cell_rowK S4 14 _ rfl
  have HB4 := hidK hB4
  have HR4 := hidK (HR1.out.on hB4)
  have hg4 : W2.heap.size < W4.heap.size := (Array.getElem?_eq_some_iff.1 HN4.out).1
  have hw2 : w0.heap.size ≤ W2.heap.size := HB2.out.size
  have KB : Hid (∀ W', Below W2.heap.size W4 W' → W'.cell? ⟨b, 0, none⟩ = some (.slice a1 t.length c1) ∧ W'.cell? ⟨b, 14, none⟩ = some (.slice (some ⟨W2.heap.size, 0, none⟩) t.length t.length) ∧ Below W2.heap.size W4 W') := fun W' hb => ⟨(hb.cell (p := ⟨b, 0, none⟩) hbW).trans d0, (hb.cell (p := ⟨b, 14, none⟩) hbW).trans d14, hb⟩
  have HPO : Hid (0 < (t.flatMap txL).length → (some (⟨W2.heap.size, 0, none⟩ : Addr)) = some ⟨W2.heap.size, 0, none⟩ ∧ ∃ ad, a1 = some ad ∧ ∀ j v, (t.flatMap txL)[j]? = some v → W4.drew.cell? (ad.add j) = some v) := by
    intro hp
    refine ⟨rfl, ?_⟩
    obtain ⟨ao, cp, e, _, _, _, h4⟩ := HR1.out
    injection e with e1 e2 e3
    rw [flatG_len txL 1 txL_len, Nat.mul_one] at hp
    obtain ⟨b9, o9, e4, hc⟩ := h4 hp
    subst e4
    refine ⟨⟨b9, o9, none⟩, e1, fun j v hv => ?_⟩
    have h8 := cell_onG (hc j v hv) HB4.out
    rw [Addr.add_mid]
    exact h8
  clear S4 S3 q4 q2 HN3 HMK c0 hB4 HR1 HB2 HR4
  go_region_held3 (fun w' : World => w'.cell? ⟨b, 0, none⟩ = some (.slice a1 t.length c1) ∧ w'.cell? ⟨b, 14, none⟩ = some (.slice (some ⟨W2.heap.size, 0, none⟩) t.length t.length) ∧ Below W2.heap.size W4 w') (first | exact KB.out _ hb9 | exact KB.out _ (Below.refl _ _).drew) ((refine step_copy_spliceZ rfl (.tmp 54) (.tmp 58) 22 22 rfl 9 1 (by decide) Tryd.underlying22 (by kernel_rfl) (some ⟨W2.heap.size, 0, none⟩) a1 t.length t.length t.length c1 rfl rfl W2.heap.size 0 ((List.replicate t.length (⟨#[]⟩ : ByteArray)).flatMap txL) 9 HN4.out (t.flatMap txL) (by rw [flatG_len txL 1 txL_len]; exact congrArg (fun k => k * 1) (Nat.min_self _).symm) HPO.out (by rw [flatG_len txL 1 txL_len, flatG_len txL 1 txL_len, List.length_replicate]; omega) (flatG_one txL_one t) W2.heap.size W4 (Below.refl _ _).drew (Nat.le_refl _) ?_; intro w9 hs9 hb9))
  go_wp2
  go_ret2
  rw [spl_all] at hs9
  exact ⟨rfl, HB4.out.trans (hb9.mono hw2), _, _, _, _, (hb9.block b hbW).trans HS4.out, own_made hw2 (Nat.le_trans hl (by decide)) hs9.out⟩
set_option maxHeartbeats 4000000 in
theorem ro_b (w0 : World) (b : Nat) (w : World) (pr : Int) (r : Rd) (y x : ByteArray) (t : List ByteArray) (h : Ln w0 b w pr r ⟨#[]⟩ ⟨#[]⟩ (y :: x :: t)) (h0 : r.po ≠ 0) (hl : t.length ≤ 16777216) :
    Calls Tryd.prog 24 #[.pointer (some ⟨b, 0, none⟩)] w (RoPost w0 b (.inr (cmLn pr r y x t))) := by
  obtain ⟨a, n, c, g1, g2⟩ := h.box
  unfold lnRow at g2
  have hw0 : (whOf r.po != 0) = true := whOf_ne h0
  have c11 := cell_rowK g2 11 _ rfl
  have HN := hidK (next_yes_anyW w0 b w pr r ⟨#[]⟩ ⟨#[]⟩ y (x :: t) h rfl)
  have HNN : Hid (∀ W, Ln w0 b W pr r y ⟨#[]⟩ (x :: t) → Calls Tryd.prog 32 #[.pointer (some ⟨b, 0, none⟩), .func (.func 34) #[] #[]] W fun e w' => e = .returned (.tuple #[.string x, .bool true]) ∧ Ln w0 b w' pr r y ⟨#[]⟩ t ∧ Kq b W w') := fun W hW => next_yes_anyW w0 b W pr r y ⟨#[]⟩ x t hW rfl
  clear g1 g2 h0 h
  go_enter Tryd.func24, Tryd.ntmps24
  go_upto_region 5 with (go_at_call 32; refine HN.out.mono ?_; rintro e w1 ⟨rfl, l1, k1⟩)
  obtain ⟨a5, n5, c5, r5, g5⟩ := l1.box
  unfold lnRow at g5
  go_upto_region 6 with (refine wpList_store_kz rfl rfl _ _ _ rfl b 12 (.string y) rfl rfl _ _ #[.slice a5 n5 c5, .int .i64 pr, .int .u8 ((opF r.op r.s).toNat : Int), .bool r.vb, .bool r.up, .bool r.qu, .bool r.det, .bool r.dat, .bool r.bare, .bool r.thin, .int .i64 r.kind, .int .i64 (whOf r.po), .string y, .string ⟨#[]⟩, .slice none 0 0, .string (byB (poL r.po))] g5 (by kernel_rfl) rfl rfl rfl ?_; intro W1 S1 q1)
  have l5 : Ln w0 b W1 pr r y ⟨#[]⟩ (x :: t) := l1.turn q1 l1.ops ⟨_, _, _, r5, S1⟩
  have HL5 := hidK (HNN.out W1 l5)
  clear c11 hw0 g5 r5 S1 HN HNN
  go_upto_region 9 with (go_at_call 32; refine HL5.out.mono ?_; rintro e w5 ⟨rfl, l6, k6⟩)
  obtain ⟨a1, n1, c1, r1, g1⟩ := l6.box
  have hn1 : n1 = t.length := by obtain ⟨_, _, e, _⟩ := r1; injection e
  subst hn1
  unfold lnRow at g1
  have HR1 := hidK r1
  clear r1
  go_upto_region 10 with (refine wpList_store_kz rfl rfl _ _ _ rfl b 13 (.string x) rfl rfl _ _ #[.slice a1 t.length c1, .int .i64 pr, .int .u8 ((opF r.op r.s).toNat : Int), .bool r.vb, .bool r.up, .bool r.qu, .bool r.det, .bool r.dat, .bool r.bare, .bool r.thin, .int .i64 r.kind, .int .i64 (whOf r.po), .string y, .string x, .slice none 0 0, .string (byB (poL r.po))] g1 (by kernel_rfl) rfl rfl rfl ?_; intro W2 S2 q2)
  have c0 := cell_rowK S2 0 _ rfl
  have HMK := mk_texts t.length (by omega)
  have hbW : b < W2.heap.size := (Array.getElem?_eq_some_iff.1 S2).1
  have S3 := hupK S2 (.cells ((List.replicate t.length (⟨#[]⟩ : ByteArray)).flatMap txL).toArray 9)
  have HN3 := hidK (heap_alloc_new W2 (.cells ((List.replicate t.length (⟨#[]⟩ : ByteArray)).flatMap txL).toArray 9))
  have HB2 := hidK (q2.belowN l6.bel l6.lo (Nat.le_refl _))
  clear S2 g1
  go_upto_region 11 with (refine wpList_store_kz rfl rfl _ _ _ rfl b 14 (.slice (some ⟨W2.heap.size, 0, none⟩) t.length t.length) rfl rfl _ _ #[.slice a1 t.length c1, .int .i64 pr, .int .u8 ((opF r.op r.s).toNat : Int), .bool r.vb, .bool r.up, .bool r.qu, .bool r.det, .bool r.dat, .bool r.bare, .bool r.thin, .int .i64 r.kind, .int .i64 (whOf r.po), .string y, .string x, .slice (some ⟨W2.heap.size, 0, none⟩) t.length t.length, .string (byB (poL r.po))] S3 (by kernel_rfl) rfl rfl rfl ?_; intro W4 S4 q4)
  have HN4 : Hid (W4.heap[W2.heap.size]? = some (.cells ((List.replicate t.length (⟨#[]⟩ : ByteArray)).flatMap txL).toArray 9 (0, 0))) := q4.keeps (by omega) HN3.out
  have hB4 : Below w0.heap.size w0 W4 := q4.belowN (HB2.out.alloc HB2.out.size _) l6.lo (Nat.le_refl _)
  have HS4 := hidK S4
  have d0 := cell_rowK S4 0 _ rfl
  have d14 := cell_rowK S4 14 _ rfl
  have HB4 := hidK hB4
  have HR4 := hidK (HR1.out.on hB4)
  have hg4 : W2.heap.size < W4.heap.size := (Array.getElem?_eq_some_iff.1 HN4.out).1
  have hw2 : w0.heap.size ≤ W2.heap.size := HB2.out.size
  have KB : Hid (∀ W', Below W2.heap.size W4 W' → W'.cell? ⟨b, 0, none⟩ = some (.slice a1 t.length c1) ∧ W'.cell? ⟨b, 14, none⟩ = some (.slice (some ⟨W2.heap.size, 0, none⟩) t.length t.length) ∧ Below W2.heap.size W4 W') := fun W' hb => ⟨(hb.cell (p := ⟨b, 0, none⟩) hbW).trans d0, (hb.cell (p := ⟨b, 14, none⟩) hbW).trans d14, hb⟩
  have HPO : Hid (0 < (t.flatMap txL).length → (some (⟨W2.heap.size, 0, none⟩ : Addr)) = some ⟨W2.heap.size, 0, none⟩ ∧ ∃ ad, a1 = some ad ∧ ∀ j v, (t.flatMap txL)[j]? = some v → W4.drew.cell? (ad.add j) = some v) := by
    intro hp
    refine ⟨rfl, ?_⟩
    obtain ⟨ao, cp, e, _, _, _, h4⟩ := HR1.out
    injection e with e1 e2 e3
    rw [flatG_len txL 1 txL_len, Nat.mul_one] at hp
    obtain ⟨b9, o9, e4, hc⟩ := h4 hp
    subst e4
    refine ⟨⟨b9, o9, none⟩, e1, fun j v hv => ?_⟩
    have h8 := cell_onG (hc j v hv) HB4.out
    rw [Addr.add_mid]
    exact h8
  clear S4 S3 q4 q2 HN3 HMK c0 hB4 HR1 HB2 HR4
  go_region_held3 (fun w' : World => w'.cell? ⟨b, 0, none⟩ = some (.slice a1 t.length c1) ∧ w'.cell? ⟨b, 14, none⟩ = some (.slice (some ⟨W2.heap.size, 0, none⟩) t.length t.length) ∧ Below W2.heap.size W4 w') (first | exact KB.out _ hb9 | exact KB.out _ (Below.refl _ _).drew) ((refine step_copy_spliceZ rfl (.tmp 54) (.tmp 58) 22 22 rfl 9 1 (by decide) Tryd.underlying22 (by kernel_rfl) (some ⟨W2.heap.size, 0, none⟩) a1 t.length t.length t.length c1 rfl rfl W2.heap.size 0 ((List.replicate t.length (⟨#[]⟩ : ByteArray)).flatMap txL) 9 HN4.out (t.flatMap txL) (by rw [flatG_len txL 1 txL_len]; exact congrArg (fun k => k * 1) (Nat.min_self _).symm) HPO.out (by rw [flatG_len txL 1 txL_len, flatG_len txL 1 txL_len, List.length_replicate]; omega) (flatG_one txL_one t) W2.heap.size W4 (Below.refl _ _).drew (Nat.le_refl _) ?_; intro w9 hs9 hb9))
  go_wp2
  go_ret2
  rw [spl_all] at hs9
  exact ⟨rfl, HB4.out.trans (hb9.mono hw2), _, _, _, _, (hb9.block b hbW).trans HS4.out, own_made hw2 (Nat.le_trans hl (by decide)) hs9.out⟩
theorem ro_a0 (w0 : World) (b : Nat) (w : World) (pr : Int) (r : Rd) (h : Ln w0 b w pr r ⟨#[]⟩ ⟨#[]⟩ []) (h0 : r.po = 0) :
    Calls Tryd.prog 24 #[.pointer (some ⟨b, 0, none⟩)] w (RoPost w0 b (.inl (⟨#[]⟩, 156))) := by
  obtain ⟨a, n, c, g1, g2⟩ := h.box
  unfold lnRow at g2
  have hw0 : whOf r.po = 0 := by rw [h0]; rfl
  have c11 := cell_rowK g2 11 _ rfl
  rw [hw0] at c11
  have HN := hidK (next_nil_anyW w0 b w pr r ⟨#[]⟩ ⟨#[]⟩ h)
  have HB := hidK h.bel
  clear g1 g2 hw0 h0 h
  go_enter Tryd.func24, Tryd.ntmps24
  go_wp2_with (go_at_call 32; refine HN.out.mono ?_; rintro e w1 ⟨rfl, hw1⟩; rw [hw1]; clear hw1)
  go_ret2
  exact ⟨rfl, show (156 : Int) ≠ 0 from by decide, HB.out⟩
theorem ro_b0 (w0 : World) (b : Nat) (w : World) (pr : Int) (r : Rd) (h : Ln w0 b w pr r ⟨#[]⟩ ⟨#[]⟩ []) (h0 : r.po ≠ 0) :
    Calls Tryd.prog 24 #[.pointer (some ⟨b, 0, none⟩)] w (RoPost w0 b (.inl (⟨#[]⟩, 157))) := by
  obtain ⟨a, n, c, g1, g2⟩ := h.box
  unfold lnRow at g2
  have hw0 : (whOf r.po != 0) = true := whOf_ne h0
  have c11 := cell_rowK g2 11 _ rfl
  have HN := hidK (next_nil_anyW w0 b w pr r ⟨#[]⟩ ⟨#[]⟩ h)
  have HB := hidK h.bel
  clear g1 g2 h0 h
  go_enter Tryd.func24, Tryd.ntmps24
  go_wp2_with (go_at_call 32; refine HN.out.mono ?_; rintro e w1 ⟨rfl, hw1⟩; rw [hw1]; clear hw1)
  go_ret2
  exact ⟨rfl, show (157 : Int) ≠ 0 from by decide, HB.out⟩
theorem ro_b1 (w0 : World) (b : Nat) (w : World) (pr : Int) (r : Rd) (y : ByteArray) (h : Ln w0 b w pr r ⟨#[]⟩ ⟨#[]⟩ [y]) (h0 : r.po ≠ 0) :
    Calls Tryd.prog 24 #[.pointer (some ⟨b, 0, none⟩)] w (RoPost w0 b (.inl (⟨#[]⟩, 156))) := by
  obtain ⟨a, n, c, g1, g2⟩ := h.box
  unfold lnRow at g2
  have hw0 : (whOf r.po != 0) = true := whOf_ne h0
  have c11 := cell_rowK g2 11 _ rfl
  have HN := hidK (next_yes_anyW w0 b w pr r ⟨#[]⟩ ⟨#[]⟩ y [] h rfl)
  have HNN : Hid (∀ W, Ln w0 b W pr r y ⟨#[]⟩ [] → Calls Tryd.prog 32 #[.pointer (some ⟨b, 0, none⟩), .func (.func 34) #[] #[]] W fun e w' => e = .returned (.tuple #[.string ⟨#[]⟩, .bool false]) ∧ w' = W) := fun W hW => next_nil_anyW w0 b W pr r y ⟨#[]⟩ hW
  clear g1 g2 h0 h
  go_enter Tryd.func24, Tryd.ntmps24
  go_upto_region 5 with (go_at_call 32; refine HN.out.mono ?_; rintro e w1 ⟨rfl, l1, k1⟩)
  obtain ⟨a5, n5, c5, r5, g5⟩ := l1.box
  unfold lnRow at g5
  go_upto_region 6 with (refine wpList_store_kz rfl rfl _ _ _ rfl b 12 (.string y) rfl rfl _ _ #[.slice a5 n5 c5, .int .i64 pr, .int .u8 ((opF r.op r.s).toNat : Int), .bool r.vb, .bool r.up, .bool r.qu, .bool r.det, .bool r.dat, .bool r.bare, .bool r.thin, .int .i64 r.kind, .int .i64 (whOf r.po), .string y, .string ⟨#[]⟩, .slice none 0 0, .string (byB (poL r.po))] g5 (by kernel_rfl) rfl rfl rfl ?_; intro W1 S1 q1)
  have l5 : Ln w0 b W1 pr r y ⟨#[]⟩ [] := l1.turn q1 l1.ops ⟨_, _, _, r5, S1⟩
  have HL5 := hidK (HNN.out W1 l5)
  have HB := hidK l5.bel
  clear c11 hw0 g5 r5 S1 HN HNN
  go_wp2_with (go_at_call 32; refine HL5.out.mono ?_; rintro e w5 ⟨rfl, hw1⟩; rw [hw1]; clear hw1)
  go_ret2
  exact ⟨rfl, show (156 : Int) ≠ 0 from by decide, HB.out⟩
theorem operands_c (w0 : World) (b : Nat) (w : World) (pr : Int) (r : Rd) (L : List ByteArray) (h : Ln w0 b w pr r ⟨#[]⟩ ⟨#[]⟩ L) (hl : L.length ≤ 16777216) :
    Calls Tryd.prog 24 #[.pointer (some ⟨b, 0, none⟩)] w (RoPost w0 b (lastG pr r L)) := by
  unfold lastG
  by_cases h0 : r.po = 0
  · rw [if_pos h0]
    cases L with
    | nil => exact ro_a0 w0 b w pr r h h0
    | cons x t => exact ro_a w0 b w pr r x t h h0 (by simp only [List.length_cons] at hl; omega)
  · rw [if_neg h0]
    cases L with
    | nil => exact ro_b0 w0 b w pr r h h0
    | cons y u =>
      cases u with
      | nil => exact ro_b1 w0 b w pr r y h h0
      | cons x t => exact ro_b w0 b w pr r y x t h h0 (by simp only [List.length_cons] at hl; omega)
end Go.Proofs.YtmhamlhmmkbkaaaDoor
