
-- misfit in plain words; checkMix.
import Derived.Test.YtmhamlhmmkbkaaaDoorMX
namespace Go.Proofs.YtmhamlhmmkbkaaaDoor
open Go.ChangeShapes Go.WideShapes Go.ChangeAt Go.RowKit Go.MapKept Go.Shelf
set_option linter.unusedVariables false
set_option maxRecDepth 100000
set_option linter.unusedSimpArgs false
theorem opIs15 (op n : UInt8) : ((op.toNat : Int) != (n.toNat : Int)) = decide (op ≠ n) := by
  by_cases h : op = n
  · subst h; simp
  · rw [u8ne h, decide_eq_true h]
theorem emp15 (p : ByteArray) : p.toList.isEmpty = decide (byL p = []) := by
  rw [ByteArray.toList_eq]
  unfold byL
  cases p.data.toList <;> rfl
theorem misV_mix (p : ByteArray) (op : UInt8) (wh kind : Int) (up det thin dat qu bare : Bool) (hw : wh ≠ 0 ↔ byL p ≠ []) :
    misV p (!p.toList.isEmpty && !decide (op = 109 ∨ op = 114)) (up && ((op.toNat : Int) != 114)) (up && det) (thin && !decide (op = 114 ∨ op = 113)) (thin && (kind == 2)) (dat && ((op.toNat : Int) != 120)) (qu && !decide (op = 114 ∨ op = 113)) (bare && !decide (op = 100 ∨ op = 109 ∨ op = 113 ∨ op = 114)) = byB (mixL op wh up det thin kind dat qu bare (byL p)) := by
  have e0 : (!p.toList.isEmpty && !decide (op = 109 ∨ op = 114)) = decide (wh ≠ 0 ∧ ¬ (op = 109 ∨ op = 114)) := by
    rw [emp15]
    by_cases h : byL p = []
    · have h2 : ¬ wh ≠ 0 := fun q => hw.1 q h
      simp only [h, decide_true, Bool.not_true, Bool.false_and]
      symm
      exact decide_eq_false fun q => h2 q.1
    · have h2 : wh ≠ 0 := hw.2 h
      simp [h, h2]
  have e1 : (up && ((op.toNat : Int) != 114)) = decide (up = true ∧ op ≠ 114) := by
    rw [show ((op.toNat : Int) != 114) = decide (op ≠ 114) from opIs15 op 114]
    cases up <;> simp
  have e2 : (up && det) = decide (up = true ∧ det = true) := by cases up <;> cases det <;> rfl
  have e3 : (thin && !decide (op = 114 ∨ op = 113)) = decide (thin = true ∧ ¬ (op = 114 ∨ op = 113)) := by cases thin <;> simp
  have e4 : (thin && (kind == 2)) = decide (thin = true ∧ kind = 2) := by
    cases thin
    · simp
    · by_cases hk : kind = 2 <;> simp [hk]
  have e5 : (dat && ((op.toNat : Int) != 120)) = decide (dat = true ∧ op ≠ 120) := by
    rw [show ((op.toNat : Int) != 120) = decide (op ≠ 120) from opIs15 op 120]
    cases dat <;> simp
  have e6 : (qu && !decide (op = 114 ∨ op = 113)) = decide (qu = true ∧ ¬ (op = 114 ∨ op = 113)) := by cases qu <;> simp
  have e7 : (bare && !decide (op = 100 ∨ op = 109 ∨ op = 113 ∨ op = 114)) = decide (bare = true ∧ ¬ (op = 100 ∨ op = 109 ∨ op = 113 ∨ op = 114)) := by cases bare <;> simp
  rw [e0, e1, e2, e3, e4, e5, e6, e7]
  unfold misV mixL
  by_cases h0 : wh ≠ 0 ∧ ¬ (op = 109 ∨ op = 114)
  · rw [if_pos (decide_eq_true h0), if_pos h0]; exact (byB_byL p).symm
  rw [if_neg (by simpa using h0), if_neg h0]
  by_cases h1 : up = true ∧ op ≠ 114
  · rw [if_pos (decide_eq_true h1), if_pos h1]; rfl
  rw [if_neg (by simpa using h1), if_neg h1]
  by_cases h2 : up = true ∧ det = true
  · rw [if_pos (decide_eq_true h2), if_pos h2]; rfl
  rw [if_neg (by simpa using h2), if_neg h2]
  by_cases h3 : thin = true ∧ ¬ (op = 114 ∨ op = 113)
  · rw [if_pos (decide_eq_true h3), if_pos h3]; rfl
  rw [if_neg (by simpa using h3), if_neg h3]
  by_cases h4 : thin = true ∧ kind = 2
  · rw [if_pos (decide_eq_true h4), if_pos h4]; rfl
  rw [if_neg (by simpa using h4), if_neg h4]
  by_cases h5 : dat = true ∧ op ≠ 120
  · rw [if_pos (decide_eq_true h5), if_pos h5]; rfl
  rw [if_neg (by simpa using h5), if_neg h5]
  by_cases h6 : qu = true ∧ ¬ (op = 114 ∨ op = 113)
  · rw [if_pos (decide_eq_true h6), if_pos h6]; rfl
  rw [if_neg (by simpa using h6), if_neg h6]
  by_cases h7 : bare = true ∧ ¬ (op = 100 ∨ op = 109 ∨ op = 113 ∨ op = 114)
  · rw [if_pos (decide_eq_true h7), if_pos h7]; rfl
  rw [if_neg (by simpa using h7), if_neg h7]
  rfl
theorem misfit_c (c : Cm) (an : Option Addr) (nl nc : Nat) (p : ByteArray) (w : World) (hw : c.wh ≠ 0 ↔ byL p ≠ []) :
    Calls Tryd.prog 38 #[.agg (cmL c (.slice an nl nc)).toArray, .string p] w fun e w' => e = .returned (.string (byB (mixL c.op c.wh c.up c.det c.thin c.kind c.dat c.qu c.bare (byL p)))) ∧ Below w.heap.size w w' := by
  obtain ⟨prog, op, vb, up, qu, det, dat, bare, thin, kind, wh, anc, arc, nms⟩ := c
  have h1 : ∀ W, Calls Tryd.prog 27 #[.int .u8 (op.toNat : Int), .string ⟨#[109, 114]⟩] W fun e w' => e = .returned (.bool (decide (op = 109 ∨ op = 114))) ∧ w' = W := fun W => by
    have h := isOneOf_c op ⟨#[109, 114]⟩ W
    rwa [show (byL ⟨#[109, 114]⟩).contains op = decide (op = 109 ∨ op = 114) by simp [byL]] at h
  have h2 : ∀ W, Calls Tryd.prog 27 #[.int .u8 (op.toNat : Int), .string ⟨#[114, 113]⟩] W fun e w' => e = .returned (.bool (decide (op = 114 ∨ op = 113))) ∧ w' = W := fun W => by
    have h := isOneOf_c op ⟨#[114, 113]⟩ W
    rwa [show (byL ⟨#[114, 113]⟩).contains op = decide (op = 114 ∨ op = 113) by simp [byL]] at h
  have h3 : ∀ W, Calls Tryd.prog 27 #[.int .u8 (op.toNat : Int), .string ⟨#[100, 109, 113, 114]⟩] W fun e w' => e = .returned (.bool (decide (op = 100 ∨ op = 109 ∨ op = 113 ∨ op = 114))) ∧ w' = W := fun W => by
    have h := isOneOf_c op ⟨#[100, 109, 113, 114]⟩ W
    rwa [show (byL ⟨#[100, 109, 113, 114]⟩).contains op = decide (op = 100 ∨ op = 109 ∨ op = 113 ∨ op = 114) by simp [byL]] at h
  have hm := misfit_b prog (op.toNat : Int) kind wh vb up qu det dat bare thin anc arc p an nl nc _ _ _ (!p.toList.isEmpty) w (hidK h1) (hidK h2) (hidK h3) (by rw [Bool.not_not])
  refine hm.mono ?_
  rintro e w' ⟨rfl, hb⟩
  refine ⟨?_, hb⟩
  have := misV_mix p op wh kind up det thin dat qu bare hw
  rw [this]
def cmLn15 (pr : Int) (r : Rd) (anc arc : ByteArray) : Cm := ⟨pr, opF r.op r.s, r.vb, r.up, r.qu, r.det, r.dat, r.bare, r.thin, r.kind, whOf r.po, anc, arc, []⟩
def mixG (r : Rd) : List UInt8 := mixL (opF r.op r.s) (whOf r.po) r.up r.det r.thin r.kind r.dat r.qu r.bare (poL r.po)
theorem whOf_pl (p : UInt8) : whOf p ≠ 0 ↔ byL (byB (poL p)) ≠ [] := by
  rw [byL_byB]
  unfold whOf poL
  by_cases h : p = 0
  · rw [if_pos h, if_pos h]; simp
  · rw [if_neg h, if_neg h]
    constructor
    · intro _; simp
    · intro _; split <;> decide
def CxPost (w0 : World) (b : Nat) (w : World) (pr : Int) (r : Rd) (anc arc : ByteArray) (L : List ByteArray) (m : List UInt8) (e : Ending) (w' : World) : Prop :=
  Below w0.heap.size w0 w' ∧ ((m = [] ∧ e = .returned (.tuple #[.string ⟨#[]⟩, .int .i64 0]) ∧ Ln w0 b w' pr r anc arc L ∧ Kq b w w') ∨ (m ≠ [] ∧ e = .returned (.tuple #[.string (byB m), .int .i64 155])))
set_option maxHeartbeats 8000000 in
theorem checkMix_c (w0 : World) (b : Nat) (w : World) (pr : Int) (r : Rd) (anc arc : ByteArray) (L : List ByteArray) (h : Ln w0 b w pr r anc arc L) :
    Calls Tryd.prog 23 #[.pointer (some ⟨b, 0, none⟩)] w (CxPost w0 b w pr r anc arc L (mixG r)) := by
  obtain ⟨a, n, c, g1, g2⟩ := h.box
  have HH := hidK h
  unfold lnRow at g2
  have HMF : Hid (∀ W, Calls Tryd.prog 38 #[.agg (cmL (cmLn15 pr r anc arc) (.slice none 0 0)).toArray, .string (byB (poL r.po))] W fun e w' => e = .returned (.string (byB (mixG r))) ∧ Below W.heap.size W w') := fun W => by
    have hm := misfit_c (cmLn15 pr r anc arc) none 0 0 (byB (poL r.po)) W (whOf_pl r.po)
    simp only [byL_byB] at hm
    exact hm
  simp only [cmL, cmLn15] at HMF
  obtain ⟨m, hm⟩ : ∃ m, m = mixG r := ⟨_, rfl⟩
  rw [← hm] at HMF ⊢
  obtain ⟨on, hon⟩ : ∃ on : Int, on = ((opF r.op r.s).toNat : Int) := ⟨_, rfl⟩
  obtain ⟨wo, hwo⟩ : ∃ wo : Int, wo = whOf r.po := ⟨_, rfl⟩
  obtain ⟨ps, hps⟩ : ∃ ps, ps = byB (poL r.po) := ⟨_, rfl⟩
  rw [← hon, ← hwo, ← hps] at g2 HMF
  have x1 := cell_rowK g2 1 _ rfl
  have x2 := cell_rowK g2 2 _ rfl
  have x3 := cell_rowK g2 3 _ rfl
  have x4 := cell_rowK g2 4 _ rfl
  have x5 := cell_rowK g2 5 _ rfl
  have x6 := cell_rowK g2 6 _ rfl
  have x7 := cell_rowK g2 7 _ rfl
  have x8 := cell_rowK g2 8 _ rfl
  have x9 := cell_rowK g2 9 _ rfl
  have x10 := cell_rowK g2 10 _ rfl
  have x11 := cell_rowK g2 11 _ rfl
  have x12 := cell_rowK g2 12 _ rfl
  have x13 := cell_rowK g2 13 _ rfl
  have x14 := cell_rowK g2 14 _ rfl
  have x15 := cell_rowK g2 15 _ rfl
  have KB : Hid (∀ W W', (fun w' : World => w'.cell? ⟨b, 1, none⟩ = some (.int .i64 pr) ∧ w'.cell? ⟨b, 2, none⟩ = some (.int .u8 on) ∧ w'.cell? ⟨b, 3, none⟩ = some (.bool r.vb) ∧ w'.cell? ⟨b, 4, none⟩ = some (.bool r.up) ∧ w'.cell? ⟨b, 5, none⟩ = some (.bool r.qu) ∧ w'.cell? ⟨b, 6, none⟩ = some (.bool r.det) ∧ w'.cell? ⟨b, 7, none⟩ = some (.bool r.dat) ∧ w'.cell? ⟨b, 8, none⟩ = some (.bool r.bare) ∧ w'.cell? ⟨b, 9, none⟩ = some (.bool r.thin) ∧ w'.cell? ⟨b, 10, none⟩ = some (.int .i64 r.kind) ∧ w'.cell? ⟨b, 11, none⟩ = some (.int .i64 wo) ∧ w'.cell? ⟨b, 12, none⟩ = some (.string anc) ∧ w'.cell? ⟨b, 13, none⟩ = some (.string arc) ∧ w'.cell? ⟨b, 14, none⟩ = some (.slice none 0 0) ∧ w'.cell? ⟨b, 15, none⟩ = some (.string ps) ∧ Below w.heap.size w w') W → Below W.heap.size W W' → (fun w' : World => w'.cell? ⟨b, 1, none⟩ = some (.int .i64 pr) ∧ w'.cell? ⟨b, 2, none⟩ = some (.int .u8 on) ∧ w'.cell? ⟨b, 3, none⟩ = some (.bool r.vb) ∧ w'.cell? ⟨b, 4, none⟩ = some (.bool r.up) ∧ w'.cell? ⟨b, 5, none⟩ = some (.bool r.qu) ∧ w'.cell? ⟨b, 6, none⟩ = some (.bool r.det) ∧ w'.cell? ⟨b, 7, none⟩ = some (.bool r.dat) ∧ w'.cell? ⟨b, 8, none⟩ = some (.bool r.bare) ∧ w'.cell? ⟨b, 9, none⟩ = some (.bool r.thin) ∧ w'.cell? ⟨b, 10, none⟩ = some (.int .i64 r.kind) ∧ w'.cell? ⟨b, 11, none⟩ = some (.int .i64 wo) ∧ w'.cell? ⟨b, 12, none⟩ = some (.string anc) ∧ w'.cell? ⟨b, 13, none⟩ = some (.string arc) ∧ w'.cell? ⟨b, 14, none⟩ = some (.slice none 0 0) ∧ w'.cell? ⟨b, 15, none⟩ = some (.string ps) ∧ Below w.heap.size w w') W') := fun W W' h hb => ⟨cell_onG h.1 hb, cell_onG h.2.1 hb, cell_onG h.2.2.1 hb, cell_onG h.2.2.2.1 hb, cell_onG h.2.2.2.2.1 hb, cell_onG h.2.2.2.2.2.1 hb, cell_onG h.2.2.2.2.2.2.1 hb, cell_onG h.2.2.2.2.2.2.2.1 hb, cell_onG h.2.2.2.2.2.2.2.2.1 hb, cell_onG h.2.2.2.2.2.2.2.2.2.1 hb, cell_onG h.2.2.2.2.2.2.2.2.2.2.1 hb, cell_onG h.2.2.2.2.2.2.2.2.2.2.2.1 hb, cell_onG h.2.2.2.2.2.2.2.2.2.2.2.2.1 hb, cell_onG h.2.2.2.2.2.2.2.2.2.2.2.2.2.1 hb, cell_onG h.2.2.2.2.2.2.2.2.2.2.2.2.2.2.1 hb, bel3K h.2.2.2.2.2.2.2.2.2.2.2.2.2.2.2 hb⟩
  have hB0 : Below w.heap.size w w := Below.refl _ _
  clear h g1 g2 hm hon hwo hps
  by_cases hz : m = []
  · have hp : (byB m) = ⟨#[]⟩ := by rw [hz]; rfl
    rw [hp] at HMF
    have HZ := hidK hz
    clear hp hz
    go_enter Tryd.func23, Tryd.ntmps23
    go_upto_region 1 with fail
    go_region_held3 (fun w' : World => w'.cell? ⟨b, 1, none⟩ = some (.int .i64 pr) ∧ w'.cell? ⟨b, 2, none⟩ = some (.int .u8 on) ∧ w'.cell? ⟨b, 3, none⟩ = some (.bool r.vb) ∧ w'.cell? ⟨b, 4, none⟩ = some (.bool r.up) ∧ w'.cell? ⟨b, 5, none⟩ = some (.bool r.qu) ∧ w'.cell? ⟨b, 6, none⟩ = some (.bool r.det) ∧ w'.cell? ⟨b, 7, none⟩ = some (.bool r.dat) ∧ w'.cell? ⟨b, 8, none⟩ = some (.bool r.bare) ∧ w'.cell? ⟨b, 9, none⟩ = some (.bool r.thin) ∧ w'.cell? ⟨b, 10, none⟩ = some (.int .i64 r.kind) ∧ w'.cell? ⟨b, 11, none⟩ = some (.int .i64 wo) ∧ w'.cell? ⟨b, 12, none⟩ = some (.string anc) ∧ w'.cell? ⟨b, 13, none⟩ = some (.string arc) ∧ w'.cell? ⟨b, 14, none⟩ = some (.slice none 0 0) ∧ w'.cell? ⟨b, 15, none⟩ = some (.string ps) ∧ Below w.heap.size w w') (first | exact KB.out _ _ (by assumption) (by assumption) | exact ⟨x1, x2, x3, x4, x5, x6, x7, x8, x9, x10, x11, x12, x13, x14, x15, hB0.drew⟩) ((go_at_call 38; refine (HMF.out _).mono ?_; rintro e w2 ⟨rfl, hb2⟩))
    go_wp2
    go_ret2
    have hbb : Below w.heap.size w w2 := bel3K hB0.drew hb2
    exact ⟨bel3K HH.out.bel hbb, .inl ⟨HZ.out, rfl, HH.out.on hbb, Kq.ofBelow hbb⟩⟩
  · have HZ := hidK hz
    have hp1 : ((byB m).toList == []) = false := by
      rw [ByteArray.toList_eq]
      have : (byB m).data.toList = m := byL_byB m
      rw [this]
      exact beq_eq_false_iff_ne.2 hz
    have hp2 : (byB m).toList.isEmpty = false := by
      rw [emp15, byL_byB]; exact decide_eq_false hz
    obtain ⟨q, hq⟩ : ∃ q, q = byB m := ⟨_, rfl⟩
    have HQ := hidK hq
    rw [← hq] at HMF hp1 hp2
    clear hq hz
    go_enter Tryd.func23, Tryd.ntmps23
    go_upto_region 1 with fail
    go_region_held3 (fun w' : World => w'.cell? ⟨b, 1, none⟩ = some (.int .i64 pr) ∧ w'.cell? ⟨b, 2, none⟩ = some (.int .u8 on) ∧ w'.cell? ⟨b, 3, none⟩ = some (.bool r.vb) ∧ w'.cell? ⟨b, 4, none⟩ = some (.bool r.up) ∧ w'.cell? ⟨b, 5, none⟩ = some (.bool r.qu) ∧ w'.cell? ⟨b, 6, none⟩ = some (.bool r.det) ∧ w'.cell? ⟨b, 7, none⟩ = some (.bool r.dat) ∧ w'.cell? ⟨b, 8, none⟩ = some (.bool r.bare) ∧ w'.cell? ⟨b, 9, none⟩ = some (.bool r.thin) ∧ w'.cell? ⟨b, 10, none⟩ = some (.int .i64 r.kind) ∧ w'.cell? ⟨b, 11, none⟩ = some (.int .i64 wo) ∧ w'.cell? ⟨b, 12, none⟩ = some (.string anc) ∧ w'.cell? ⟨b, 13, none⟩ = some (.string arc) ∧ w'.cell? ⟨b, 14, none⟩ = some (.slice none 0 0) ∧ w'.cell? ⟨b, 15, none⟩ = some (.string ps) ∧ Below w.heap.size w w') (first | exact KB.out _ _ (by assumption) (by assumption) | exact ⟨x1, x2, x3, x4, x5, x6, x7, x8, x9, x10, x11, x12, x13, x14, x15, hB0.drew⟩) ((go_at_call 38; refine (HMF.out _).mono ?_; rintro e w2 ⟨rfl, hb2⟩))
    go_wp2
    go_ret2
    have hbb : Below w.heap.size w w2 := bel3K hB0.drew hb2
    refine ⟨bel3K HH.out.bel hbb, .inr ⟨HZ.out, ?_⟩⟩
    rw [← HQ.out]
    rfl
end Go.Proofs.YtmhamlhmmkbkaaaDoor
