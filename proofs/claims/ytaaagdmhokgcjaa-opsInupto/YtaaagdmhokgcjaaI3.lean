
-- newInsertion, Insert: contracts.
import Derived.Test.YtaaagdmhokgcjaaI2
import Derived.Test.YtaaagdmhokgcjaaP1
namespace Go.Proofs.Ytaaagdmhokgcjaa
open Go.ChangeShapes Go.WideShapes Go.ChangeAt Go.RowKit
set_option linter.unusedVariables false
set_option maxRecDepth 100000
set_option linter.unusedSimpArgs false
set_option maxHeartbeats 8000000 in
theorem newIns_c (v : Value) (L : List Mx) (w : World) (h : RowM w v L) (hl : L.length ≤ 16777216) :
    Calls Try.prog 31 #[v] w fun e w' => ∃ B ib gm, e = .returned (.pointer (some ⟨ib, 0, none⟩)) ∧ InsAt B ib gm w' L ∧ w.heap.size ≤ B ∧ w.heap.size ≤ ib ∧ w.heap.size ≤ gm ∧ Below w.heap.size w w' := by
  obtain ⟨ao, c1, q1, hnc, hcm, hnil, hcell⟩ := h
  obtain ⟨Z, hZ, hmk⟩ := mk_mems L.length (by omega)
  have HNB := hidK (numbers_c v L w ⟨ao, c1, q1, hnc, hcm, hnil, hcell⟩ hl)
  have HV : Hid (RowM w v L) := ⟨ao, c1, q1, hnc, hcm, hnil, hcell⟩
  obtain ⟨n, hnn⟩ : ∃ n, n = L.length := ⟨_, rfl⟩
  have HN := hidK hnn
  have HZ := hidK hZ
  have HCS : Hid ((L.flatMap mxL).length = n * 7) := by show _ = _; rw [flatG_len mxL 7 mxL_len, hnn]
  obtain ⟨cs, hcs⟩ : ∃ cs, cs = L.flatMap mxL := ⟨_, rfl⟩
  have HCE := hidK hcs
  have HCELL : Hid (0 < cs.length → ∃ ad, ao = some ad ∧ ∀ j v, cs[j]? = some v → w.cell? (ad.add j) = some v) := by
    intro hp
    rw [hcs, flatG_len mxL 7 mxL_len] at hp
    obtain ⟨b, off, e, hc⟩ := hcell (by omega)
    exact ⟨_, e, fun j v hj => by rw [Addr.add_mid]; rw [hcs] at hj; exact hc j v hj⟩
  have HONE : Hid (∀ u ∈ cs, u.oneCell' = true) := by rw [hcs]; exact flatG_one mxL_one L
  rw [← hcs] at HCS
  subst q1
  rw [← hnn] at hmk HZ HNB hl ⊢
  clear hnn hZ hnc hcm hnil hcell hcs
  obtain ⟨gm, hgm⟩ : ∃ gm, gm = w.heap.size := ⟨_, rfl⟩
  have HGM := hidK hgm
  go_enter Try.func31, Try.ntmps31
  go_upto_region 2 with (go_at_call 27; refine HNB.out.mono ?_; rintro e w1 ⟨rfl, hM1, _, hb1⟩)
  rw [← hgm] at hM1 ⊢
  have HM1 := hidK hM1
  have HB1 := hidK hb1
  have hs1 := hb1.size
  have hb2 : Below w.heap.size w (w1.alloc (.cells Z.toArray 32)) := bupK2 hb1 _
  have HG2 := hidK (heap_alloc_new w1 (.cells Z.toArray 32))
  have HM2 := hidK (HM1.out.on (bupK (Below.refl _ _) (.cells Z.toArray 32)))
  have HB2 : Hid (Below w1.heap.size w1 (w1.alloc (.cells Z.toArray 32))) := bupK (Below.refl _ _) _
  clear hM1 hgm
  go_upto_region 4 with (refine wpList_copy_spliceZ rfl (.tmp 14) (.tmp 15) 22 22 rfl 32 7 (by decide) Try.underlying22 sizeMx (some ⟨w1.heap.size, 0, none⟩) ao n n n c1 rfl rfl w1.heap.size 0 Z 32 HG2.out cs (by rw [HCS.out]; simp only [Nat.min_def]; split <;> omega) (by intro h; obtain ⟨ad2, e, hc⟩ := HCELL.out h; exact ⟨rfl, ad2, e, fun j v hj => (hb2.cell (World.block_lt_of_cell? _ _ (hc j v hj))).trans (hc j v hj)⟩) (by rw [HCS.out, HZ.out]; omega) HONE.out w1.heap.size w1 HB2.out (Nat.le_refl _) ?_; intro w3 HG3 hb3)
  have HR3 : Hid (w3.heap[w1.heap.size]? = some (.cells (L.flatMap mxL).toArray 32 (0, 0))) := by
    have e : splice Z 0 cs = cs := by unfold splice; rw [List.take_zero, List.nil_append, List.drop_eq_nil_of_le (by rw [HCS.out, HZ.out]; omega), List.append_nil]
    have := HG3.out
    rw [e, HCE.out] at this
    exact this
  have hsz3 : w1.heap.size < w3.heap.size := (Array.getElem?_eq_some_iff.1 HR3.out).1
  have HO3 : Hid (OwnM w1.heap.size w3 (.slice (some ⟨w1.heap.size, 0, none⟩) n n) L) := own_whole HN.out.symm (Nat.le_refl _) (by unfold maxLen; omega) HR3.out
  have HM3 := hidK (HM1.out.on hb3)
  have HB3 := hidK (bel3K HB1.out hb3)
  clear HM2 HB2 HG2 HG3 hb3 hb2 HR3
  go_wp2
  go_ret
  refine ⟨w1.heap.size, w3.heap.size, gm, rfl, ⟨_, heap_alloc_new w3 _, HO3.out.on (bupK (Below.refl _ _) _), ?_, by rw [World.size_alloc]; omega⟩, hs1, Nat.le_trans hs1 (Nat.le_of_lt hsz3), by rw [HGM.out]; exact Nat.le_refl _, bupK2 HB3.out _⟩
  rw [← fromF_mapN]
  exact HM3.out.on (bupK (Below.refl _ _) _)
/-- events -/
theorem infoEv : (Try.prog.info? 46).map (fun i => (i.zero, i.size, i.bytes)) = some (some (.agg #[.int .u8 0, .string ⟨#[]⟩]), 2, 24) := by kernel_rfl
def zEv : Ev := ⟨0, ⟨#[]⟩⟩
theorem mk_evs (n : Nat) (hn : n ≤ 67108864) (W : World) : (Instr.makeSlice 40 (.int .i64 n) (.int .i64 n)).run Try.prog W = .ok (.slice (some ⟨W.heap.size, 0, none⟩) n n) (W.alloc (.cells ((List.replicate n zEv).flatMap evL).toArray 46)) := by
  obtain ⟨i0, hi, hz0, hz1, hz2⟩ := info_parts infoEv
  rw [run_make W 40 46 i0 _ Try.underlying40 hi hz0 .i64 .i64 n n (by omega) (by omega) (by rw [hz2]; omega) (by omega), hz1, Int.toNat_natCast, ← made_flat evL 2 (by decide) evL_len zEv n]
  rfl
def OwnE (B : Nat) (w : World) (v : Value) (L : List Ev) : Prop := w.ownsRow B 46 2 v L.length (L.flatMap evL)
theorem OwnE.row {B : Nat} {w : World} {v : Value} {L : List Ev} (h : OwnE B w v L) : RowE w v L := rowG_own (by decide) evL_len h
theorem OwnE.on {B : Nat} {w w' : World} {v : Value} {L : List Ev} (h : OwnE B w v L) (hb : Below w.heap.size w w') : OwnE B w' v L := ownG_on h hb
theorem OwnE.le {B B' : Nat} {w : World} {v : Value} {L : List Ev} (h : OwnE B' w v L) (hb : B ≤ B') : OwnE B w v L := ownG_le h hb
def insX (L M : List Mx) (pw : Int) (pa : ByteArray) (u : Bool) : List Mx := match spotO L pw pa with | some p => ((insL L M u M.length).take L.length).take p ++ ((insL L M u M.length).drop L.length ++ ((insL L M u M.length).take L.length).drop p) | none => []
def insY (L M : List Mx) (pw : Int) (pa : ByteArray) (u : Bool) : List Ev := match spotO L pw pa with | some _ => insE L M u M.length | none => []
def insC (L M : List Mx) (pw : Int) (pa : ByteArray) : Int := match spotO L pw pa with | some _ => 0 | none => 131
/-- the two parts of the list -/
theorem parts_row {B g n cap k : Nat} {w : World} {ms : List Mx} (ho : w.ownsRow B 32 7 (.slice (some ⟨g, 0, none⟩) n cap) n (ms.flatMap mxL)) (hn : ms.length = n) (hk : k ≤ n) : RowM w (.slice (some ⟨g, 0, none⟩) k cap) (ms.take k) ∧ (k < cap → RowM w (.slice (some ⟨g, k * 7, none⟩) (n - k) (cap - k)) (ms.drop k)) := by
  obtain ⟨cur, h1, h2, h3, h4, h5, h6, h7⟩ := ownG_cur mxL 7 (by decide) mxL_len ho
  have hcell : ∀ j u, (ms.flatMap mxL)[j]? = some u → w.cell? ⟨g, j, none⟩ = some u := by
    intro j u hu
    refine cell_rowK h1 j u ?_
    have hj : j < n * 7 := by have := (List.getElem?_eq_some_iff.1 hu).1; rwa [flatG_len mxL 7 mxL_len, hn] at this
    rw [← h6, List.getElem?_take_of_lt hj, Array.getElem?_toList] at hu
    exact hu
  have l1 : (ms.take k).length = k := lenTake (by omega)
  have l2 : (ms.drop k).length = n - k := by rw [List.length_drop, hn]
  refine ⟨⟨_, cap, by rw [l1], by rw [l1]; omega, h4, (fun h => by cases h), fun _ => ⟨g, 0, rfl, fun j u hu => ?_⟩⟩, fun hkc => ⟨_, cap - k, by rw [l2], by rw [l2]; omega, by omega, (fun h => by cases h), fun _ => ⟨g, k * 7, rfl, fun j u hu => ?_⟩⟩⟩
  · rw [Nat.zero_add]
    refine hcell j u ?_
    rw [← flatG_take mxL 7 mxL_len, List.getElem?_take] at hu
    split at hu
    · exact hu
    · cases hu
  · refine hcell _ u ?_
    rw [← flatG_drop mxL 7 mxL_len, List.getElem?_drop] at hu
    exact hu
set_option maxHeartbeats 8000000 in
theorem insert_none (v v2 : Value) (L M : List Mx) (pw : Int) (pa : ByteArray) (u : Bool) (w : World) (h : RowM w v L) (h2 : RowM w v2 M) (hl : L.length ≤ 16777216) (hsp : spotO L pw pa = none) :
    Calls Try.prog 18 #[v, v2, .agg #[.int .i64 pw, .string pa], .bool u] w fun e w' => e = .returned (.tuple #[.slice none 0 0, .slice none 0 0, .int .i64 131]) ∧ Below w.heap.size w w' := by
  obtain ⟨a1, c1, q1, _, _⟩ := h.form
  obtain ⟨a2, c2, q2, _, _⟩ := h2.form
  have HB0 := hidK (bupK (Below.refl w.heap.size w) (.cells #[.int .i64 pw, .string pa] 39))
  have hcw : (w.alloc (.cells #[.int .i64 pw, .string pa] 39)).cell? ⟨w.heap.size, 0, none⟩ = some (.int .i64 pw) := cell_rowK (heap_alloc_new w _) 0 _ rfl
  have hca : (w.alloc (.cells #[.int .i64 pw, .string pa] 39)).cell? ⟨w.heap.size, 1, none⟩ = some (.string pa) := cell_rowK (heap_alloc_new w _) 1 _ rfl
  have HP := hidK (placeOf_c v L pw pa (w.alloc (.cells #[.int .i64 pw, .string pa] 39)) (h.on HB0.out) hl)
  rw [hsp] at HP
  simp only [plN, plB] at HP
  subst q1
  subst q2
  clear h h2 hsp
  go_enter Try.func18, Try.ntmps18
  go_wp2_with (go_at_call 30; refine HP.out.mono ?_; rintro e w1 ⟨rfl, hb1⟩)
  go_ret3
  exact ⟨rfl, bel3K HB0.out hb1⟩
end Go.Proofs.Ytaaagdmhokgcjaa
