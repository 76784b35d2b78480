import Derived.Test.YtmhamlhmmkbkaaaDoorDAz
import Derived.Test.YtmhamlhmmkbkaaaDoorG0
import Derived.Shelf.Small.Strs
import Derived.Shelf.Strings.Search1
import Derived.Shelf.Strings.Prefix
import Derived.Shelf.Unicode.DecodeSlow
import Derived.Shelf.Unicode.DecodeAny
import Derived.Test.YtmhamlhmmkbkaaaDoorProg
import Derived.Test.YtmhamlhmmkbkaaaDoorRows
import Derived.Lib.LaidU8

-- Decode.
namespace Go.Proofs.YtmhamlhmmkbkaaaDoor
open Go.ChangeShapes Go.WideShapes Go.ChangeAt Go.RowKit Go.MapKept Go.Shelf
set_option linter.unusedVariables false
set_option maxRecDepth 100000
set_option linter.unusedSimpArgs false
theorem results_cell_tmp15 {P : Program} {fn : Func} {p u x : Tmp} {ty : TypeId} (h : fn.results = #[.cell p ty, .tmp u, .tmp x]) (tmps : Array Value) (w : World) (g : Nat) (t : TypeId) (cs : Array Value) (fr : Nat × Nat) (d : TypeDesc)
    (hp : tmps.getD p undef = .pointer (some ⟨g, 0, none⟩)) (hg : w.heap[g]? = some (.cells cs t fr))
    (hu : P.underlying ty = some d) (hd : (match d with | .struct _ | .array _ _ => true | _ => false) = true) (hi : (P.info? ty).map (·.size) = some cs.size) :
    (results fn tmps).run P w = .ok (.tuple #[.agg cs, tmps.getD u undef, tmps.getD x undef]) w := by
  have hp' : tmps[p]?.getD undef = .pointer (some ⟨g, 0, none⟩) := by simpa using hp
  simp [results, h, hp', asAddr, run_loadVar_row w g t ty cs fr d hg hu hd hi]
theorem sizeC15 : (Tryd.prog.info? 27).map (·.size) = some 14 := by kernel_rfl
theorem decode_nil (v : Value) (w : World) (hR : RowT w v []) : Calls Tryd.prog 8 #[v] w fun e w' => ∃ u, e = .returned (.tuple #[.agg (cmL (ansC (decC [])) u).toArray, .string (ansW (decC [])), .int .i64 (ansE (decC []))]) ∧ OwnT w.heap.size w' u (ansC (decC [])).nms ∧ Below w.heap.size w w' := by
  obtain ⟨ao, cap, e, _⟩ := hR
  subst e
  have hP := heap_alloc_new w (.cells #[.int .i64 0, .int .u8 0, .bool false, .bool false, .bool false, .bool false, .bool false, .bool false, .bool false, .int .i64 0, .int .i64 0, .string ⟨#[]⟩, .string ⟨#[]⟩, .slice none 0 0] 27)
  go_enter Tryd.func8, Tryd.ntmps8
  go_wp2_with (refine wpList_store_kz rfl rfl _ _ _ rfl w.heap.size 0 (.agg #[.int .i64 0, .int .u8 0, .bool false, .bool false, .bool false, .bool false, .bool false, .bool false, .bool false, .int .i64 0, .int .i64 0, .string ⟨#[]⟩, .string ⟨#[]⟩, .slice none 0 0]) rfl rfl _ _ #[.int .i64 0, .int .u8 0, .bool false, .bool false, .bool false, .bool false, .bool false, .bool false, .bool false, .int .i64 0, .int .i64 0, .string ⟨#[]⟩, .string ⟨#[]⟩, .slice none 0 0] hP (by kernel_rfl) rfl rfl rfl ?_; intro W1 S1 q1)
  refine bodyPost_ret (results_cell_tmp15 rfl _ _ w.heap.size _ _ _ _ rfl S1 Tryd.underlying27 rfl sizeC15) rfl ?_
  exact ⟨.slice none 0 0, rfl, ownT_nil _ _, q1.belowN (bupK (Below.refl _ _) _) (Nat.le_refl _) (Nat.le_refl _)⟩
theorem OwnG_le15 {B B' : Nat} {w : World} {v : Value} {L : List ByteArray} (h : OwnT B' w v L) (hb : B ≤ B') : OwnT B w v L := OwnT.le h hb
set_option maxHeartbeats 8000000 in
theorem decode_no (p : ByteArray) (hp1 : p ≠ wAr) (hp2 : p ≠ wRan) (t : List ByteArray) (A : Ans) (hA : decC (p :: t) = A) (v : Value) (w : World) (hR : RowT w v (p :: t))  : Calls Tryd.prog 8 #[v] w fun e w' => ∃ u, e = .returned (.tuple #[.agg (cmL (ansC A) u).toArray, .string (ansW A), .int .i64 (ansE A)]) ∧ OwnT w.heap.size w' u (ansC A).nms ∧ Below w.heap.size w w' := by
  obtain ⟨b1, off, c3, e, _⟩ := hR.tx (k := 0) rfl
  subst e
  obtain ⟨hn, hnc, hcm, hx, hr1, hr2⟩ := rowT_tail hR
  obtain ⟨n, hnn⟩ : ∃ n, n = (p :: t).length := ⟨_, rfl⟩
  rw [← hnn] at hn hnc ⊢
  have HT := hidK hn
  have h0 : (0 : Int) < (n : Int) := by omega
  have h11 : (1 : Int) ≤ (n : Int) := by omega
  have hz1 : n ≠ 0 := by omega
  have h12 : (n : Int) ≤ (c3 : Int) := by omega
  have HR1 := hidK hr1
  have HR2 := hidK hr2
  have hb1 : b1 < w.heap.size := World.block_lt_of_cell? _ _ hx
  obtain ⟨w1, hw1⟩ : ∃ w1, w.alloc (.cells #[.int .i64 0, .int .u8 0, .bool false, .bool false, .bool false, .bool false, .bool false, .bool false, .bool false, .int .i64 0, .int .i64 0, .string ⟨#[]⟩, .string ⟨#[]⟩, .slice none 0 0] 27) = w1 := ⟨_, rfl⟩
  have hP := heap_alloc_new w (.cells #[.int .i64 0, .int .u8 0, .bool false, .bool false, .bool false, .bool false, .bool false, .bool false, .bool false, .int .i64 0, .int .i64 0, .string ⟨#[]⟩, .string ⟨#[]⟩, .slice none 0 0] 27)
  have hB1 : Below w.heap.size w w1 := by rw [← hw1]; exact bupK (Below.refl _ _) _
  have hsz : w1.heap.size = w.heap.size + 1 := by rw [← hw1, World.size_alloc]
  rw [hw1] at hP
  have hx1 := cell_onG hx hB1
  have HP := hidK hP
  have hne1 : (p.toList == [97, 114]) = false := beqW hp1 rfl
  have hne2 : (p.toList == [114, 97, 110, 108, 105, 98]) = false := beqW hp2 rfl
  clear hnn hR hr1 hr2 hx hn hP
  go_enter Tryd.func8, Tryd.ntmps8
  go_upto_region 1 with fail
  try rw [hw1]
  clear hw1
  go_upto_region 3 with fail
  go_cut [5] from 12 to 15 (fun s wx => s = .pointer (some ⟨w.heap.size + 1, 0, none⟩) ∧ Below w1.heap.size w1 wx ∧ Hid (Ln w1 (w.heap.size + 1) wx 0 rd0 ⟨#[]⟩ ⟨#[]⟩ t))
  case first =>
    by_cases hc : c3 = 1
    · have hr := (HR1.out hc).on hB1
      have hn1 : n = 1 := by omega
      subst hc
      subst hn1
      have hP2 := heap_alloc_new w1 (.cells #[.slice (some ⟨b1, off, none⟩) 0 0, .int .i64 0, .int .u8 0, .bool false, .bool false, .bool false, .bool false, .bool false, .bool false, .bool false, .int .i64 0, .int .i64 0, .string ⟨#[]⟩, .string ⟨#[]⟩, .slice none 0 0, .string ⟨#[]⟩] 43)
      go_wp2
      go_meet
      case rel => exact ⟨rfl, bupK (Below.refl _ _) _, by rw [hsz]; exact Nat.le_refl _, bupK (Below.refl _ _) _, by decide, _, _, _, hr, by rw [← hsz]; exact hP2⟩
    · have hr := HR2.out.on hB1
      have hcl : n - 1 = t.length := by have := HT.out; omega
      have hP2 := heap_alloc_new w1 (.cells #[.slice (some ⟨b1, off + 1, none⟩) t.length (c3 - 1), .int .i64 0, .int .u8 0, .bool false, .bool false, .bool false, .bool false, .bool false, .bool false, .bool false, .int .i64 0, .int .i64 0, .string ⟨#[]⟩, .string ⟨#[]⟩, .slice none 0 0, .string ⟨#[]⟩] 43)
      go_wp2
      go_meet
      case rel => exact ⟨rfl, bupK (Below.refl _ _) _, by rw [hsz]; exact Nat.le_refl _, bupK (Below.refl _ _) _, by decide, _, _, _, hr, by rw [← hsz]; exact hP2⟩
  case rest =>
    obtain ⟨rfl, hBc, hln⟩ := hcut
    have hxc := cell_onG hx1 hBc
    clear HR1 HR2 hx1 HT
    rw [dec_eq, if_neg hp1, if_neg hp2] at hA
    subst hA
    clear hln
    have hP2 := hkeepK hBc HP.out
    go_wp2_with (refine wpList_store_kz rfl rfl _ _ _ rfl w.heap.size 0 (.agg #[.int .i64 0, .int .u8 0, .bool false, .bool false, .bool false, .bool false, .bool false, .bool false, .bool false, .int .i64 0, .int .i64 0, .string ⟨#[]⟩, .string ⟨#[]⟩, .slice none 0 0]) rfl rfl _ _ #[.int .i64 0, .int .u8 0, .bool false, .bool false, .bool false, .bool false, .bool false, .bool false, .bool false, .int .i64 0, .int .i64 0, .string ⟨#[]⟩, .string ⟨#[]⟩, .slice none 0 0] hP2 (by kernel_rfl) rfl rfl rfl ?_; intro W3 S3 q3)
    refine bodyPost_ret (results_cell_tmp15 rfl _ _ w.heap.size _ _ _ _ rfl S3 Tryd.underlying27 rfl sizeC15) rfl ?_
    exact ⟨.slice none 0 0, rfl, ownT_nil _ _, q3.belowN (bel3K hB1 hBc) (Nat.le_refl _) (Nat.le_refl _)⟩
set_option maxHeartbeats 8000000 in
theorem decode_ar (t : List ByteArray) (A : Ans) (hA : decC (⟨#[97, 114]⟩ :: t) = A) (v : Value) (w : World) (hR : RowT w v (⟨#[97, 114]⟩ :: t)) (HRO : ∀ (w1 W : World), w.heap.size + 1 = w1.heap.size → Below w.heap.size w w1 → Ln w1 (w.heap.size + 1) W 0 rd0 ⟨#[]⟩ ⟨#[]⟩ t → Calls Tryd.prog 14 #[.pointer (some ⟨w.heap.size + 1, 0, none⟩)] W (RoPost w1 (w.heap.size + 1) A)) : Calls Tryd.prog 8 #[v] w fun e w' => ∃ u, e = .returned (.tuple #[.agg (cmL (ansC A) u).toArray, .string (ansW A), .int .i64 (ansE A)]) ∧ OwnT w.heap.size w' u (ansC A).nms ∧ Below w.heap.size w w' := by
  obtain ⟨b1, off, c3, e, _⟩ := hR.tx (k := 0) rfl
  subst e
  obtain ⟨hn, hnc, hcm, hx, hr1, hr2⟩ := rowT_tail hR
  obtain ⟨n, hnn⟩ : ∃ n, n = (⟨#[97, 114]⟩ :: t).length := ⟨_, rfl⟩
  rw [← hnn] at hn hnc ⊢
  have HT := hidK hn
  have h0 : (0 : Int) < (n : Int) := by omega
  have h11 : (1 : Int) ≤ (n : Int) := by omega
  have hz1 : n ≠ 0 := by omega
  have h12 : (n : Int) ≤ (c3 : Int) := by omega
  have HR1 := hidK hr1
  have HR2 := hidK hr2
  have hb1 : b1 < w.heap.size := World.block_lt_of_cell? _ _ hx
  obtain ⟨w1, hw1⟩ : ∃ w1, w.alloc (.cells #[.int .i64 0, .int .u8 0, .bool false, .bool false, .bool false, .bool false, .bool false, .bool false, .bool false, .int .i64 0, .int .i64 0, .string ⟨#[]⟩, .string ⟨#[]⟩, .slice none 0 0] 27) = w1 := ⟨_, rfl⟩
  have hP := heap_alloc_new w (.cells #[.int .i64 0, .int .u8 0, .bool false, .bool false, .bool false, .bool false, .bool false, .bool false, .bool false, .int .i64 0, .int .i64 0, .string ⟨#[]⟩, .string ⟨#[]⟩, .slice none 0 0] 27)
  have hB1 : Below w.heap.size w w1 := by rw [← hw1]; exact bupK (Below.refl _ _) _
  have hsz : w1.heap.size = w.heap.size + 1 := by rw [← hw1, World.size_alloc]
  rw [hw1] at hP
  have hx1 := cell_onG hx hB1
  have HP := hidK hP
  clear hnn hR hr1 hr2 hx hn hP
  go_enter Tryd.func8, Tryd.ntmps8
  go_upto_region 1 with fail
  try rw [hw1]
  clear hw1
  go_upto_region 3 with fail
  go_cut [5] from 12 to 15 (fun s wx => s = .pointer (some ⟨w.heap.size + 1, 0, none⟩) ∧ Below w1.heap.size w1 wx ∧ Hid (Ln w1 (w.heap.size + 1) wx 0 rd0 ⟨#[]⟩ ⟨#[]⟩ t))
  case first =>
    by_cases hc : c3 = 1
    · have hr := (HR1.out hc).on hB1
      have hn1 : n = 1 := by omega
      subst hc
      subst hn1
      have hP2 := heap_alloc_new w1 (.cells #[.slice (some ⟨b1, off, none⟩) 0 0, .int .i64 0, .int .u8 0, .bool false, .bool false, .bool false, .bool false, .bool false, .bool false, .bool false, .int .i64 0, .int .i64 0, .string ⟨#[]⟩, .string ⟨#[]⟩, .slice none 0 0, .string ⟨#[]⟩] 43)
      go_wp2
      go_meet
      case rel => exact ⟨rfl, bupK (Below.refl _ _) _, by rw [hsz]; exact Nat.le_refl _, bupK (Below.refl _ _) _, by decide, _, _, _, hr, by rw [← hsz]; exact hP2⟩
    · have hr := HR2.out.on hB1
      have hcl : n - 1 = t.length := by have := HT.out; omega
      have hP2 := heap_alloc_new w1 (.cells #[.slice (some ⟨b1, off + 1, none⟩) t.length (c3 - 1), .int .i64 0, .int .u8 0, .bool false, .bool false, .bool false, .bool false, .bool false, .bool false, .bool false, .int .i64 0, .int .i64 0, .string ⟨#[]⟩, .string ⟨#[]⟩, .slice none 0 0, .string ⟨#[]⟩] 43)
      go_wp2
      go_meet
      case rel => exact ⟨rfl, bupK (Below.refl _ _) _, by rw [hsz]; exact Nat.le_refl _, bupK (Below.refl _ _) _, by decide, _, _, _, hr, by rw [← hsz]; exact hP2⟩
  case rest =>
    obtain ⟨rfl, hBc, hln⟩ := hcut
    have hxc := cell_onG hx1 hBc
    clear HR1 HR2 hx1 HT
    have HCC := hidK (HRO w1 wc hsz.symm hB1 hln.out)
    clear HRO hln
    cases A with
    | inl x =>
      go_wp2_with (first
        | (go_at_call 14; refine HCC.out.mono ?_; rintro e w2 ⟨rfl, hne, hb2⟩; have hz : (x.2 != 0) = true := (by simp [hne]); have hP2 := hkeepK hb2 HP.out)
        | (refine wpList_store_kz rfl rfl _ _ _ rfl w.heap.size 0 (.agg #[.int .i64 0, .int .u8 0, .bool false, .bool false, .bool false, .bool false, .bool false, .bool false, .bool false, .int .i64 0, .int .i64 0, .string ⟨#[]⟩, .string ⟨#[]⟩, .slice none 0 0]) rfl rfl _ _ #[.int .i64 0, .int .u8 0, .bool false, .bool false, .bool false, .bool false, .bool false, .bool false, .bool false, .int .i64 0, .int .i64 0, .string ⟨#[]⟩, .string ⟨#[]⟩, .slice none 0 0] hP2 (by kernel_rfl) rfl rfl rfl ?_; intro W3 S3 q3))
      refine bodyPost_ret (results_cell_tmp15 rfl _ _ w.heap.size _ _ _ _ rfl S3 Tryd.underlying27 rfl sizeC15) rfl ?_
      exact ⟨.slice none 0 0, rfl, ownT_nil _ _, q3.belowN (bel3K hB1 hb2) (Nat.le_refl _) (Nat.le_refl _)⟩
    | inr c =>
      go_upto_region 10 with (go_at_call 14; refine HCC.out.mono ?_; rintro e w2 ⟨rfl, hb2, ws, g, n, ps, hbx, hown⟩)
      have hP2 := hkeepK hb2 HP.out
      have HO := hidK hown
      have y1 := cell_rowK hbx 1 _ rfl
      have y2 := cell_rowK hbx 2 _ rfl
      have y3 := cell_rowK hbx 3 _ rfl
      have y4 := cell_rowK hbx 4 _ rfl
      have y5 := cell_rowK hbx 5 _ rfl
      have y6 := cell_rowK hbx 6 _ rfl
      have y7 := cell_rowK hbx 7 _ rfl
      have y8 := cell_rowK hbx 8 _ rfl
      have y9 := cell_rowK hbx 9 _ rfl
      have y10 := cell_rowK hbx 10 _ rfl
      have y11 := cell_rowK hbx 11 _ rfl
      have y12 := cell_rowK hbx 12 _ rfl
      have y13 := cell_rowK hbx 13 _ rfl
      have y14 := cell_rowK hbx 14 _ rfl
      clear hbx hown
      go_wp2_with (refine wpList_store_kz rfl rfl _ _ _ rfl w.heap.size 0 (.agg #[.int .i64 c.prog, .int .u8 (c.op.toNat : Int), .bool c.vb, .bool c.up, .bool c.qu, .bool c.det, .bool c.dat, .bool c.bare, .bool c.thin, .int .i64 c.kind, .int .i64 c.wh, .string c.anc, .string c.arc, .slice (some ⟨g, 0, none⟩) n n]) rfl rfl _ _ #[.int .i64 c.prog, .int .u8 (c.op.toNat : Int), .bool c.vb, .bool c.up, .bool c.qu, .bool c.det, .bool c.dat, .bool c.bare, .bool c.thin, .int .i64 c.kind, .int .i64 c.wh, .string c.anc, .string c.arc, .slice (some ⟨g, 0, none⟩) n n] hP2 (by kernel_rfl) rfl rfl rfl ?_; intro W3 S3 q3)
      refine bodyPost_ret (results_cell_tmp15 rfl _ _ w.heap.size _ _ _ _ rfl S3 Tryd.underlying27 rfl sizeC15) rfl ?_
      refine ⟨_, rfl, own_kqK (t := 27) (OwnT.le HO.out (by omega)) q3 hP2 (by decide), q3.belowN (bel3K hB1 hb2) (Nat.le_refl _) (Nat.le_refl _)⟩
set_option maxHeartbeats 8000000 in
theorem decode_ran (t : List ByteArray) (A : Ans) (hA : decC (⟨#[114, 97, 110, 108, 105, 98]⟩ :: t) = A) (v : Value) (w : World) (hR : RowT w v (⟨#[114, 97, 110, 108, 105, 98]⟩ :: t)) (HRO : ∀ (w1 W : World), w.heap.size + 1 = w1.heap.size → Below w.heap.size w w1 → Ln w1 (w.heap.size + 1) W 0 rd0 ⟨#[]⟩ ⟨#[]⟩ t → Calls Tryd.prog 15 #[.pointer (some ⟨w.heap.size + 1, 0, none⟩)] W (RoPost w1 (w.heap.size + 1) A)) : Calls Tryd.prog 8 #[v] w fun e w' => ∃ u, e = .returned (.tuple #[.agg (cmL (ansC A) u).toArray, .string (ansW A), .int .i64 (ansE A)]) ∧ OwnT w.heap.size w' u (ansC A).nms ∧ Below w.heap.size w w' := by
  obtain ⟨b1, off, c3, e, _⟩ := hR.tx (k := 0) rfl
  subst e
  obtain ⟨hn, hnc, hcm, hx, hr1, hr2⟩ := rowT_tail hR
  obtain ⟨n, hnn⟩ : ∃ n, n = (⟨#[114, 97, 110, 108, 105, 98]⟩ :: t).length := ⟨_, rfl⟩
  rw [← hnn] at hn hnc ⊢
  have HT := hidK hn
  have h0 : (0 : Int) < (n : Int) := by omega
  have h11 : (1 : Int) ≤ (n : Int) := by omega
  have hz1 : n ≠ 0 := by omega
  have h12 : (n : Int) ≤ (c3 : Int) := by omega
  have HR1 := hidK hr1
  have HR2 := hidK hr2
  have hb1 : b1 < w.heap.size := World.block_lt_of_cell? _ _ hx
  obtain ⟨w1, hw1⟩ : ∃ w1, w.alloc (.cells #[.int .i64 0, .int .u8 0, .bool false, .bool false, .bool false, .bool false, .bool false, .bool false, .bool false, .int .i64 0, .int .i64 0, .string ⟨#[]⟩, .string ⟨#[]⟩, .slice none 0 0] 27) = w1 := ⟨_, rfl⟩
  have hP := heap_alloc_new w (.cells #[.int .i64 0, .int .u8 0, .bool false, .bool false, .bool false, .bool false, .bool false, .bool false, .bool false, .int .i64 0, .int .i64 0, .string ⟨#[]⟩, .string ⟨#[]⟩, .slice none 0 0] 27)
  have hB1 : Below w.heap.size w w1 := by rw [← hw1]; exact bupK (Below.refl _ _) _
  have hsz : w1.heap.size = w.heap.size + 1 := by rw [← hw1, World.size_alloc]
  rw [hw1] at hP
  have hx1 := cell_onG hx hB1
  have HP := hidK hP
  have hne1 : ((⟨#[114, 97, 110, 108, 105, 98]⟩ : ByteArray).toList == [97, 114]) = false := by rw [ByteArray.toList_eq]; rfl
  clear hnn hR hr1 hr2 hx hn hP
  go_enter Tryd.func8, Tryd.ntmps8
  go_upto_region 1 with fail
  try rw [hw1]
  clear hw1
  go_upto_region 3 with fail
  go_cut [5] from 12 to 15 (fun s wx => s = .pointer (some ⟨w.heap.size + 1, 0, none⟩) ∧ Below w1.heap.size w1 wx ∧ Hid (Ln w1 (w.heap.size + 1) wx 0 rd0 ⟨#[]⟩ ⟨#[]⟩ t))
  case first =>
    by_cases hc : c3 = 1
    · have hr := (HR1.out hc).on hB1
      have hn1 : n = 1 := by omega
      subst hc
      subst hn1
      have hP2 := heap_alloc_new w1 (.cells #[.slice (some ⟨b1, off, none⟩) 0 0, .int .i64 0, .int .u8 0, .bool false, .bool false, .bool false, .bool false, .bool false, .bool false, .bool false, .int .i64 0, .int .i64 0, .string ⟨#[]⟩, .string ⟨#[]⟩, .slice none 0 0, .string ⟨#[]⟩] 43)
      go_wp2
      go_meet
      case rel => exact ⟨rfl, bupK (Below.refl _ _) _, by rw [hsz]; exact Nat.le_refl _, bupK (Below.refl _ _) _, by decide, _, _, _, hr, by rw [← hsz]; exact hP2⟩
    · have hr := HR2.out.on hB1
      have hcl : n - 1 = t.length := by have := HT.out; omega
      have hP2 := heap_alloc_new w1 (.cells #[.slice (some ⟨b1, off + 1, none⟩) t.length (c3 - 1), .int .i64 0, .int .u8 0, .bool false, .bool false, .bool false, .bool false, .bool false, .bool false, .bool false, .int .i64 0, .int .i64 0, .string ⟨#[]⟩, .string ⟨#[]⟩, .slice none 0 0, .string ⟨#[]⟩] 43)
      go_wp2
      go_meet
      case rel => exact ⟨rfl, bupK (Below.refl _ _) _, by rw [hsz]; exact Nat.le_refl _, bupK (Below.refl _ _) _, by decide, _, _, _, hr, by rw [← hsz]; exact hP2⟩
  case rest =>
    obtain ⟨rfl, hBc, hln⟩ := hcut
    have hxc := cell_onG hx1 hBc
    clear HR1 HR2 hx1 HT
    have HCC := hidK (HRO w1 wc hsz.symm hB1 hln.out)
    clear HRO hln
    cases A with
    | inl x =>
      go_wp2_with (first
        | (go_at_call 15; refine HCC.out.mono ?_; rintro e w2 ⟨rfl, hne, hb2⟩; have hz : (x.2 != 0) = true := (by simp [hne]); have hP2 := hkeepK hb2 HP.out)
        | (refine wpList_store_kz rfl rfl _ _ _ rfl w.heap.size 0 (.agg #[.int .i64 0, .int .u8 0, .bool false, .bool false, .bool false, .bool false, .bool false, .bool false, .bool false, .int .i64 0, .int .i64 0, .string ⟨#[]⟩, .string ⟨#[]⟩, .slice none 0 0]) rfl rfl _ _ #[.int .i64 0, .int .u8 0, .bool false, .bool false, .bool false, .bool false, .bool false, .bool false, .bool false, .int .i64 0, .int .i64 0, .string ⟨#[]⟩, .string ⟨#[]⟩, .slice none 0 0] hP2 (by kernel_rfl) rfl rfl rfl ?_; intro W3 S3 q3))
      refine bodyPost_ret (results_cell_tmp15 rfl _ _ w.heap.size _ _ _ _ rfl S3 Tryd.underlying27 rfl sizeC15) rfl ?_
      exact ⟨.slice none 0 0, rfl, ownT_nil _ _, q3.belowN (bel3K hB1 hb2) (Nat.le_refl _) (Nat.le_refl _)⟩
    | inr c =>
      go_upto_region 10 with (go_at_call 15; refine HCC.out.mono ?_; rintro e w2 ⟨rfl, hb2, ws, g, n, ps, hbx, hown⟩)
      have hP2 := hkeepK hb2 HP.out
      have HO := hidK hown
      have y1 := cell_rowK hbx 1 _ rfl
      have y2 := cell_rowK hbx 2 _ rfl
      have y3 := cell_rowK hbx 3 _ rfl
      have y4 := cell_rowK hbx 4 _ rfl
      have y5 := cell_rowK hbx 5 _ rfl
      have y6 := cell_rowK hbx 6 _ rfl
      have y7 := cell_rowK hbx 7 _ rfl
      have y8 := cell_rowK hbx 8 _ rfl
      have y9 := cell_rowK hbx 9 _ rfl
      have y10 := cell_rowK hbx 10 _ rfl
      have y11 := cell_rowK hbx 11 _ rfl
      have y12 := cell_rowK hbx 12 _ rfl
      have y13 := cell_rowK hbx 13 _ rfl
      have y14 := cell_rowK hbx 14 _ rfl
      clear hbx hown
      go_wp2_with (refine wpList_store_kz rfl rfl _ _ _ rfl w.heap.size 0 (.agg #[.int .i64 c.prog, .int .u8 (c.op.toNat : Int), .bool c.vb, .bool c.up, .bool c.qu, .bool c.det, .bool c.dat, .bool c.bare, .bool c.thin, .int .i64 c.kind, .int .i64 c.wh, .string c.anc, .string c.arc, .slice (some ⟨g, 0, none⟩) n n]) rfl rfl _ _ #[.int .i64 c.prog, .int .u8 (c.op.toNat : Int), .bool c.vb, .bool c.up, .bool c.qu, .bool c.det, .bool c.dat, .bool c.bare, .bool c.thin, .int .i64 c.kind, .int .i64 c.wh, .string c.anc, .string c.arc, .slice (some ⟨g, 0, none⟩) n n] hP2 (by kernel_rfl) rfl rfl rfl ?_; intro W3 S3 q3)
      refine bodyPost_ret (results_cell_tmp15 rfl _ _ w.heap.size _ _ _ _ rfl S3 Tryd.underlying27 rfl sizeC15) rfl ?_
      refine ⟨_, rfl, own_kqK (t := 27) (OwnT.le HO.out (by omega)) q3 hP2 (by decide), q3.belowN (bel3K hB1 hb2) (Nat.le_refl _) (Nat.le_refl _)⟩
theorem Decode_okT (HD : DrOk) : DecodeOkT 8 := by
  intro v L w hT hR hl ht
  cases L with
  | nil => exact decode_nil v w hR
  | cons p t =>
    have hlt : t.length ≤ 16777216 := by simp only [List.length_cons] at hl; omega
    by_cases h1 : p = wAr
    · subst h1
      have e : decC (wAr :: t) = ar0 rd0 t := by rw [dec_eq, if_pos rfl]
      rw [e]
      exact decode_ar t _ e v w hR fun w1 W hs hb hln => readAr_c HD w1 (w.heap.size + 1) W t (hT.on hb) hln hlt
    · by_cases h2 : p = wRan
      · subst h2
        have e : decC (wRan :: t) = ranG t := by rw [dec_eq, if_neg h1, if_pos rfl]
        rw [e]
        exact decode_ran t _ e v w hR fun w1 W hs hb hln => readRan_c HD w1 (w.heap.size + 1) W t (hT.on hb) hln hlt
      · exact decode_no p h1 h2 t _ rfl v w hR
end Go.Proofs.YtmhamlhmmkbkaaaDoor
-- Contracts of the library, laid at this program by the guide's command, in plain words.
namespace Go.Proofs
open Go.Shelf
def Tryd.lays260_ren : Go.Shelf.Ren := ⟨fun | 260 => 59 | n => n, fun | 9 => 9 | 21 => 21 | 3 => 3 | 4 => 4 | 5 => 5 | 119 => 75 | 0 => 0 | 46 => 76 | 139 => 79 | 138 => 78 | n => n, fun | 3 => 1 | 4 => 2 | n => n⟩
theorem Tryd.lays260 : Go.Proofs.Lays.n260 Tryd.prog Tryd.lays260_ren := {
  mixed := by kernel_rfl
  f260 := Tryd.func59.trans (congrArg some (by kernel_rfl))
  t0 := Tryd.underlying0
  a0 := Tryd.isAgg0
  z0 := Tryd.sizeOf0
  v0 := Tryd.zeroValue0
  t3 := Tryd.underlying3
  a3 := Tryd.isAgg3
  z3 := Tryd.sizeOf3
  v3 := Tryd.zeroValue3
  t4 := Tryd.underlying4
  a4 := Tryd.isAgg4
  z4 := Tryd.sizeOf4
  v4 := Tryd.zeroValue4
  t5 := Tryd.underlying5
  a5 := Tryd.isAgg5
  z5 := Tryd.sizeOf5
  v5 := Tryd.zeroValue5
  t9 := Tryd.underlying9
  a9 := Tryd.isAgg9
  z9 := Tryd.sizeOf9
  v9 := Tryd.zeroValue9
  t21 := Tryd.underlying21
  a21 := Tryd.isAgg21
  z21 := Tryd.sizeOf21
  v21 := Tryd.zeroValue21
  t46 := Tryd.underlying76
  a46 := Tryd.isAgg76
  z46 := Tryd.sizeOf76
  v46 := Tryd.zeroValue76
  t119 := Tryd.underlying75
  a119 := Tryd.isAgg75
  z119 := Tryd.sizeOf75
  t138 := Tryd.underlying78
  a138 := Tryd.isAgg78
  z138 := Tryd.sizeOf78
  v138 := Tryd.zeroValue78
  t139 := Tryd.underlying79
  a139 := Tryd.isAgg79
  z139 := Tryd.sizeOf79
  v139 := Tryd.zeroValue79
  g3 := by kernel_rfl
  g4 := by kernel_rfl }
end Go.Proofs

-- What the library's tables hold; Decode, whole.
namespace Go.Proofs.YtmhamlhmmkbkaaaDoor
open Go.ChangeShapes Go.WideShapes Go.ChangeAt Go.RowKit Go.Shelf
set_option linter.unusedVariables false
set_option maxRecDepth 100000
theorem u8x15 : U8Extra Tryd.prog Tryd.lays260_ren where
  n3 := by kernel_rfl
  n4 := by kernel_rfl
  y3 := by kernel_rfl
  y4 := by kernel_rfl
  c5 := by kernel_rfl
  c119 := by kernel_rfl
  c138 := by kernel_rfl
theorem first15 : (Rows.laid_unicode_utf8_first : DataW Unit) = Lib.firstData := by kernel_rfl
theorem accept15 : (Rows.laid_unicode_utf8_acceptRanges : DataW Unit) = Lib.acceptData := by kernel_rfl
theorem tabU_of {W : World} {l : List (String × DataW Unit)} (h : laidMet Tryd.prog l W) (h1 : ("unicode/utf8.first", Rows.laid_unicode_utf8_first) ∈ l) (h2 : ("unicode/utf8.acceptRanges", Rows.laid_unicode_utf8_acceptRanges) ∈ l) : TabU W := by
  have r1 := Lib.laidMet.reads h h1
  have r2 := Lib.laidMet.reads h h2
  rw [first15] at r1
  rw [accept15] at r2
  exact utf8Tabs_of_reads Tryd.lays260 u8x15 r1 r2
theorem drOk15 : DrOk := fun s w hT => Tryd.utf8_DecodeRuneInString s w hT
theorem Decode_ok : DecodeOkT 8 := Decode_okT drOk15
end Go.Proofs.YtmhamlhmmkbkaaaDoor
