
-- The document's Decode (4): command.
import Derived.Test.YtdamhdceajmdfaaDoorDV
import Derived.Test.YtdamhdceajmdfaaDoorCP
import Derived.Test.YtdamhdceajmdfaaDoorW3
namespace Go.Proofs.YtdamhdceajmdfaaDoor
open Go.ChangeShapes Go.WideShapes Go.ChangeAt Go.RowKit Go.MapKept
set_option linter.unusedVariables false
set_option maxRecDepth 100000
set_option linter.unusedSimpArgs false
def blkV : Value → Option Nat | .slice (some a) _ _ => some a.block | _ => none
/-- what the document's reading of one command answers -/
def RcSays (r : Sum Int Mr) (bk : Nat) (w : World) (e : Ending) (w' : World) : Prop := Below w.heap.size w w' ∧ ∃ (c : Mr) (k : Int) (u : Value), e = .returned (.tuple #[.agg #[.int .i64 c.v, .string c.n, u], .int .i64 k]) ∧ RowT w' u c.ns ∧ (∀ b, blkV u = some b → b = bk) ∧ ((k = 0 ∧ r = .inr c) ∨ (k ≠ 0 ∧ r = .inl k))
theorem kq_rowT {g : Nat} {w w' : World} {v : Value} {L : List ByteArray} (h : RowT w v L) (hq : Kq g w w') (hg : ∀ b, blkV v = some b → b ≠ g) : RowT w' v L := by
  obtain ⟨ao, c, e, h1, h2, h3, h4⟩ := h
  refine ⟨ao, c, e, h1, h2, h3, fun hp => ?_⟩
  obtain ⟨b, off, e2, hc⟩ := h4 hp
  refine ⟨b, off, e2, fun j u hu => ?_⟩
  have hb := hc j u hu
  have hlt := World.block_lt_of_cell? _ _ hb
  have hne : b ≠ g := hg b (by rw [e, e2]; rfl)
  have := hq.block b hne hlt
  rw [← hb]
  unfold World.cell?
  simp only [this]
theorem kq_tr {g : Nat} {a b c : World} (h : Kq g a b) (k : Kq g b c) : Kq g a c := ⟨k.os.trans h.os, k.tape.trans h.tape, k.output.trans h.output, Nat.le_trans h.size k.size, fun j hj hl => (k.block j hj (Nat.lt_of_lt_of_le hl h.size)).trans (h.block j hj hl)⟩
theorem nmd_one {r : List ByteArray} (h : nmdB r 1 1 = true) : ∃ y, r = [y] ∧ isBr y = false := by
  unfold nmdB at h
  simp only [Bool.and_eq_true, Bool.or_eq_true, decide_eq_true_eq, Bool.not_eq_true'] at h
  obtain ⟨h1, h2, h3⟩ := h
  have hl : r.length = 1 := by omega
  match r, hl with
  | [y], _ => exact ⟨y, rfl, by simpa using h1⟩
theorem cmdB_eq (k kd : Nat) (n : ByteArray) (r : List ByteArray) : cmdB k kd n r = match namesA r kd with | none => .inl 192 | some ns => .inr ⟨k, n, ns⟩ := rfl
theorem k0_yes {k : Nat} {y : ByteArray} (h : isBr y = false) : cmdN k 0 [y] = .inr ⟨k, y, []⟩ := by
  rw [cmdN_no h]; exact cmdB_yes (by unfold namesA; rw [if_neg (by simp), if_neg (by simp), if_pos ⟨by decide, rfl⟩])
theorem k0_no {k : Nat} {r : List ByteArray} (h : nmdB r 1 1 = false) : cmdN k 0 r = .inl 192 := by
  cases r with
  | nil => rfl
  | cons y q =>
    cases hb : isBr y with
    | true => exact cmdN_br hb
    | false =>
      rw [cmdN_no hb]
      refine cmdB_no ?_
      unfold namesA
      have hq : q ≠ [] := by
        rintro rfl
        unfold nmdB at h
        simp [hb] at h
      rw [if_neg (by simp), if_neg (by simp), if_neg (by simp [hq])]
theorem k1_yes {k : Nat} {r : List ByteArray} (h : nmdB r 1 (-1) = true) : cmdB k 1 ⟨#[]⟩ r = .inr ⟨k, ⟨#[]⟩, r⟩ := by
  unfold nmdB at h
  simp only [Bool.and_eq_true, Bool.or_eq_true, decide_eq_true_eq, Bool.not_eq_true'] at h
  refine cmdB_yes ?_
  unfold namesA
  rw [if_pos ⟨rfl, by rintro rfl; simp at h⟩]
  unfold wordsA
  rw [if_neg (by simp [h.1])]
theorem k1_no {k : Nat} {r : List ByteArray} (h : nmdB r 1 (-1) = false) : cmdB k 1 ⟨#[]⟩ r = .inl 192 := by
  refine cmdB_no ?_
  unfold namesA
  by_cases hr : r = []
  · subst hr; rfl
  · rw [if_pos ⟨rfl, hr⟩]
    unfold wordsA
    rw [if_pos]
    have hl := List.length_pos_iff.2 hr
    unfold nmdB at h
    cases ha : r.any isBr with
    | true => rfl
    | false => rw [ha] at h; simp at h; omega
theorem kz_yes {k : Nat} : cmdB k 0 ⟨#[]⟩ [] = .inr ⟨k, ⟨#[]⟩, []⟩ := cmdB_yes (by unfold namesA; rw [if_neg (by simp), if_neg (by simp), if_pos ⟨by decide, rfl⟩])
theorem kz_no {k : Nat} {r : List ByteArray} (h : r ≠ []) : cmdB k 0 ⟨#[]⟩ r = .inl 192 := cmdB_no (by unfold namesA; rw [if_neg (by simp), if_neg (by simp), if_neg (by simp [h])])
theorem k2_one {k : Nat} {y : ByteArray} (h : isBr y = false) : cmdN k 2 [y] = .inr ⟨k, y, []⟩ := by
  rw [cmdN_no h]; exact cmdB_yes (by unfold namesA; rw [if_neg (by simp), if_neg (by simp), if_pos ⟨by decide, rfl⟩])
theorem k2_names {k : Nat} {y : ByteArray} {q : List ByteArray} (h : isBr y = false) (hq : q ≠ []) : cmdN k 2 (y :: q) = (if 1 < q.length ∧ q.head? = some (byB [40]) ∧ q.getLast? = some (byB [41]) ∧ q.tail.dropLast.any isBr = false then .inr ⟨k, y, q.tail.dropLast⟩ else .inl 192) := by
  rw [cmdN_no h, cmdB_eq]
  unfold namesA
  rw [if_neg (by simp)]
  by_cases h1 : 1 < q.length ∧ q.head? = some (byB [40]) ∧ q.getLast? = some (byB [41])
  · rw [if_pos ⟨rfl, h1⟩]
    unfold wordsA
    cases ha : q.tail.dropLast.any isBr with
    | true => rw [if_pos rfl, if_neg (by simp)]
    | false => rw [if_neg (by simp), if_pos ⟨h1.1, h1.2.1, h1.2.2, rfl⟩]
  · rw [if_neg (fun h => h1 h.2), if_neg (by simp [hq]), if_neg (fun h => h1 ⟨h.1, h.2.1, h.2.2.1⟩)]
theorem sliceOne (ao : Option Addr) (m cap : Nat) (hc : 1 ≤ cap) : ∀ w, (Instr.slice 26 (.slice ao m cap) none (some (.int .i64 1)) none).run Tryd.prog w = .ok (.slice ao 1 cap) w := by
  intro w
  have h1 : (1 : Int) ≤ (cap : Int) := by omega
  have h2 : ¬ ((cap : Int) < 1) := by omega
  simp [go_sem, Tryd.underlying26, h1, h2]
theorem sliceTwo (b o m cap : Nat) (h3 : 3 ≤ m) (hc : m ≤ cap) : ∀ w, (Instr.slice 26 (.slice (some ⟨b, o, none⟩) m cap) (some (.int .i64 2)) (some (.int .i64 ((m : Int) - 1))) none).run Tryd.prog w = .ok (.slice (some ⟨b, o + 2, none⟩) (m - 3) (cap - 2)) w := by
  intro w
  have e : (m : Int) - 1 = ((m - 1 : Nat) : Int) := by omega
  rw [e]
  have h1 : (2 : Int) ≤ ((m - 1 : Nat) : Int) := by omega
  have h2 : ((m - 1 : Nat) : Int) ≤ (cap : Int) := by omega
  have h4 : ¬ cap = 2 := by omega
  have h5 : m - 1 - 2 = m - 3 := by omega
  simp [go_sem, Tryd.underlying26, h1, h2, h4, h5, Addr.add_mid]
set_option maxHeartbeats 16000000 in
theorem rcommand_c (x : ByteArray) (r : List ByteArray) (m b off cap : Nat) (w : World) (hW : WT w) (hx : x.size ≤ 33554432) (hm : m = r.length) (hv : RowT w (.slice (some ⟨b, off, none⟩) (m + 1) cap) (x :: r)) (hn : m ≤ 16777216) :
    Calls Tryd.prog 29 #[.slice (some ⟨b, off, none⟩) (m + 1) cap] w fun e w' => RcSays (cmdA (x :: r)) b w e w' := by
  obtain ⟨b1, o1, p1, e1, d1⟩ := RowG.tx hv (k := 0) (x := x) rfl
  injection e1 with e1 e1b e1c
  injection e1 with e1
  injection e1 with e1 e2 e3
  subst e1; subst e2
  rw [Nat.add_zero] at d1
  have hcm : m + 1 ≤ cap := by obtain ⟨ao, c, q, z1, z2, _⟩ := hv; injection q with _ _ q; simp only [List.length_cons] at z1; omega
  have HVX : Hid (∀ wx, Below w.heap.size w wx → Calls Tryd.prog 45 #[.string x] wx fun e w' => e = .returned (.int .i64 (verbN x : Nat)) ∧ Below wx.heap.size wx w') := fun wx hb => rverb_c x wx (hW.up hb) (by omega)
  have hkl := verbN_lt x
  obtain ⟨kv, hkv⟩ : ∃ kv, kv = verbN x := ⟨_, rfl⟩
  rw [← hkv] at HVX hkl
  have HKV := hidK hkv
  have HRT := hidK (rowT_tail hm.symm hv)
  have HM := hidK hm
  have d2 := cell_onG d1 (bupK (Below.refl _ w) (.cells zMr 28))
  unfold zMr at d2
  have hsl := sliceTail b off m cap hcm
  obtain ⟨ao2, hao2⟩ : ∃ ao2, ao2 = (if cap = 1 then some (⟨b, off, none⟩ : Addr) else some ⟨b, off + 1, none⟩) := ⟨_, rfl⟩
  rw [← hao2] at hsl HRT
  have HBK : Hid (∀ a, ao2 = some a → a.block = b) := fun a ha => by rw [hao2] at ha; split at ha <;> (injection ha with ha; rw [← ha])
  obtain ⟨cap2, hcap2⟩ : ∃ cap2, cap2 = cap - 1 := ⟨_, rfl⟩
  rw [← hcap2] at hsl HRT
  have hc2 : m ≤ cap2 := by omega
  have m1 : (0 : Int) < (m : Int) + 1 := by omega
  have HNB : Hid (b < w.heap.size) := World.block_lt_of_cell? _ _ d1
  clear hv hW hx hkv hm hao2 hcap2 d1 e1b e1c hcm
  go_enter Tryd.func29, Tryd.ntmps29
  go_upto_region 2 with (go_at_call 45; refine (HVX.out _ (bupK (Below.refl _ _) _)).mono ?_; rintro e w1 ⟨rfl, h1⟩)
  have R1 : Hid (w1.heap[w.heap.size]? = some (.cells zMr 28 (0, 0))) := hkeepK h1 (heap_alloc_new w _)
  have B1 : Hid (Below w.heap.size w w1) := bel3K (bupK (Below.refl _ _) _) h1
  have HV2 : Hid (RowT w1 (.slice ao2 m cap2) r) := HRT.out.on B1.out
  have HGB : Hid (∀ (u : Value), (∀ b', blkV u = some b' → b' = b) → ∀ b', blkV u = some b' → b' ≠ w.heap.size) := fun u h b' h' => by rw [h b' h']; exact Nat.ne_of_lt HNB.out
  clear h1 d2 HVX HRT
  go_upto_region 4 with fail
  clear hsl m1
  have hrl := HM.out
  have all : kv = 0 ∨ (kv = 1 ∨ kv = 2) ∨ (kv = 3 ∨ kv = 5 ∨ kv = 6 ∨ kv = 7) ∨ (kv = 4 ∨ kv = 9) ∨ (kv = 8 ∨ kv = 10 ∨ kv = 11 ∨ kv = 12 ∨ kv = 13) := by omega
  clear hkl
  rcases all with h0 | h12 | h37 | h49 | h813
  · have HCM : Hid (cmdA (x :: r) = .inl 190) := by
      show _ = _; unfold cmdA; simp only [← HKV.out, h0, if_true]
    subst h0
    clear hrl
    go_upto_region 8 with fail
    go_wp2_with (refine wpList_store_kz rfl rfl _ _ _ rfl w.heap.size 0 (.agg zMr) rfl rfl _ _ zMr R1.out info28 rfl rfl rfl ?_; intro W7 R7 q7)
    refine bodyPost_ret (results_cell_tmp_row19 rfl _ _ w.heap.size _ _ _ _ _ rfl rfl R7 Tryd.underlying28 rfl (by kernel_rfl)) rfl ?_
    exact ⟨q7.belowN B1.out (Nat.le_refl _) (Nat.le_refl _), mr0, 190, .slice none 0 0, rfl, (ownT_nil 0 _).row, (by intro b h; simp [blkV] at h), .inr ⟨by decide, HCM.out⟩⟩
  · have HNM : Hid (cmdA (x :: r) = cmdN kv 0 r) := cmdA_named HKV.out.symm (by omega) (by rcases h12 with rfl | rfl <;> rfl) (by rcases h12 with rfl | rfl <;> rfl)
    have HN1 := hidK (rnamed_c (.slice ao2 m cap2) r 1 1 w1 HV2.out (by omega))
    cases hB : nmdB r 1 1
    · rw [hB] at HN1
      have HCM : Hid (cmdA (x :: r) = .inl 192) := HNM.out.trans (k0_no hB)
      clear hB HNM hrl
      rcases h12 with rfl | rfl
      all_goals
        go_upto_region 25 with (go_at_call 46; refine HN1.out.mono ?_; rintro e w9 ⟨rfl, h9⟩; rw [h9]; clear h9)
        go_wp2_with (refine wpList_store_kz rfl rfl _ _ _ rfl w.heap.size 0 (.agg zMr) rfl rfl _ _ zMr R1.out info28 rfl rfl rfl ?_; intro W7 R7 q7)
        refine bodyPost_ret (results_cell_tmp_row19 rfl _ _ w.heap.size _ _ _ _ _ rfl rfl R7 Tryd.underlying28 rfl (by kernel_rfl)) rfl ?_
        exact ⟨q7.belowN B1.out (Nat.le_refl _) (Nat.le_refl _), mr0, 192, .slice none 0 0, rfl, (ownT_nil 0 _).row, (by intro b h; simp [blkV] at h), .inr ⟨by decide, HCM.out⟩⟩
    · rw [hB] at HN1
      obtain ⟨y, rfl, hy⟩ := nmd_one hB
      have HCM : Hid (cmdA (x :: [y]) = .inr ⟨kv, y, []⟩) := HNM.out.trans (k0_yes hy)
      simp only [List.length_cons, List.length_nil] at hrl
      subst hrl
      obtain ⟨b2, o2, p2, e2, d2⟩ := RowG.tx HV2.out (k := 0) (x := y) rfl
      injection e2 with e2 e2b e2c
      rw [Nat.add_zero] at d2
      subst e2
      clear hB hy HNM e2b e2c
      rcases h12 with rfl | rfl
      · go_upto_region 12 with (go_at_call 46; refine HN1.out.mono ?_; rintro e w9 ⟨rfl, h9⟩; rw [h9]; clear h9)
        go_wp2_with (refine wpList_store_kz rfl rfl _ _ _ rfl w.heap.size 0 (.agg #[.int .i64 1, .string y, .slice none 0 0]) rfl rfl _ _ #[.int .i64 1, .string y, .slice none 0 0] R1.out info28 rfl rfl rfl ?_; intro W7 R7 q7)
        refine bodyPost_ret (results_cell_tmp_row19 rfl _ _ w.heap.size _ _ _ _ _ rfl rfl R7 Tryd.underlying28 rfl (by kernel_rfl)) rfl ?_
        exact ⟨q7.belowN B1.out (Nat.le_refl _) (Nat.le_refl _), ⟨1, y, []⟩, 0, .slice none 0 0, rfl, (ownT_nil 0 _).row, (by intro b h; simp [blkV] at h), .inl ⟨rfl, HCM.out⟩⟩
      · go_upto_region 12 with (go_at_call 46; refine HN1.out.mono ?_; rintro e w9 ⟨rfl, h9⟩; rw [h9]; clear h9)
        go_wp2_with (refine wpList_store_kz rfl rfl _ _ _ rfl w.heap.size 0 (.agg #[.int .i64 2, .string y, .slice none 0 0]) rfl rfl _ _ #[.int .i64 2, .string y, .slice none 0 0] R1.out info28 rfl rfl rfl ?_; intro W7 R7 q7)
        refine bodyPost_ret (results_cell_tmp_row19 rfl _ _ w.heap.size _ _ _ _ _ rfl rfl R7 Tryd.underlying28 rfl (by kernel_rfl)) rfl ?_
        exact ⟨q7.belowN B1.out (Nat.le_refl _) (Nat.le_refl _), ⟨2, y, []⟩, 0, .slice none 0 0, rfl, (ownT_nil 0 _).row, (by intro b h; simp [blkV] at h), .inl ⟨rfl, HCM.out⟩⟩
  · have HNM : Hid (cmdA (x :: r) = cmdB kv 1 ⟨#[]⟩ r) := cmdA_bare HKV.out.symm (by omega) (by rcases h37 with rfl | rfl | rfl | rfl <;> rfl) (by rcases h37 with rfl | rfl | rfl | rfl <;> rfl)
    have HN1 := hidK (rnamed_c (.slice ao2 m cap2) r 1 (-1) w1 HV2.out (by omega))
    cases hB : nmdB r 1 (-1)
    · rw [hB] at HN1
      have HCM : Hid (cmdA (x :: r) = .inl 192) := HNM.out.trans (k1_no hB)
      clear hB HNM hrl
      rcases h37 with rfl | rfl | rfl | rfl
      all_goals
        go_upto_region 25 with (go_at_call 46; refine HN1.out.mono ?_; rintro e w9 ⟨rfl, h9⟩; rw [h9]; clear h9)
        go_wp2_with (refine wpList_store_kz rfl rfl _ _ _ rfl w.heap.size 0 (.agg zMr) rfl rfl _ _ zMr R1.out info28 rfl rfl rfl ?_; intro W7 R7 q7)
        refine bodyPost_ret (results_cell_tmp_row19 rfl _ _ w.heap.size _ _ _ _ _ rfl rfl R7 Tryd.underlying28 rfl (by kernel_rfl)) rfl ?_
        exact ⟨q7.belowN B1.out (Nat.le_refl _) (Nat.le_refl _), mr0, 192, .slice none 0 0, rfl, (ownT_nil 0 _).row, (by intro b h; simp [blkV] at h), .inr ⟨by decide, HCM.out⟩⟩
    · rw [hB] at HN1
      have HCM : Hid (cmdA (x :: r) = .inr ⟨kv, ⟨#[]⟩, r⟩) := HNM.out.trans (k1_yes hB)
      have HUB : Hid (∀ b', blkV (.slice ao2 m cap2) = some b' → b' = b) := fun b' h => by
        cases ao2 with
        | none => simp [blkV] at h
        | some a => simp only [blkV, Option.some.injEq] at h; rw [← h]; exact HBK.out a rfl
      clear hB HNM hrl
      rcases h37 with rfl | rfl | rfl | rfl
      · go_upto_region 18 with (go_at_call 46; refine HN1.out.mono ?_; rintro e w9 ⟨rfl, h9⟩; rw [h9]; clear h9)
        go_wp2_with (refine wpList_store_kz rfl rfl _ _ _ rfl w.heap.size 0 (.agg #[.int .i64 3, .string ⟨#[]⟩, .slice ao2 m cap2]) rfl rfl _ _ #[.int .i64 3, .string ⟨#[]⟩, .slice ao2 m cap2] R1.out info28 rfl rfl rfl ?_; intro W7 R7 q7)
        refine bodyPost_ret (results_cell_tmp_row19 rfl _ _ w.heap.size _ _ _ _ _ rfl rfl R7 Tryd.underlying28 rfl (by kernel_rfl)) rfl ?_
        exact ⟨q7.belowN B1.out (Nat.le_refl _) (Nat.le_refl _), ⟨3, ⟨#[]⟩, r⟩, 0, .slice ao2 m cap2, rfl, kq_rowT HV2.out q7 (HGB.out _ HUB.out), HUB.out, .inl ⟨rfl, HCM.out⟩⟩
      · go_upto_region 18 with (go_at_call 46; refine HN1.out.mono ?_; rintro e w9 ⟨rfl, h9⟩; rw [h9]; clear h9)
        go_wp2_with (refine wpList_store_kz rfl rfl _ _ _ rfl w.heap.size 0 (.agg #[.int .i64 5, .string ⟨#[]⟩, .slice ao2 m cap2]) rfl rfl _ _ #[.int .i64 5, .string ⟨#[]⟩, .slice ao2 m cap2] R1.out info28 rfl rfl rfl ?_; intro W7 R7 q7)
        refine bodyPost_ret (results_cell_tmp_row19 rfl _ _ w.heap.size _ _ _ _ _ rfl rfl R7 Tryd.underlying28 rfl (by kernel_rfl)) rfl ?_
        exact ⟨q7.belowN B1.out (Nat.le_refl _) (Nat.le_refl _), ⟨5, ⟨#[]⟩, r⟩, 0, .slice ao2 m cap2, rfl, kq_rowT HV2.out q7 (HGB.out _ HUB.out), HUB.out, .inl ⟨rfl, HCM.out⟩⟩
      · go_upto_region 18 with (go_at_call 46; refine HN1.out.mono ?_; rintro e w9 ⟨rfl, h9⟩; rw [h9]; clear h9)
        go_wp2_with (refine wpList_store_kz rfl rfl _ _ _ rfl w.heap.size 0 (.agg #[.int .i64 6, .string ⟨#[]⟩, .slice ao2 m cap2]) rfl rfl _ _ #[.int .i64 6, .string ⟨#[]⟩, .slice ao2 m cap2] R1.out info28 rfl rfl rfl ?_; intro W7 R7 q7)
        refine bodyPost_ret (results_cell_tmp_row19 rfl _ _ w.heap.size _ _ _ _ _ rfl rfl R7 Tryd.underlying28 rfl (by kernel_rfl)) rfl ?_
        exact ⟨q7.belowN B1.out (Nat.le_refl _) (Nat.le_refl _), ⟨6, ⟨#[]⟩, r⟩, 0, .slice ao2 m cap2, rfl, kq_rowT HV2.out q7 (HGB.out _ HUB.out), HUB.out, .inl ⟨rfl, HCM.out⟩⟩
      · go_upto_region 18 with (go_at_call 46; refine HN1.out.mono ?_; rintro e w9 ⟨rfl, h9⟩; rw [h9]; clear h9)
        go_wp2_with (refine wpList_store_kz rfl rfl _ _ _ rfl w.heap.size 0 (.agg #[.int .i64 7, .string ⟨#[]⟩, .slice ao2 m cap2]) rfl rfl _ _ #[.int .i64 7, .string ⟨#[]⟩, .slice ao2 m cap2] R1.out info28 rfl rfl rfl ?_; intro W7 R7 q7)
        refine bodyPost_ret (results_cell_tmp_row19 rfl _ _ w.heap.size _ _ _ _ _ rfl rfl R7 Tryd.underlying28 rfl (by kernel_rfl)) rfl ?_
        exact ⟨q7.belowN B1.out (Nat.le_refl _) (Nat.le_refl _), ⟨7, ⟨#[]⟩, r⟩, 0, .slice ao2 m cap2, rfl, kq_rowT HV2.out q7 (HGB.out _ HUB.out), HUB.out, .inl ⟨rfl, HCM.out⟩⟩
  · have HNM : Hid (cmdA (x :: r) = cmdN kv 2 r) := cmdA_named HKV.out.symm (by omega) (by rcases h49 with rfl | rfl <;> rfl) (by rcases h49 with rfl | rfl <;> rfl)
    have HN1 := hidK (rnamed_c (.slice ao2 m cap2) r 1 1 w1 HV2.out (by omega))
    cases hB : nmdB r 1 1
    · rw [hB] at HN1
      clear HM
      cases r with
      | nil =>
        have HCM : Hid (cmdA [x] = .inl 192) := by show _ = _; rw [HNM.out]; rfl
        simp only [List.length_nil] at hrl
        subst hrl
        clear hB HNM
        rcases h49 with rfl | rfl
        all_goals
          go_upto_region 25 with (go_at_call 46; refine HN1.out.mono ?_; rintro e w9 ⟨rfl, h9⟩; rw [h9]; clear h9)
          go_wp2_with (refine wpList_store_kz rfl rfl _ _ _ rfl w.heap.size 0 (.agg zMr) rfl rfl _ _ zMr R1.out info28 rfl rfl rfl ?_; intro W7 R7 q7)
          refine bodyPost_ret (results_cell_tmp_row19 rfl _ _ w.heap.size _ _ _ _ _ rfl rfl R7 Tryd.underlying28 rfl (by kernel_rfl)) rfl ?_
          exact ⟨q7.belowN B1.out (Nat.le_refl _) (Nat.le_refl _), mr0, 192, .slice none 0 0, rfl, (ownT_nil 0 _).row, (by intro b h; simp [blkV] at h), .inr ⟨by decide, HCM.out⟩⟩
      | cons y q =>
        have hyb : isBr y = false → q ≠ [] := by
          rintro h rfl
          unfold nmdB at hB
          simp [h] at hB
        obtain ⟨j, hj⟩ : ∃ j, j = q.length := ⟨_, rfl⟩
        simp only [List.length_cons, ← hj] at hrl
        subst hrl
        have HJ := hidK hj
        by_cases hj2 : j < 2
        · have HCM : Hid (cmdA (x :: y :: q) = .inl 192) := by
            show _ = _
            rw [HNM.out]
            cases hbr : isBr y with
            | true => exact cmdN_br hbr
            | false => rw [k2_names hbr (hyb hbr), if_neg (by omega)]
          have j3 : ¬ ((3 : Int) ≤ (j : Int) + 1) := by omega
          clear hB HNM hyb hj
          rcases h49 with rfl | rfl
          all_goals
            go_upto_region 25 with (go_at_call 46; refine HN1.out.mono ?_; rintro e w9 ⟨rfl, h9⟩; rw [h9]; clear h9)
            go_wp2_with (refine wpList_store_kz rfl rfl _ _ _ rfl w.heap.size 0 (.agg zMr) rfl rfl _ _ zMr R1.out info28 rfl rfl rfl ?_; intro W7 R7 q7)
            refine bodyPost_ret (results_cell_tmp_row19 rfl _ _ w.heap.size _ _ _ _ _ rfl rfl R7 Tryd.underlying28 rfl (by kernel_rfl)) rfl ?_
            exact ⟨q7.belowN B1.out (Nat.le_refl _) (Nat.le_refl _), mr0, 192, .slice none 0 0, rfl, (ownT_nil 0 _).row, (by intro b h; simp [blkV] at h), .inr ⟨by decide, HCM.out⟩⟩
        · have j3 : (3 : Int) ≤ (j : Int) + 1 := by omega
          obtain ⟨b2, o2, p2, e2, dy⟩ := RowG.tx HV2.out (k := 0) (x := y) rfl
          injection e2 with e2 e2b e2c
          rw [Nat.add_zero] at dy
          subst e2
          obtain ⟨q0, hq0⟩ : ∃ q0, q[0]? = some q0 := ⟨_, List.getElem?_eq_getElem (by omega)⟩
          obtain ⟨ql, hql⟩ : ∃ ql, q[j - 1]? = some ql := ⟨_, List.getElem?_eq_getElem (by omega)⟩
          obtain ⟨b3, o3, p3, e3, d3⟩ := RowG.tx HV2.out (k := 1) (x := q0) (by rw [List.getElem?_cons_succ]; exact hq0)
          injection e3 with e3 e3b e3c
          injection e3 with e3
          injection e3 with e3 e4
          subst e3; subst e4
          obtain ⟨b4, o4, p4, e4, d4⟩ := RowG.tx HV2.out (k := j) (x := ql) (by rw [show j = (j - 1) + 1 from by omega, List.getElem?_cons_succ]; exact hql)
          injection e4 with e4 e4b e4c
          injection e4 with e4
          injection e4 with e4 e5
          subst e4; subst e5
          have hs1 := sliceOne (some ⟨b2, o2, none⟩) (j + 1) cap2 (by omega)
          have hs2 := sliceTwo b2 o2 (j + 1) cap2 (by omega) hc2
          have hs2' : ∀ w, (Instr.slice 26 (.slice (some ⟨b2, o2, none⟩) (j + 1) cap2) (some (.int .i64 2)) (some (.int .i64 (j : Int))) none).run Tryd.prog w = .ok (.slice (some ⟨b2, o2 + 2, none⟩) (j + 1 - 3) (cap2 - 2)) w := by
            have e : ((j + 1 : Nat) : Int) - 1 = (j : Int) := by omega
            rw [e] at hs2; exact hs2
          have hmid : RowT w1 (.slice (some ⟨b2, o2 + 2, none⟩) (j + 1 - 3) (cap2 - 2)) (q.tail.dropLast) := by
            have := rowT_mid (i := 2) (j := j) (L := y :: q) (by have h := HV2.out; simp only [List.length_cons, ← hj]; exact h) (by simp only [List.length_cons]; omega) (by omega)
            have e : ((y :: q).take j).drop 2 = q.tail.dropLast := by
              cases q with
              | nil => simp at hj; omega
              | cons a q =>
                simp only [List.length_cons] at hj
                rw [show j = (j - 2) + 1 + 1 from by omega, List.take_succ_cons, List.take_succ_cons, List.drop_succ_cons, List.drop_succ_cons, List.drop_zero, List.tail_cons, List.dropLast_eq_take]
                congr 1; omega
            rw [e] at this
            rw [show j + 1 - 3 = j - 2 from by omega]; exact this
          obtain ⟨jm, hjm⟩ : ∃ jm, jm = j + 1 - 3 := ⟨_, rfl⟩
          obtain ⟨cm, hcm⟩ : ∃ cm, cm = cap2 - 2 := ⟨_, rfl⟩
          rw [← hjm, ← hcm] at hs2' hmid
          have HMID := hidK hmid
          have HN2 := hidK (rnamed_c (.slice (some ⟨b2, o2, none⟩) 1 cap2) [y] 1 1 w1 (by
            have := rowT_mid (i := 0) (j := 1) (L := y :: q) (by have h := HV2.out; simp only [List.length_cons, ← hj]; exact h) (by simp only [List.length_cons]; omega) (by omega)
            simpa using this) (by simp))
          have hn2 : nmdB [y] 1 1 = !isBr y := by unfold nmdB; cases hbr : isBr y <;> simp [hbr]
          rw [hn2] at HN2
          have hn3 : nmdB q.tail.dropLast 0 (-1) = !(q.tail.dropLast.any isBr) := by unfold nmdB; simp
          have HN3 := hidK (rnamed_c (.slice (some ⟨b2, o2 + 2, none⟩) jm cm) q.tail.dropLast 0 (-1) w1 hmid (by rw [List.length_dropLast, List.length_tail]; omega))
          rw [hn3] at HN3
          have hhd : q.head? = some q0 := by rw [List.head?_eq_getElem?]; exact hq0
          have hls : q.getLast? = some ql := by rw [List.getLast?_eq_getElem?, ← hj]; exact hql
          have t0 := tl_eq q0 [40]
          have t1 := tl_eq ql [41]
          have hj1 : (j : Int) < (j : Int) + 1 := by omega
          have hw1 : IntKind.i64.wrap ((j : Int) + 1 - 1) = (j : Int) := by rw [IntKind.wrap_i64]; omega
          have hjI : (0 : Int) ≤ (j : Int) := by omega
          have hw0 : IntKind.i64.wrap (j : Int) = (j : Int) := by rw [IntKind.wrap_i64]; omega
          have hj0 : (1 : Int) < (j : Int) + 1 := by omega
          have HC2 : Hid (isBr y = false → cmdA (x :: y :: q) = (if 1 < q.length ∧ q.head? = some (byB [40]) ∧ q.getLast? = some (byB [41]) ∧ q.tail.dropLast.any isBr = false then .inr ⟨kv, y, q.tail.dropLast⟩ else .inl 192)) := fun h => HNM.out.trans (k2_names h (hyb h))
          have HHD := hidK hhd
          have HLS := hidK hls
          clear hs2 hmid hjm hcm hn2 hn3 hq0 hql e2b e2c e3b e3c e4b e4c hB hyb hj hhd hls
          cases hbr : isBr y
          · rw [hbr] at HN2
            have HC3 := hidK (HC2.out hbr)
            cases h40 : (q0.toList == [40])
            · have HCM : Hid (cmdA (x :: y :: q) = .inl 192) := by
                show _ = _
                rw [HC3.out, if_neg]
                rintro ⟨_, h, _⟩
                rw [HHD.out] at h
                injection h with h
                rw [t0, h, ba_rfl] at h40; cases h40
              clear HC2 HC3 hbr t0 t1 HNM
              rcases h49 with rfl | rfl
              all_goals
                go_upto_region 23 with (go_at_call 46; refine HN1.out.mono ?_; rintro e w9 ⟨rfl, h9⟩; rw [h9]; clear h9)
                go_upto_region 25 with (go_at_call 46; with_reducible refine HN2.out.mono ?_; rintro e w9 ⟨rfl, h9⟩; rw [h9]; clear h9)
                go_wp2_with (refine wpList_store_kz rfl rfl _ _ _ rfl w.heap.size 0 (.agg zMr) rfl rfl _ _ zMr R1.out info28 rfl rfl rfl ?_; intro W7 R7 q7)
                refine bodyPost_ret (results_cell_tmp_row19 rfl _ _ w.heap.size _ _ _ _ _ rfl rfl R7 Tryd.underlying28 rfl (by kernel_rfl)) rfl ?_
                exact ⟨q7.belowN B1.out (Nat.le_refl _) (Nat.le_refl _), mr0, 192, .slice none 0 0, rfl, (ownT_nil 0 _).row, (by intro b h; simp [blkV] at h), .inr ⟨by decide, HCM.out⟩⟩
            · cases h3 : q.tail.dropLast.any isBr
              · rw [h3] at HN3
                cases h41 : (ql.toList == [41])
                · have HCM : Hid (cmdA (x :: y :: q) = .inl 192) := by
                    show _ = _
                    rw [HC3.out, if_neg]
                    rintro ⟨_, _, h, _⟩
                    rw [HLS.out] at h
                    injection h with h
                    rw [t1, h, ba_rfl] at h41; cases h41
                  clear HC2 HC3 hbr t0 t1 h3 HNM
                  rcases h49 with rfl | rfl
                  all_goals
                    go_upto_region 23 with (go_at_call 46; refine HN1.out.mono ?_; rintro e w9 ⟨rfl, h9⟩; rw [h9]; clear h9)
                    go_upto_region 25 with (first | (go_at_call 46; with_reducible refine HN2.out.mono ?_; rintro e w9 ⟨rfl, h9⟩; rw [h9]; clear h9) | (go_at_call 46; with_reducible refine HN3.out.mono ?_; rintro e w9 ⟨rfl, h9⟩; rw [h9]; clear h9))
                    go_wp2_with (refine wpList_store_kz rfl rfl _ _ _ rfl w.heap.size 0 (.agg zMr) rfl rfl _ _ zMr R1.out info28 rfl rfl rfl ?_; intro W7 R7 q7)
                    refine bodyPost_ret (results_cell_tmp_row19 rfl _ _ w.heap.size _ _ _ _ _ rfl rfl R7 Tryd.underlying28 rfl (by kernel_rfl)) rfl ?_
                    exact ⟨q7.belowN B1.out (Nat.le_refl _) (Nat.le_refl _), mr0, 192, .slice none 0 0, rfl, (ownT_nil 0 _).row, (by intro b h; simp [blkV] at h), .inr ⟨by decide, HCM.out⟩⟩
                · have HCM : Hid (cmdA (x :: y :: q) = .inr ⟨kv, y, q.tail.dropLast⟩) := by
                    show _ = _
                    have e0 : q0 = byB [40] := by rw [t0] at h40; exact byL_inj (by rw [ba_eq h40, byL_byB])
                    have e1 : ql = byB [41] := by rw [t1] at h41; exact byL_inj (by rw [ba_eq h41, byL_byB])
                    rw [HC3.out, if_pos ⟨by have := HJ.out; omega, by rw [HHD.out, e0], by rw [HLS.out, e1], h3⟩]
                  have HUB : Hid (∀ b', blkV (.slice (some ⟨b2, o2 + 2, none⟩) jm cm) = some b' → b' = b) := fun b' h => by
                    simp only [blkV, Option.some.injEq] at h; rw [← h]; exact HBK.out ⟨b2, o2, none⟩ rfl
                  clear HC2 HC3 hbr t0 t1 h3 HNM
                  rcases h49 with rfl | rfl
                  · go_upto_region 23 with (go_at_call 46; refine HN1.out.mono ?_; rintro e w9 ⟨rfl, h9⟩; rw [h9]; clear h9)
                    go_upto_region 24 with (first | (go_at_call 46; with_reducible refine HN2.out.mono ?_; rintro e w9 ⟨rfl, h9⟩; rw [h9]; clear h9) | (go_at_call 46; with_reducible refine HN3.out.mono ?_; rintro e w9 ⟨rfl, h9⟩; rw [h9]; clear h9))
                    have S1 : w1.heap[w.heap.size]? = some (.cells zMr 28 (0, 0)) := R1.out
                    have s0 := cell_rowK S1 0 _ rfl
                    have s1 := cell_rowK S1 1 _ rfl
                    have s2 := cell_rowK S1 2 _ rfl
                    have f0 := Lib.frozen_of_heap S1 0
                    have f1 := Lib.frozen_of_heap S1 1
                    have f2 := Lib.frozen_of_heap S1 2
                    have HS2 : Hid (∀ W, W = (((w1.setCell ⟨w.heap.size, 0, none⟩ (.int .i64 4)).setCell ⟨w.heap.size, 1, none⟩ (.string y)).setCell ⟨w.heap.size, 2, none⟩ (.slice (some ⟨b2, o2 + 2, none⟩) jm cm)).drew → W.heap[w.heap.size]? = some (.cells #[.int .i64 4, .string y, .slice (some ⟨b2, o2 + 2, none⟩) jm cm] 28 (0, 0)) ∧ Kq w.heap.size w1 W) := by
                      rintro W rfl
                      refine ⟨blk_set (blk_set (blk_set S1 _) _) _, ?_⟩
                      have q := kq_tr (kq_tr (kq_set w1 w.heap.size 0 (.int .i64 4)) (kq_set _ w.heap.size 1 (.string y))) (kq_set _ w.heap.size 2 (.slice (some ⟨b2, o2 + 2, none⟩) jm cm))
                      exact ⟨q.os, q.tape, q.output, q.size, q.block⟩
                    clear S1
                    go_region
                    obtain ⟨S7, Q7⟩ := HS2.out _ rfl
                    go_wp2
                    refine bodyPost_ret (results_cell_tmp_row19 rfl _ _ w.heap.size _ _ _ _ _ rfl rfl S7 Tryd.underlying28 rfl (by kernel_rfl)) rfl ?_
                    exact ⟨Q7.belowN B1.out (Nat.le_refl _) (Nat.le_refl _), ⟨4, y, q.tail.dropLast⟩, 0, .slice (some ⟨b2, o2 + 2, none⟩) jm cm, rfl, kq_rowT HMID.out Q7 (HGB.out _ HUB.out), HUB.out, .inl ⟨rfl, HCM.out⟩⟩
                  · go_upto_region 23 with (go_at_call 46; refine HN1.out.mono ?_; rintro e w9 ⟨rfl, h9⟩; rw [h9]; clear h9)
                    go_upto_region 24 with (first | (go_at_call 46; with_reducible refine HN2.out.mono ?_; rintro e w9 ⟨rfl, h9⟩; rw [h9]; clear h9) | (go_at_call 46; with_reducible refine HN3.out.mono ?_; rintro e w9 ⟨rfl, h9⟩; rw [h9]; clear h9))
                    have S1 : w1.heap[w.heap.size]? = some (.cells zMr 28 (0, 0)) := R1.out
                    have s0 := cell_rowK S1 0 _ rfl
                    have s1 := cell_rowK S1 1 _ rfl
                    have s2 := cell_rowK S1 2 _ rfl
                    have f0 := Lib.frozen_of_heap S1 0
                    have f1 := Lib.frozen_of_heap S1 1
                    have f2 := Lib.frozen_of_heap S1 2
                    have HS2 : Hid (∀ W, W = (((w1.setCell ⟨w.heap.size, 0, none⟩ (.int .i64 9)).setCell ⟨w.heap.size, 1, none⟩ (.string y)).setCell ⟨w.heap.size, 2, none⟩ (.slice (some ⟨b2, o2 + 2, none⟩) jm cm)).drew → W.heap[w.heap.size]? = some (.cells #[.int .i64 9, .string y, .slice (some ⟨b2, o2 + 2, none⟩) jm cm] 28 (0, 0)) ∧ Kq w.heap.size w1 W) := by
                      rintro W rfl
                      refine ⟨blk_set (blk_set (blk_set S1 _) _) _, ?_⟩
                      have q := kq_tr (kq_tr (kq_set w1 w.heap.size 0 (.int .i64 9)) (kq_set _ w.heap.size 1 (.string y))) (kq_set _ w.heap.size 2 (.slice (some ⟨b2, o2 + 2, none⟩) jm cm))
                      exact ⟨q.os, q.tape, q.output, q.size, q.block⟩
                    clear S1
                    go_region
                    obtain ⟨S7, Q7⟩ := HS2.out _ rfl
                    go_wp2
                    refine bodyPost_ret (results_cell_tmp_row19 rfl _ _ w.heap.size _ _ _ _ _ rfl rfl S7 Tryd.underlying28 rfl (by kernel_rfl)) rfl ?_
                    exact ⟨Q7.belowN B1.out (Nat.le_refl _) (Nat.le_refl _), ⟨9, y, q.tail.dropLast⟩, 0, .slice (some ⟨b2, o2 + 2, none⟩) jm cm, rfl, kq_rowT HMID.out Q7 (HGB.out _ HUB.out), HUB.out, .inl ⟨rfl, HCM.out⟩⟩
              · have HCM : Hid (cmdA (x :: y :: q) = .inl 192) := by
                  show _ = _
                  rw [HC3.out, if_neg]
                  rintro ⟨_, _, _, h⟩
                  rw [h3] at h; cases h
                rw [h3] at HN3
                clear HC2 HC3 hbr t0 t1 h3 HNM
                rcases h49 with rfl | rfl
                all_goals
                  go_upto_region 23 with (go_at_call 46; refine HN1.out.mono ?_; rintro e w9 ⟨rfl, h9⟩; rw [h9]; clear h9)
                  go_upto_region 25 with (first | (go_at_call 46; with_reducible refine HN2.out.mono ?_; rintro e w9 ⟨rfl, h9⟩; rw [h9]; clear h9) | (go_at_call 46; with_reducible refine HN3.out.mono ?_; rintro e w9 ⟨rfl, h9⟩; rw [h9]; clear h9))
                  go_wp2_with (refine wpList_store_kz rfl rfl _ _ _ rfl w.heap.size 0 (.agg zMr) rfl rfl _ _ zMr R1.out info28 rfl rfl rfl ?_; intro W7 R7 q7)
                  refine bodyPost_ret (results_cell_tmp_row19 rfl _ _ w.heap.size _ _ _ _ _ rfl rfl R7 Tryd.underlying28 rfl (by kernel_rfl)) rfl ?_
                  exact ⟨q7.belowN B1.out (Nat.le_refl _) (Nat.le_refl _), mr0, 192, .slice none 0 0, rfl, (ownT_nil 0 _).row, (by intro b h; simp [blkV] at h), .inr ⟨by decide, HCM.out⟩⟩
          · rw [hbr] at HN2
            have HCM : Hid (cmdA (x :: y :: q) = .inl 192) := HNM.out.trans (cmdN_br hbr)
            clear HC2 hbr t0 t1 HNM
            rcases h49 with rfl | rfl
            all_goals
              go_upto_region 23 with (go_at_call 46; refine HN1.out.mono ?_; rintro e w9 ⟨rfl, h9⟩; rw [h9]; clear h9)
              go_upto_region 25 with (go_at_call 46; with_reducible refine HN2.out.mono ?_; rintro e w9 ⟨rfl, h9⟩; rw [h9]; clear h9)
              go_wp2_with (refine wpList_store_kz rfl rfl _ _ _ rfl w.heap.size 0 (.agg zMr) rfl rfl _ _ zMr R1.out info28 rfl rfl rfl ?_; intro W7 R7 q7)
              refine bodyPost_ret (results_cell_tmp_row19 rfl _ _ w.heap.size _ _ _ _ _ rfl rfl R7 Tryd.underlying28 rfl (by kernel_rfl)) rfl ?_
              exact ⟨q7.belowN B1.out (Nat.le_refl _) (Nat.le_refl _), mr0, 192, .slice none 0 0, rfl, (ownT_nil 0 _).row, (by intro b h; simp [blkV] at h), .inr ⟨by decide, HCM.out⟩⟩
    · rw [hB] at HN1
      obtain ⟨y, rfl, hy⟩ := nmd_one hB
      have HCM : Hid (cmdA (x :: [y]) = .inr ⟨kv, y, []⟩) := HNM.out.trans (k2_one hy)
      simp only [List.length_cons, List.length_nil] at hrl
      subst hrl
      obtain ⟨b2, o2, p2, e2, d2⟩ := RowG.tx HV2.out (k := 0) (x := y) rfl
      injection e2 with e2 e2b e2c
      rw [Nat.add_zero] at d2
      subst e2
      clear hB hy HNM e2b e2c
      rcases h49 with rfl | rfl
      · go_upto_region 22 with (go_at_call 46; refine HN1.out.mono ?_; rintro e w9 ⟨rfl, h9⟩; rw [h9]; clear h9)
        go_wp2_with (refine wpList_store_kz rfl rfl _ _ _ rfl w.heap.size 0 (.agg #[.int .i64 4, .string y, .slice none 0 0]) rfl rfl _ _ #[.int .i64 4, .string y, .slice none 0 0] R1.out info28 rfl rfl rfl ?_; intro W7 R7 q7)
        refine bodyPost_ret (results_cell_tmp_row19 rfl _ _ w.heap.size _ _ _ _ _ rfl rfl R7 Tryd.underlying28 rfl (by kernel_rfl)) rfl ?_
        exact ⟨q7.belowN B1.out (Nat.le_refl _) (Nat.le_refl _), ⟨4, y, []⟩, 0, .slice none 0 0, rfl, (ownT_nil 0 _).row, (by intro b h; simp [blkV] at h), .inl ⟨rfl, HCM.out⟩⟩
      · go_upto_region 22 with (go_at_call 46; refine HN1.out.mono ?_; rintro e w9 ⟨rfl, h9⟩; rw [h9]; clear h9)
        go_wp2_with (refine wpList_store_kz rfl rfl _ _ _ rfl w.heap.size 0 (.agg #[.int .i64 9, .string y, .slice none 0 0]) rfl rfl _ _ #[.int .i64 9, .string y, .slice none 0 0] R1.out info28 rfl rfl rfl ?_; intro W7 R7 q7)
        refine bodyPost_ret (results_cell_tmp_row19 rfl _ _ w.heap.size _ _ _ _ _ rfl rfl R7 Tryd.underlying28 rfl (by kernel_rfl)) rfl ?_
        exact ⟨q7.belowN B1.out (Nat.le_refl _) (Nat.le_refl _), ⟨9, y, []⟩, 0, .slice none 0 0, rfl, (ownT_nil 0 _).row, (by intro b h; simp [blkV] at h), .inl ⟨rfl, HCM.out⟩⟩
  · have HNM : Hid (cmdA (x :: r) = cmdB kv 0 ⟨#[]⟩ r) := cmdA_bare HKV.out.symm (by omega) (by rcases h813 with rfl | rfl | rfl | rfl | rfl <;> rfl) (by rcases h813 with rfl | rfl | rfl | rfl | rfl <;> rfl)
    by_cases hm0 : m = 0
    · have hr0 : r = [] := List.eq_nil_of_length_eq_zero (by omega)
      have HCM : Hid (cmdA (x :: r) = .inr ⟨kv, ⟨#[]⟩, []⟩) := by show _ = _; rw [HNM.out, hr0]; exact kz_yes
      clear HNM hrl hr0
      subst hm0
      rcases h813 with rfl | rfl | rfl | rfl | rfl
      · go_upto_region 6 with fail
        go_wp2_with (refine wpList_store_kz rfl rfl _ _ _ rfl w.heap.size 0 (.agg #[.int .i64 8, .string ⟨#[]⟩, .slice none 0 0]) rfl rfl _ _ #[.int .i64 8, .string ⟨#[]⟩, .slice none 0 0] R1.out info28 rfl rfl rfl ?_; intro W7 R7 q7)
        refine bodyPost_ret (results_cell_tmp_row19 rfl _ _ w.heap.size _ _ _ _ _ rfl rfl R7 Tryd.underlying28 rfl (by kernel_rfl)) rfl ?_
        exact ⟨q7.belowN B1.out (Nat.le_refl _) (Nat.le_refl _), ⟨8, ⟨#[]⟩, []⟩, 0, .slice none 0 0, rfl, (ownT_nil 0 _).row, (by intro b h; simp [blkV] at h), .inl ⟨rfl, HCM.out⟩⟩
      · go_upto_region 6 with fail
        go_wp2_with (refine wpList_store_kz rfl rfl _ _ _ rfl w.heap.size 0 (.agg #[.int .i64 10, .string ⟨#[]⟩, .slice none 0 0]) rfl rfl _ _ #[.int .i64 10, .string ⟨#[]⟩, .slice none 0 0] R1.out info28 rfl rfl rfl ?_; intro W7 R7 q7)
        refine bodyPost_ret (results_cell_tmp_row19 rfl _ _ w.heap.size _ _ _ _ _ rfl rfl R7 Tryd.underlying28 rfl (by kernel_rfl)) rfl ?_
        exact ⟨q7.belowN B1.out (Nat.le_refl _) (Nat.le_refl _), ⟨10, ⟨#[]⟩, []⟩, 0, .slice none 0 0, rfl, (ownT_nil 0 _).row, (by intro b h; simp [blkV] at h), .inl ⟨rfl, HCM.out⟩⟩
      · go_upto_region 6 with fail
        go_wp2_with (refine wpList_store_kz rfl rfl _ _ _ rfl w.heap.size 0 (.agg #[.int .i64 11, .string ⟨#[]⟩, .slice none 0 0]) rfl rfl _ _ #[.int .i64 11, .string ⟨#[]⟩, .slice none 0 0] R1.out info28 rfl rfl rfl ?_; intro W7 R7 q7)
        refine bodyPost_ret (results_cell_tmp_row19 rfl _ _ w.heap.size _ _ _ _ _ rfl rfl R7 Tryd.underlying28 rfl (by kernel_rfl)) rfl ?_
        exact ⟨q7.belowN B1.out (Nat.le_refl _) (Nat.le_refl _), ⟨11, ⟨#[]⟩, []⟩, 0, .slice none 0 0, rfl, (ownT_nil 0 _).row, (by intro b h; simp [blkV] at h), .inl ⟨rfl, HCM.out⟩⟩
      · go_upto_region 6 with fail
        go_wp2_with (refine wpList_store_kz rfl rfl _ _ _ rfl w.heap.size 0 (.agg #[.int .i64 12, .string ⟨#[]⟩, .slice none 0 0]) rfl rfl _ _ #[.int .i64 12, .string ⟨#[]⟩, .slice none 0 0] R1.out info28 rfl rfl rfl ?_; intro W7 R7 q7)
        refine bodyPost_ret (results_cell_tmp_row19 rfl _ _ w.heap.size _ _ _ _ _ rfl rfl R7 Tryd.underlying28 rfl (by kernel_rfl)) rfl ?_
        exact ⟨q7.belowN B1.out (Nat.le_refl _) (Nat.le_refl _), ⟨12, ⟨#[]⟩, []⟩, 0, .slice none 0 0, rfl, (ownT_nil 0 _).row, (by intro b h; simp [blkV] at h), .inl ⟨rfl, HCM.out⟩⟩
      · go_upto_region 6 with fail
        go_wp2_with (refine wpList_store_kz rfl rfl _ _ _ rfl w.heap.size 0 (.agg #[.int .i64 13, .string ⟨#[]⟩, .slice none 0 0]) rfl rfl _ _ #[.int .i64 13, .string ⟨#[]⟩, .slice none 0 0] R1.out info28 rfl rfl rfl ?_; intro W7 R7 q7)
        refine bodyPost_ret (results_cell_tmp_row19 rfl _ _ w.heap.size _ _ _ _ _ rfl rfl R7 Tryd.underlying28 rfl (by kernel_rfl)) rfl ?_
        exact ⟨q7.belowN B1.out (Nat.le_refl _) (Nat.le_refl _), ⟨13, ⟨#[]⟩, []⟩, 0, .slice none 0 0, rfl, (ownT_nil 0 _).row, (by intro b h; simp [blkV] at h), .inl ⟨rfl, HCM.out⟩⟩
    · have HCM : Hid (cmdA (x :: r) = .inl 192) := HNM.out.trans (kz_no (by rintro rfl; exact hm0 hrl))
      have hm2 : ¬ ((m : Int) = 0) := by omega
      clear HNM hrl
      rcases h813 with rfl | rfl | rfl | rfl | rfl
      all_goals
        go_upto_region 25 with fail
        go_wp2_with (refine wpList_store_kz rfl rfl _ _ _ rfl w.heap.size 0 (.agg zMr) rfl rfl _ _ zMr R1.out info28 rfl rfl rfl ?_; intro W7 R7 q7)
        refine bodyPost_ret (results_cell_tmp_row19 rfl _ _ w.heap.size _ _ _ _ _ rfl rfl R7 Tryd.underlying28 rfl (by kernel_rfl)) rfl ?_
        exact ⟨q7.belowN B1.out (Nat.le_refl _) (Nat.le_refl _), mr0, 192, .slice none 0 0, rfl, (ownT_nil 0 _).row, (by intro b h; simp [blkV] at h), .inr ⟨by decide, HCM.out⟩⟩
end Go.Proofs.YtdamhdceajmdfaaDoor
