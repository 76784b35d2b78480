
-- CmdSplit's walk, over any Decode that answers so.
import Derived.Test.YtmhamlhmmkbkaaaDoorG0
import Derived.Great.BuildSlice
import Derived.Deep.Cut
import Derived.BigRegion
namespace Go.Proofs.YtmhamlhmmkbkaaaDoor
open Go.ChangeShapes Go.WideShapes Go.ChangeAt Go.RowKit
set_option linter.unusedVariables false
set_option maxRecDepth 100000
set_option linter.unusedSimpArgs false
theorem ext_byL (s : ByteArray) (i j : Nat) : byL (s.extract i j) = ((byL s).drop i).take (j - i) := by
  simp only [byL, ByteArray.data_extract, Array.toList_extract, List.extract_eq_take_drop]
theorem two_words (s : ByteArray) (k : Nat) (t : List ByteArray) (hk : k < s.size) (hs : ∀ c ∈ byL s, c.toNat < 128) (h0 : (byL s).head? ≠ some 45) :
    decC ([wAr, s] ++ t) = decC ([wAr, s.extract 0 k, ⟨#[45]⟩ ++ s.extract k s.size] ++ t) := by
  have e1 : byL (s.extract 0 k) = (byL s).take k := by rw [ext_byL]; simp
  have e2 : byL (s.extract k s.size) = (byL s).drop k := by
    rw [ext_byL]; exact List.take_of_length_le (by rw [List.length_drop, byL_size]; exact Nat.le_refl _)
  have e3 : s.extract 0 k = byB ((byL s).take k) := by rw [← e1, byB_byL]
  have e4 : (⟨#[45]⟩ : ByteArray) ++ s.extract k s.size = byB (45 :: (byL s).drop k) := by
    rw [← e2]
    apply ByteArray.ext
    simp [byB, byL]
  have e5 : s = byB ((byL s).take k ++ (byL s).drop k) := by rw [List.take_append_drop, byB_byL]
  have h := split (a := (byL s).take k) (b := (byL s).drop k) t (fun c hc => hs c (List.mem_of_mem_take hc)) (fun c hc => hs c (List.mem_of_mem_drop hc)) (by
    intro e
    have := congrArg List.length e
    rw [List.length_drop, byL_size] at this
    simp at this; omega) (by rw [List.take_append_drop]; exact h0)
  rw [← e5, ← e3, ← e4] at h
  exact h
theorem ext_size (s : ByteArray) (k : Nat) (hk : k ≤ s.size) : (s.extract k s.size).size = s.size - k ∧ (s.extract 0 k).size = k := by
  constructor
  · rw [← byL_size, ext_byL, List.length_take, List.length_drop, byL_size]; omega
  · rw [← byL_size, ext_byL, List.length_take, List.length_drop, byL_size]; omega
set_option maxHeartbeats 16000000 in
theorem cmdSplit_w (HD : DecodeOkT 8) (s : ByteArray) (n : Int) (v0 : Value) (L : List ByteArray) (w : World) (hTab : TabU w) (hs : s.size ≤ 1048576) (h0 : RowT w v0 L) (hl : L.length ≤ 1048576) (ht : totT L ≤ 1048576) :
    Calls Tryd.prog 4 #[.string s, .int .i64 n, v0] w fun e w' => e = .returned (.bool true) ∧ Below w.heap.size w w' := by
  have H1 : Hid (Calls Tryd.prog 8 #[.slice (some ⟨w.heap.size, 0, none⟩) 4 4] (w.alloc (.cells #[.string ⟨#[97, 114]⟩, .string ⟨#[45, 116]⟩, .string ⟨#[45, 118]⟩, .string ⟨#[97]⟩] 9)) fun e w' => ∃ u, e = .returned (.tuple #[.agg #[.int .i64 0, .int .u8 116, .bool true, .bool false, .bool false, .bool false, .bool false, .bool false, .bool false, .int .i64 0, .int .i64 0, .string ⟨#[]⟩, .string ⟨#[97]⟩, u], .string ⟨#[]⟩, .int .i64 0]) ∧ OwnT (w.alloc (.cells #[.string ⟨#[97, 114]⟩, .string ⟨#[45, 116]⟩, .string ⟨#[45, 118]⟩, .string ⟨#[97]⟩] 9)).heap.size w' u [] ∧ Below (w.alloc (.cells #[.string ⟨#[97, 114]⟩, .string ⟨#[45, 116]⟩, .string ⟨#[45, 118]⟩, .string ⟨#[97]⟩] 9)).heap.size (w.alloc (.cells #[.string ⟨#[97, 114]⟩, .string ⟨#[45, 116]⟩, .string ⟨#[45, 118]⟩, .string ⟨#[97]⟩] 9)) w') :=
    DecodeOkT.yes HD (hTab.on (bupK (Below.refl _ _) _)) (rowT_new [⟨#[97, 114]⟩, ⟨#[45, 116]⟩, ⟨#[45, 118]⟩, ⟨#[97]⟩] _ _ (heap_alloc_new w _) (by simp)) (by simp) (by decide) probe3
  have hB0 : Below w.heap.size w (w.alloc (.cells #[.string ⟨#[97, 114]⟩, .string ⟨#[45, 116]⟩, .string ⟨#[45, 118]⟩, .string ⟨#[97]⟩] 9)) := bupK (Below.refl _ _) _
  have HV := hidK h0
  have HDD := hidK HD
  have HTB := hidK hTab
  have HLL := hidK (And.intro hl ht)
  have HSZ := hidK hs
  clear h0 HD ht hTab
  go_enter Tryd.func4, Tryd.ntmps4
  go_wp2
  go_loopw [7] (fun i wx => ∃ k : Nat, i = .int .i64 k ∧ k ≤ s.size ∧ Hid (∀ c ∈ (byL s).take k, c.toNat < 128) ∧ wx = w) (fun i _ => s.size - (intOf i).toNat)
  case atStart => exact ⟨0, rfl, Nat.zero_le _, (by intro c hc; simp at hc), rfl⟩
  case round =>
    obtain ⟨k, rfl, hk1, hno, rfl⟩ := hrel
    by_cases hk : k < s.size
    · have kI : (k : Int) < (s.size : Int) := by omega
      have hidx := idxT s k hk
      have hg := getT s k hk
      have hkl : k < (byL s).length := by rw [byL_size]; exact hk
      clear H1 hB0 HV HDD
      by_cases hb : 128 ≤ (s[k]'hk).toNat
      · have e1 : (128 : Int) ≤ ((s[k]'hk).toNat : Int) := by omega
        obtain ⟨m, hm⟩ : ∃ m : Int, m = ((s[k]'hk).toNat : Int) := ⟨_, rfl⟩
        rw [← hm] at e1 hidx
        clear hm hg hb
        go_wp2
        go_ret
        exact ⟨rfl, Below.refl _ _⟩
      · have e1 : ¬ (128 : Int) ≤ ((s[k]'hk).toNat : Int) := by omega
        have HK : Hid (∀ c ∈ (byL s).take (k + 1), c.toNat < 128) := by
          intro c hc
          rw [List.take_succ_eq_append_getElem hkl, List.mem_append, List.mem_singleton] at hc
          rcases hc with hc | rfl
          · exact hno.out c hc
          · rw [hg]; omega
        obtain ⟨m, hm⟩ : ∃ m : Int, m = ((s[k]'hk).toNat : Int) := ⟨_, rfl⟩
        rw [← hm] at e1 hidx
        clear hm hg hb
        go_wp2
        go_roundw
        case rel => exact ⟨k + 1, by go_num, by omega, HK, by first | trivial | rfl⟩
        case measure => simp [intOf]; omega
    · obtain rfl : k = s.size := by omega
      have HALL : Hid (∀ c ∈ byL s, c.toNat < 128) := by
        have := hno.out
        rw [List.take_of_length_le (by rw [byL_size]; exact Nat.le_refl _)] at this
        exact this
      clear hno hk hk1
      go_upto_region 7 with (first
        | (go_at_call 8; refine H1.out.mono ?_; rintro e w1 ⟨u1, rfl, o1, b1⟩; obtain ⟨a1, k1, rfl⟩ := OwnT.form o1)
        | (refine wpList_store_kz rfl rfl _ _ _ rfl w1.heap.size 0 (.agg #[.int .i64 0, .int .u8 116, .bool true, .bool false, .bool false, .bool false, .bool false, .bool false, .bool false, .int .i64 0, .int .i64 0, .string ⟨#[]⟩, .string ⟨#[97]⟩, .slice a1 0 k1]) rfl rfl _ _ #[.int .i64 0, .int .u8 116, .bool true, .bool false, .bool false, .bool false, .bool false, .bool false, .bool false, .int .i64 0, .int .i64 0, .string ⟨#[]⟩, .string ⟨#[97]⟩, .slice a1 0 k1] (heap_alloc_new _ _) (by kernel_rfl) rfl rfl rfl ?_; intro W2 S2 q2; have b2 := q2.belowN (bupK (Below.refl _ w1) _) (Nat.le_refl _) (Nat.le_refl _); clear q2))
      have hB2 := bel3K (bel3K hB0 b1) b2
      have x0 := cell_rowK S2 0 _ rfl
      have x1 := cell_rowK S2 1 _ rfl
      have x2 := cell_rowK S2 2 _ rfl
      have x3 := cell_rowK S2 3 _ rfl
      have x4 := cell_rowK S2 4 _ rfl
      have x5 := cell_rowK S2 5 _ rfl
      have x6 := cell_rowK S2 6 _ rfl
      have x7 := cell_rowK S2 7 _ rfl
      have x8 := cell_rowK S2 8 _ rfl
      have x9 := cell_rowK S2 9 _ rfl
      have x10 := cell_rowK S2 10 _ rfl
      have x11 := cell_rowK S2 11 _ rfl
      have x12 := cell_rowK S2 12 _ rfl
      have x13 := cell_rowK S2 13 _ rfl
      clear S2 b2 b1 hB0 H1 o1
      go_upto_region 9 with (go_at_call 9; refine (num_c _ _).mono ?_; rintro e wn ⟨rfl, hwn⟩; rw [hwn]; clear hwn)
      clear x0 x1 x2 x3 x4 x5 x6 x7 x8 x9 x10 x11 x12 x13
      by_cases hemp : s = ⟨#[]⟩
      · subst hemp
        go_wp2
        go_ret
        exact ⟨rfl, hB2⟩
      · have hsz : 0 < s.size := by
          rcases Nat.eq_zero_or_pos s.size with h | h
          · exact absurd (by apply ByteArray.ext; exact Array.eq_empty_of_size_eq_zero h) hemp
          · exact h
        have em1 : (s.toList == []) = false := by
          rw [ByteArray.toList_eq]
          cases hl : s.data.toList with
          | nil => exact absurd (by apply ByteArray.ext; simpa using hl) hemp
          | cons a r => rfl
        have em2 : s.toList.isEmpty = false := by
          rw [ByteArray.toList_eq]
          cases hl : s.data.toList with
          | nil => exact absurd (by apply ByteArray.ext; simpa using hl) hemp
          | cons a r => rfl
        have zI : (0 : Int) < (s.size : Int) := by omega
        have hidx := idxT s 0 hsz
        have HG := hidK (getT s 0 hsz)
        by_cases hb : s[0]'hsz = 45
        · have e1 : (((s[0]'hsz).toNat : Int) == 45) = true := by rw [hb]; rfl
          have HE := hidK hemp
          clear hemp hb
          go_wp2
          go_ret
          exact ⟨by first | rfl | simp, hB2⟩
        · have e1 : (((s[0]'hsz).toNat : Int) == 45) = false := u8I (b := 45) hb
          have H45 : Hid ((byL s).head? ≠ some 45) := by
            intro e
            have hl : (byL s)[0]? = some 45 := by rw [← List.head?_eq_getElem?]; exact e
            have hg0 := HG.out
            have h2 := (List.getElem?_eq_some_iff.1 hl).2
            rw [h2] at hg0
            exact hb hg0.symm
          have HE := hidK hemp
          clear hemp hb HG
          by_cases hn1 : n < 0
          · go_wp2
            go_ret
            exact ⟨by first | rfl | simp [e1] | simp, hB2⟩
          · by_cases hn2 : (s.size : Int) ≤ n
            · go_wp2
              go_ret
              exact ⟨by first | rfl | simp [e1] | simp, hB2⟩
            · obtain ⟨k, rfl⟩ : ∃ k : Nat, n = (k : Int) := ⟨n.toNat, by omega⟩
              have hk : k < s.size := by omega
              have k0 : (0 : Int) ≤ (k : Int) := by omega
              have k1 : (k : Int) ≤ (s.size : Int) := by omega
              have k2 : k ≤ s.size := by omega
              obtain ⟨z1, z2⟩ := ext_size s k k2
              have HTW := hidK (two_words s k L hk HALL.out H45.out)
              obtain ⟨X, hX⟩ : ∃ X, X = s.extract 0 k := ⟨_, rfl⟩
              obtain ⟨Y0, hY0⟩ : ∃ Y, Y = s.extract k s.size := ⟨_, rfl⟩
              rw [← hX, ← hY0] at HTW
              rw [← hY0] at z1
              rw [← hX] at z2
              have hss := HSZ.out
              have q1 : ¬ (9223372036854775807 < 1 + Y0.size) := by omega
              obtain ⟨Y, hY⟩ : ∃ Y, (⟨#[45]⟩ : ByteArray) ++ Y0 = Y := ⟨_, rfl⟩
              have zY : Y.size ≤ 1048577 := by rw [← hY, ByteArray.size_append]; have : (⟨#[45]⟩ : ByteArray).size = 1 := rfl; omega
              rw [hY] at HTW
              obtain ⟨A1, hA1⟩ : ∃ A1, A1 = decC ([wAr, s] ++ L) := ⟨_, rfl⟩
              have zt1 : totT [wAr, s] ≤ 2097152 := by rw [totT_cons, totT_cons]; have e1 : totT ([] : List ByteArray) = 0 := rfl; have e2 : wAr.size = 2 := rfl; omega
              have zt2 : totT [wAr, X, Y] ≤ 4194304 := by rw [totT_cons, totT_cons, totT_cons]; have e1 : totT ([] : List ByteArray) = 0 := rfl; have e2 : wAr.size = 2 := rfl; omega
              obtain ⟨hll, htt⟩ := HLL.out
              have HA : Hid (∀ W v, Below wr.heap.size wr W → RowT W v ([wAr, s] ++ L) → Calls Tryd.prog 8 #[v] W fun e w' => ∃ u, e = .returned (.tuple #[.agg #[.int .i64 (ansC A1).prog, .int .u8 ((ansC A1).op.toNat : Int), .bool (ansC A1).vb, .bool (ansC A1).up, .bool (ansC A1).qu, .bool (ansC A1).det, .bool (ansC A1).dat, .bool (ansC A1).bare, .bool (ansC A1).thin, .int .i64 (ansC A1).kind, .int .i64 (ansC A1).wh, .string (ansC A1).anc, .string (ansC A1).arc, u], .string (ansW A1), .int .i64 (ansE A1)]) ∧ OwnT W.heap.size w' u (ansC A1).nms ∧ Below W.heap.size W w') := fun W v hbT hv => by
                rw [hA1]
                exact HDD.out v ([wAr, s] ++ L) W (HTB.out.on hbT) hv (by simp; omega) (by rw [totT_app]; omega)
              have HB : Hid (∀ W v, Below wr.heap.size wr W → RowT W v ([wAr, X, Y] ++ L) → Calls Tryd.prog 8 #[v] W fun e w' => ∃ u, e = .returned (.tuple #[.agg #[.int .i64 (ansC A1).prog, .int .u8 ((ansC A1).op.toNat : Int), .bool (ansC A1).vb, .bool (ansC A1).up, .bool (ansC A1).qu, .bool (ansC A1).det, .bool (ansC A1).dat, .bool (ansC A1).bare, .bool (ansC A1).thin, .int .i64 (ansC A1).kind, .int .i64 (ansC A1).wh, .string (ansC A1).anc, .string (ansC A1).arc, u], .string (ansW A1), .int .i64 (ansE A1)]) ∧ OwnT W.heap.size w' u (ansC A1).nms ∧ Below W.heap.size W w') := fun W v hbT hv => by
                rw [hA1, HTW.out]
                exact HDD.out v ([wAr, X, Y] ++ L) W (HTB.out.on hbT) hv (by simp; omega) (by rw [totT_app]; omega)
              have hnl : (ansC A1).nms.length ≤ 16777216 := by
                rw [hA1]
                cases hd : decC ([wAr, s] ++ L) with
                | inl x => exact Nat.zero_le _
                | inr c => have h5 := (dec_size hd).1; simp at h5; show c.nms.length ≤ _; omega
              obtain ⟨c, hc⟩ : ∃ c, c = ansC A1 := ⟨_, rfl⟩
              obtain ⟨xw, hxw⟩ : ∃ x, x = ansW A1 := ⟨_, rfl⟩
              obtain ⟨xe, hxe⟩ : ∃ x, x = ansE A1 := ⟨_, rfl⟩
              rw [← hc, ← hxw, ← hxe] at HA HB
              rw [← hc] at hnl
              have HS : Hid (∀ W u v, RowT W u c.nms → RowT W v c.nms → Calls Tryd.prog 11 #[.agg #[.int .i64 c.prog, .int .u8 (c.op.toNat : Int), .bool c.vb, .bool c.up, .bool c.qu, .bool c.det, .bool c.dat, .bool c.bare, .bool c.thin, .int .i64 c.kind, .int .i64 c.wh, .string c.anc, .string c.arc, u], .agg #[.int .i64 c.prog, .int .u8 (c.op.toNat : Int), .bool c.vb, .bool c.up, .bool c.qu, .bool c.det, .bool c.dat, .bool c.bare, .bool c.thin, .int .i64 c.kind, .int .i64 c.wh, .string c.anc, .string c.arc, v]] W fun e w' => e = .returned (.bool true) ∧ Below W.heap.size W w') := fun W u v hu hv => same15_c c u v W hu hv (by omega)
              clear hc hxw hxe hA1 HTW zt1 zt2 z1 z2 zY hss hll htt HDD HALL H45 HE hidx hl hnl
              go_upto_region 12 with fail
              obtain ⟨W4, hW4⟩ : ∃ W4, W2.alloc (.cells #[.string ⟨#[97, 114]⟩, .string s] 9) = W4 := ⟨_, rfl⟩
              have hB4 : Below wr.heap.size wr W4 := by rw [← hW4]; exact bupK hB2 _
              have o4 : OwnT wr.heap.size W4 (.slice (some ⟨W2.heap.size, 0, none⟩) 2 2) [wAr, s] := by rw [← hW4]; exact ownT_new [wAr, s] _ _ _ hB2.size (heap_alloc_new W2 _) (by simp)
              try rw [hW4]
              clear hW4 hB2
              go_upto_region 13 with (refine wpT_all rfl (.tmp 67) (.tmp 68) rfl wr wr.heap.size _ v0 [wAr, s] L rfl rfl o4 (HV.out.on hB4) (by simp) (by have := HLL.out.1; omega) (Nat.le_refl _) hB4 ?_; intro v5 w5 o5 b5)
              clear o4 hB4
              go_region
              obtain ⟨W6, hW6⟩ : ∃ W6, (w5.alloc (.cells #[.string ⟨#[97, 114]⟩, .string (s.extract 0 k), .string ((⟨#[45]⟩ : ByteArray) ++ s.extract k s.size)] 9)).drew = W6 := ⟨_, rfl⟩
              have b56 : Below w5.heap.size w5 W6 := by rw [← hW6]; exact (bupK (Below.refl _ _) _).drew
              have o6 : OwnT w5.heap.size W6 (.slice (some ⟨w5.heap.size, 0, none⟩) 3 3) [wAr, X, Y] := by
                rw [← hW6, ← hY, hX, hY0]
                exact ownT_new [wAr, s.extract 0 k, (⟨#[45]⟩ : ByteArray) ++ s.extract k s.size] _ _ _ (Nat.le_refl _) (show (w5.alloc _).heap[w5.heap.size]? = _ from heap_alloc_new w5 _) (by simp)
              have r6 := HV.out.on (bel3K b5 b56)
              rw [hW6]
              clear hW6 hX hY0 hY
              go_upto_region 14 with fail
              go_upto_region 15 with (refine wpT_all rfl (.tmp 78) (.tmp 79) rfl w5 w5.heap.size _ v0 [wAr, X, Y] L rfl rfl o6 r6 (by simp) (by have := HLL.out.1; omega) (Nat.le_refl _) b56 ?_; intro v7 w7 o7 b7)
              have r7 := (OwnT.row o5).on b7
              have hB7 := bel3K b5 b7
              clear o6 b56 o5 b5 r6 b7
              go_upto_region 16 with (first
                | (go_at_call 8; refine (HA.out _ _ hB7 r7).mono ?_; rintro e w8 ⟨u8, rfl, o8, b8⟩; obtain ⟨a8, k8, rfl⟩ := OwnT.form o8)
                | (refine wpList_store_kz rfl rfl _ _ _ rfl w8.heap.size 0 (.agg #[.int .i64 c.prog, .int .u8 (c.op.toNat : Int), .bool c.vb, .bool c.up, .bool c.qu, .bool c.det, .bool c.dat, .bool c.bare, .bool c.thin, .int .i64 c.kind, .int .i64 c.wh, .string c.anc, .string c.arc, .slice a8 c.nms.length k8]) rfl rfl _ _ #[.int .i64 c.prog, .int .u8 (c.op.toNat : Int), .bool c.vb, .bool c.up, .bool c.qu, .bool c.det, .bool c.dat, .bool c.bare, .bool c.thin, .int .i64 c.kind, .int .i64 c.wh, .string c.anc, .string c.arc, .slice a8 c.nms.length k8] (heap_alloc_new _ _) (by kernel_rfl) rfl rfl rfl ?_; intro W9 S9 q9; have b9 := q9.belowN (bupK (Below.refl _ w8) _) (Nat.le_refl _) (Nat.le_refl _); clear q9))
              have hB9 := bel3K (bel3K hB7 b8) b9
              have r9 := ((OwnT.row o7).on b8).on b9
              have t9 := (OwnT.row o8).on b9
              clear b8 b9 o7 o8 r7 hB7 HA
              go_upto_region 17 with (first
                | (go_at_call 8; refine (HB.out _ _ hB9 r9).mono ?_; rintro e w10 ⟨u10, rfl, o10, b10⟩; obtain ⟨a10, k10, rfl⟩ := OwnT.form o10)
                | (refine wpList_store_kz rfl rfl _ _ _ rfl w10.heap.size 0 (.agg #[.int .i64 c.prog, .int .u8 (c.op.toNat : Int), .bool c.vb, .bool c.up, .bool c.qu, .bool c.det, .bool c.dat, .bool c.bare, .bool c.thin, .int .i64 c.kind, .int .i64 c.wh, .string c.anc, .string c.arc, .slice a10 c.nms.length k10]) rfl rfl _ _ #[.int .i64 c.prog, .int .u8 (c.op.toNat : Int), .bool c.vb, .bool c.up, .bool c.qu, .bool c.det, .bool c.dat, .bool c.bare, .bool c.thin, .int .i64 c.kind, .int .i64 c.wh, .string c.anc, .string c.arc, .slice a10 c.nms.length k10] (heap_alloc_new _ _) (by kernel_rfl) rfl rfl rfl ?_; intro W11 S11 q11; have b11 := q11.belowN (bupK (Below.refl _ w10) _) (Nat.le_refl _) (Nat.le_refl _); clear q11))
              have hB11 := bel3K (bel3K hB9 b10) b11
              have T11 := hkeepK b11 (hkeepK b10 S9)
              have t11 := (t9.on b10).on b11
              have r11 := (OwnT.row o10).on b11
              have x0 := cell_rowK T11 0 _ rfl
              have x1 := cell_rowK T11 1 _ rfl
              have x2 := cell_rowK T11 2 _ rfl
              have x3 := cell_rowK T11 3 _ rfl
              have x4 := cell_rowK T11 4 _ rfl
              have x5 := cell_rowK T11 5 _ rfl
              have x6 := cell_rowK T11 6 _ rfl
              have x7 := cell_rowK T11 7 _ rfl
              have x8 := cell_rowK T11 8 _ rfl
              have x9 := cell_rowK T11 9 _ rfl
              have x10 := cell_rowK T11 10 _ rfl
              have x11 := cell_rowK T11 11 _ rfl
              have x12 := cell_rowK T11 12 _ rfl
              have x13 := cell_rowK T11 13 _ rfl
              have y0 := cell_rowK S11 0 _ rfl
              have y1 := cell_rowK S11 1 _ rfl
              have y2 := cell_rowK S11 2 _ rfl
              have y3 := cell_rowK S11 3 _ rfl
              have y4 := cell_rowK S11 4 _ rfl
              have y5 := cell_rowK S11 5 _ rfl
              have y6 := cell_rowK S11 6 _ rfl
              have y7 := cell_rowK S11 7 _ rfl
              have y8 := cell_rowK S11 8 _ rfl
              have y9 := cell_rowK S11 9 _ rfl
              have y10 := cell_rowK S11 10 _ rfl
              have y11 := cell_rowK S11 11 _ rfl
              have y12 := cell_rowK S11 12 _ rfl
              have y13 := cell_rowK S11 13 _ rfl
              clear S11 T11 b11 b10 S9 t9 o10 r9 hB9 HB
              go_wp2_with (first
                | (go_at_call 9; refine (num_c _ _).mono ?_; rintro e wn ⟨rfl, hwn⟩; rw [hwn]; clear hwn)
                | (go_at_call 11; refine (HS.out _ _ _ t11 r11).mono ?_; rintro e w12 ⟨rfl, b12⟩))
              go_ret
              exact ⟨by simp, bel3K hB11 b12⟩
end Go.Proofs.YtmhamlhmmkbkaaaDoor
