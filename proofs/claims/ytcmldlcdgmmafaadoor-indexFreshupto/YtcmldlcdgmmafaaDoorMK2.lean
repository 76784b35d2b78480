
-- shelflaw11.mark: a contract.
import Derived.Test.YtcmldlcdgmmafaaDoorMK
namespace Go.Proofs.YtcmldlcdgmmafaaDoor
open Go.ChangeShapes Go.WideShapes Go.ChangeAt Go.RowKit
set_option linter.unusedVariables false
set_option maxRecDepth 100000
theorem mks_step {z : Int} {L : List En} {k : Nat} (h : Mks z (L.take k)) : Mks z ((L.set k ⟨mkS, z⟩).take (k + 1)) := by
  intro j x hx
  have hj : j < k + 1 := by have := (List.getElem?_eq_some_iff.1 hx).1; rw [List.length_take] at this; omega
  rw [List.getElem?_take_of_lt hj, List.getElem?_set] at hx
  by_cases e : k = j
  · rw [if_pos e] at hx
    split at hx
    · injection hx with hx; rw [← hx]; exact ⟨.inl rfl, rfl⟩
    · cases hx
  · rw [if_neg e] at hx
    exact h j x (by rw [List.getElem?_take_of_lt (by omega)]; exact hx)
theorem mks_set_take {z : Int} {L : List En} {k j : Nat} (h : Mks z (L.take k)) : Mks z ((L.set j ⟨agS, z⟩).take k) := by
  intro i x hx
  have hj : i < k := by have := (List.getElem?_eq_some_iff.1 hx).1; rw [List.length_take] at this; omega
  rw [List.getElem?_take_of_lt hj, List.getElem?_set] at hx
  by_cases e : j = i
  · rw [if_pos e] at hx
    split at hx
    · injection hx with hx; rw [← hx]; exact ⟨.inr rfl, rfl⟩
    · cases hx
  · rw [if_neg e] at hx
    exact h i x (by rw [List.getElem?_take_of_lt hj]; exact hx)
set_option maxHeartbeats 4000000 in
theorem mark11_fit (g cap n : Nat) (l : List En) (z : Int) (w : World) (B : Nat) (h : w.ownsRow B 64 2 (.slice (some ⟨g, 0, none⟩) n cap) n (cellsE l)) (hB : B ≤ w.heap.size) (hl : n ≤ 4194304) (hfit : n + 1 ≤ cap) :
    Calls Tryd.prog 15 #[.slice (some ⟨g, 0, none⟩) n cap, .int .i64 z] w fun e w' => MarkedE z B (.slice (some ⟨g, 0, none⟩) n cap) n w w' e := by
  obtain ⟨i0, hi, hz0, hz1, hz2⟩ := info_parts infoE
  have HL : Hid (l.length = n) := (by obtain ⟨cur, r1, r2, r3, r4, r5, r6, r7⟩ := own_cur h; exact r7)
  go_enter Tryd.func15, Tryd.ntmps15
  go_wp2
  go_loopw [4] (fun i wx => ∃ k : Nat, i = .int .i64 k ∧ k ≤ n ∧ ∃ L : List En, L.length = n ∧ Mks z (L.take k) ∧ wx.ownsRow B 64 2 (.slice (some ⟨g, 0, none⟩) n cap) n (cellsE L) ∧ w.grownBy wx (some g)) (fun i _ => n - (intOf i).toNat)
  case atStart => exact ⟨0, rfl, Nat.zero_le _, l, HL.out, fun j x hx => by simp at hx, h, World.grownBy.refl _ _⟩
  case round =>
    obtain ⟨k, rfl, hkn, L, hLl, hLk, hown, hgr⟩ := hrel
    have HLK := hidK hLk
    have HLL := hidK hLl
    have HGR := hidK hgr
    clear hLk hLl hgr
    by_cases hk : k < n
    · have kI : (k : Int) < (n : Int) := by omega
      have k0 : (0 : Int) ≤ (k : Int) := by omega
      obtain ⟨cur, r1, r2, r3, r4, r5, r6, r7⟩ := own_cur hown
      have hf := hidK (Nat.ble_eq_true_of_le (show 2 * k + 2 ≤ cur.size by omega))
      have HR := hidK (And.intro r2 (And.intro r3 (And.intro r4 (And.intro r5 (And.intro r6 r7)))))
      clear r2 r3 r4 r5 r6 r7 hown
      go_wp2_with (refine wpList_store_kz rfl rfl _ _ _ rfl g (2 * k) (.agg #[.string mkS, .int .i64 z]) (by first | rfl | (simp [Act.eval]; done) | (simp [Act.eval]; omega)) rfl _ _ (putAt cur (2 * k) #[.string mkS, .int .i64 z]) r1 (by kernel_rfl) hf.out rfl rfl ?_; intro w5 R5 q5)
      go_roundw
      case rel =>
        obtain ⟨r2, r3, r4, r5, r6, r7⟩ := HR.out
        exact ⟨k + 1, by go_num, by omega, L.set k ⟨mkS, z⟩, by rw [List.length_set]; exact r7, mks_step HLK.out, own_put ⟨mkS, z⟩ hk r2 r3 r4 r5 r6 r7 R5, grown_trans HGR.out q5.grown⟩
      case measure => simp [intOf]; omega
    · obtain rfl : k = n := by omega
      have HM1 : Hid (Mks z L) := (by have := HLK.out; rw [List.take_of_length_le (by rw [HLL.out]; exact Nat.le_refl _)] at this; exact this)
      clear HLK
      go_wp2_with (at_builtin; refine wpList_append_fits _ rfl _ _ 31 rfl B 64 i0 2 Tryd.underlying31 hi hz1 g k cap (cellsE L) rfl (hown.alloc _) ⟨wr.heap.size, 0, none⟩ 1 1 [.string ⟨#[]⟩, .int .i64 z] rfl rfl (ent_new wr ⟨⟨#[]⟩, z⟩) (ent_one ⟨⟨#[]⟩, z⟩) hfit ?_)
      intro w2 ho2 hg2
      have hgw := hidK (grown_trans (grown_trans HGR.out (World.grownBy_alloc wr _ _)) hg2)
      rw [cellsE_snoc1 L ⟨⟨#[]⟩, z⟩] at ho2
      clear hg2 HGR hown
      obtain ⟨N, hN⟩ : ∃ N, N = k + 1 := ⟨_, rfl⟩
      rw [← hN] at ho2 ⊢
      have HN1 : Hid (N = k + 1) := hN
      have hNl : N ≤ 4194305 := by omega
      have HM2 : Hid (Mks z ((L ++ [(⟨⟨#[]⟩, z⟩ : En)]).take k)) := (by show Mks _ _; rw [List.take_append_of_le_length (by rw [HLL.out]; exact Nat.le_refl _), List.take_of_length_le (by rw [HLL.out]; exact Nat.le_refl _)]; exact HM1.out)
      have HLN : Hid ((L ++ [⟨⟨#[]⟩, z⟩] : List En).length = N) := (by show _ = _; rw [List.length_append, HLL.out, hN]; rfl)
      clear hN HM1
      go_wp2
      go_loopw [6] (fun i wx => ∃ j : Nat, i = .int .i64 j ∧ j ≤ N ∧ ∃ L2 : List En, L2.length = N ∧ Mks z (L2.take k) ∧ wx.ownsRow B 64 2 (.slice (some ⟨g, 0, none⟩) N cap) N (cellsE L2) ∧ w2.grownBy wx (some g)) (fun i _ => N - (intOf i).toNat)
      case atStart => exact ⟨0, rfl, Nat.zero_le _, L ++ [⟨⟨#[]⟩, z⟩], HLN.out, HM2.out, ho2, World.grownBy.refl _ _⟩
      case round =>
        obtain ⟨j, rfl, hjn, L2, hL2, hM2, hown2, hgr2⟩ := hrel
        have HM3 := hidK hM2
        have HL3 := hidK hL2
        have HG3 := hidK hgr2
        clear hM2 hL2 hgr2 ho2
        by_cases hj : j < N
        · have kI : (j : Int) < (N : Int) := by omega
          have k0 : (0 : Int) ≤ (j : Int) := by omega
          obtain ⟨cur, r1, r2, r3, r4, r5, r6, r7⟩ := own_cur hown2
          have hf := hidK (Nat.ble_eq_true_of_le (show 2 * j + 2 ≤ cur.size by omega))
          have HR := hidK (And.intro r2 (And.intro r3 (And.intro r4 (And.intro r5 (And.intro r6 r7)))))
          clear r2 r3 r4 r5 r6 r7 hown2
          go_wp2_with (refine wpList_store_kz rfl rfl _ _ _ rfl g (2 * j) (.agg #[.string agS, .int .i64 z]) (by first | rfl | (simp [Act.eval]; done) | (simp [Act.eval]; omega)) rfl _ _ (putAt cur (2 * j) #[.string agS, .int .i64 z]) r1 (by kernel_rfl) hf.out rfl rfl ?_; intro w5 R5 q5)
          go_roundw
          case rel =>
            obtain ⟨r2, r3, r4, r5, r6, r7⟩ := HR.out
            exact ⟨j + 1, by go_num, by omega, L2.set j ⟨agS, z⟩, by rw [List.length_set]; exact r7, mks_set_take HM3.out, own_put ⟨agS, z⟩ hj r2 r3 r4 r5 r6 r7 R5, grown_trans HG3.out q5.grown⟩
          case measure => simp [intOf]; omega
        · obtain rfl : j = N := by omega
          go_wp2
          go_end0
          refine ⟨rfl, L2.take k, ?_, HM3.out, own_prefixE hown2 (by have := HN1.out; omega), grown_trans hgw.out HG3.out⟩
          rw [List.length_take, HL3.out]; have := HN1.out; omega
set_option maxHeartbeats 4000000 in
theorem mark11_full (ao : Option Addr) (cap n : Nat) (l : List En) (z : Int) (w : World) (B : Nat) (h : w.ownsRow B 64 2 (.slice ao n cap) n (cellsE l)) (hB : B ≤ w.heap.size) (hl : n ≤ 4194304) (hfull : cap < n + 1)
    (HS : Hid (∀ a, ao = some a → ∃ g, a = ⟨g, 0, none⟩ ∧ B ≤ g ∧ g < w.heap.size)) (HN : Hid (ao = none → n = 0 ∧ cap = 0)) (HL : Hid (l.length = n)) :
    Calls Tryd.prog 15 #[.slice ao n cap, .int .i64 z] w fun e w' => MarkedE z B (.slice ao n cap) n w w' e := by
  obtain ⟨i0, hi, hz0, hz1, hz2⟩ := info_parts infoE
  have hbm : n + 1 ≤ maxLen := by unfold maxLen; omega
  have hbb : (n + 1) * 24 ≤ 140737488355328 := by omega
  go_enter Tryd.func15, Tryd.ntmps15
  go_wp2
  go_loopw [4] (fun i wx => ∃ k : Nat, i = .int .i64 k ∧ k ≤ n ∧ ∃ L : List En, L.length = n ∧ Mks z (L.take k) ∧ wx.ownsRow B 64 2 (.slice ao n cap) n (cellsE L) ∧ w.grownBy wx (Value.slice ao n cap).ownBlock) (fun i _ => n - (intOf i).toNat)
  case atStart => exact ⟨0, rfl, Nat.zero_le _, l, HL.out, fun j x hx => by simp at hx, h, World.grownBy.refl _ _⟩
  case round =>
    obtain ⟨k, rfl, hkn, L, hLl, hLk, hown, hgr⟩ := hrel
    have HLK := hidK hLk
    have HLL := hidK hLl
    have HGR := hidK hgr
    have hws := hgr.size
    clear hLk hLl hgr
    by_cases hk : k < n
    · obtain ⟨g, rfl⟩ : ∃ g, ao = some ⟨g, 0, none⟩ := by
        rcases ao with _ | a
        · have := HN.out rfl; omega
        · obtain ⟨g, rfl, _⟩ := HS.out a rfl
          exact ⟨g, rfl⟩
      have kI : (k : Int) < (n : Int) := by omega
      have k0 : (0 : Int) ≤ (k : Int) := by omega
      obtain ⟨cur, r1, r2, r3, r4, r5, r6, r7⟩ := own_cur hown
      have hf := hidK (Nat.ble_eq_true_of_le (show 2 * k + 2 ≤ cur.size by omega))
      have HR := hidK (And.intro r2 (And.intro r3 (And.intro r4 (And.intro r5 (And.intro r6 r7)))))
      clear r2 r3 r4 r5 r6 r7 hown
      go_wp2_with (refine wpList_store_kz rfl rfl _ _ _ rfl g (2 * k) (.agg #[.string mkS, .int .i64 z]) (by first | rfl | (simp [Act.eval]; done) | (simp [Act.eval]; omega)) rfl _ _ (putAt cur (2 * k) #[.string mkS, .int .i64 z]) r1 (by kernel_rfl) hf.out rfl rfl ?_; intro w5 R5 q5)
      go_roundw
      case rel =>
        obtain ⟨r2, r3, r4, r5, r6, r7⟩ := HR.out
        exact ⟨k + 1, by go_num, by omega, L.set k ⟨mkS, z⟩, by rw [List.length_set]; exact r7, mks_step HLK.out, own_put ⟨mkS, z⟩ hk r2 r3 r4 r5 r6 r7 R5, grown_trans HGR.out q5.grown⟩
      case measure => simp [intOf]; omega
    · obtain rfl : k = n := by omega
      have HM1 : Hid (Mks z L) := (by have := HLK.out; rw [List.take_of_length_le (by rw [HLL.out]; exact Nat.le_refl _)] at this; exact this)
      clear HLK
      go_wp2_with (at_builtin; refine wpList_append_grows _ rfl _ _ 31 rfl 64 i0 (.agg #[.string ⟨#[]⟩, .int .i64 0]) 2 24 Tryd.underlying31 hi hz0 hz1 hz2 rfl (by decide) ao k cap (cellsE L) rfl HN.out ?c0 ?c3 ⟨wr.heap.size, 0, none⟩ 1 1 [.string ⟨#[]⟩, .int .i64 z] rfl rfl (ent_new wr ⟨⟨#[]⟩, z⟩) (ent_one ⟨⟨#[]⟩, z⟩) hfull hbm hbb ?_)
      case c0 => rw [cellsE_len, HLL.out]
      case c3 =>
        intro b hb j u hj
        exact (hown.alloc _).cells (g := b.block) (by rw [hb]; rfl) j u hj |> fun t => by
          obtain ⟨g, rfl, _⟩ := HS.out b hb
          exact t
      intro v2 w2 ho2 hg2
      have hgw := hidK (grown_new (grown_trans HGR.out (World.grownBy_alloc wr _ _)) hg2 (fun i h => by cases h))
      have hown3 := hidK (show w2.ownsRow B 64 2 (.slice ao k cap) k (cellsE L) from (hown.alloc _).kept hg2 (by rcases ao with _ | a; exact .inl rfl; exact .inr (by simp [Value.ownBlock])))
      rw [cellsE_snoc1 L ⟨⟨#[]⟩, z⟩] at ho2
      obtain ⟨ao2, cap2, rfl, hnc2, _, hnone2, hsome2⟩ := own_formE ho2
      obtain ⟨g2, rfl, hg2b, hg2w⟩ : ∃ g2, ao2 = some ⟨g2, 0, none⟩ ∧ wr.heap.size + 1 ≤ g2 ∧ g2 < w2.heap.size := by
        rcases ao2 with _ | a
        · have := hnone2 rfl; omega
        · obtain ⟨g2, rfl, h1, h2⟩ := hsome2 a rfl
          exact ⟨g2, rfl, by simpa using h1, h2⟩
      have HAO : Hid (∀ i, (Value.slice ao k cap).ownBlock = some i → i < g2) := fun i hi => by have := (hown.lt i hi).2; omega
      have HM9 := HM1
      clear hg2 HGR hown hnone2 hsome2
      obtain ⟨wr0, hwr0⟩ : ∃ wr0, wr0 = wr.heap.size := ⟨_, rfl⟩
      have ho2 : w2.ownsRow (wr0 + 1) 64 2 (.slice (some ⟨g2, 0, none⟩) (k + 1) cap2) (k + 1) (cellsE (L ++ [⟨⟨#[]⟩, z⟩])) := by rw [hwr0]; simpa using ho2
      obtain ⟨N, hN⟩ : ∃ N, N = k + 1 := ⟨_, rfl⟩
      rw [← hN] at ho2 ⊢
      have hNl : N ≤ 4194305 := by omega
      have HLN : Hid ((L ++ [⟨⟨#[]⟩, z⟩] : List En).length = N) := (by show _ = _; rw [List.length_append, HLL.out, hN]; rfl)
      have hww : w.heap.size ≤ g2 := by omega
      clear hN HM1 hwr0
      go_wp2
      go_loopw [6] (fun i wx => ∃ j : Nat, i = .int .i64 j ∧ j ≤ N ∧ ∃ L2 : List En, L2.length = N ∧ wx.ownsRow (wr0 + 1) 64 2 (.slice (some ⟨g2, 0, none⟩) N cap2) N (cellsE L2) ∧ w2.grownBy wx (some g2)) (fun i _ => N - (intOf i).toNat)
      case atStart => exact ⟨0, rfl, Nat.zero_le _, L ++ [⟨⟨#[]⟩, z⟩], HLN.out, ho2, World.grownBy.refl _ _⟩
      case round =>
        obtain ⟨j, rfl, hjn, L2, hL2, hown2, hgr2⟩ := hrel
        have HL3 := hidK hL2
        have HG3 := hidK hgr2
        clear hL2 hgr2 ho2
        by_cases hj : j < N
        · have kI : (j : Int) < (N : Int) := by omega
          have k0 : (0 : Int) ≤ (j : Int) := by omega
          obtain ⟨cur, r1, r2, r3, r4, r5, r6, r7⟩ := own_cur hown2
          have hf := hidK (Nat.ble_eq_true_of_le (show 2 * j + 2 ≤ cur.size by omega))
          have HR := hidK (And.intro r2 (And.intro r3 (And.intro r4 (And.intro r5 (And.intro r6 r7)))))
          clear r2 r3 r4 r5 r6 r7 hown2
          go_wp2_with (refine wpList_store_kz rfl rfl _ _ _ rfl g2 (2 * j) (.agg #[.string agS, .int .i64 z]) (by first | rfl | (simp [Act.eval]; done) | (simp [Act.eval]; omega)) rfl _ _ (putAt cur (2 * j) #[.string agS, .int .i64 z]) r1 (by kernel_rfl) hf.out rfl rfl ?_; intro w5 R5 q5)
          go_roundw
          case rel =>
            obtain ⟨r2, r3, r4, r5, r6, r7⟩ := HR.out
            exact ⟨j + 1, by go_num, by omega, L2.set j ⟨agS, z⟩, by rw [List.length_set]; exact r7, own_put ⟨agS, z⟩ hj r2 r3 r4 r5 r6 r7 R5, grown_trans HG3.out q5.grown⟩
          case measure => simp [intOf]; omega
        · obtain rfl : j = N := by omega
          go_wp2
          go_end0
          refine ⟨rfl, L, HLL.out, HM9.out, hown3.out.kept HG3.out ?_, grown_new hgw.out HG3.out (fun i h => by cases h; omega)⟩
          rcases ao with _ | a
          · exact .inl rfl
          · right; intro e; have := HAO.out a.block rfl; simp [Value.ownBlock] at e; omega
theorem mark11_c (v : Value) (l : List En) (z : Int) (w : World) (B : Nat) (h : w.ownsRow B 64 2 v l.length (cellsE l)) (hB : B ≤ w.heap.size) (hl : l.length ≤ 4194304) :
    Calls Tryd.prog 15 #[v, .int .i64 z] w fun e w' => MarkedE z B v l.length w w' e := by
  obtain ⟨ao, cap, rfl, hnc, hcm, hnone, hsome⟩ := own_formE h
  by_cases hfit : l.length + 1 ≤ cap
  · obtain ⟨g, rfl⟩ : ∃ g, ao = some ⟨g, 0, none⟩ := by
      rcases ao with _ | a
      · have := hnone rfl; omega
      · obtain ⟨g, rfl, _⟩ := hsome a rfl
        exact ⟨g, rfl⟩
    exact mark11_fit g cap _ l z w B h hB hl hfit
  · exact mark11_full ao cap _ l z w B h hB hl (by omega) hsome hnone rfl
end Go.Proofs.YtcmldlcdgmmafaaDoor
