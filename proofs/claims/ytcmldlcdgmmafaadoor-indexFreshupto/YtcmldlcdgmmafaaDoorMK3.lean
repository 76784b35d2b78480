
-- shelflaw11.grown, marked: contracts.
import Derived.Test.YtcmldlcdgmmafaaDoorMK2
namespace Go.Proofs.YtcmldlcdgmmafaaDoor
open Go.ChangeShapes Go.WideShapes Go.ChangeAt Go.RowKit
set_option linter.unusedVariables false
set_option maxRecDepth 100000
theorem own_leM {B B' : Nat} {w : World} {e : TypeId} {s k : Nat} {v : Value} {xs : List Value} (h : w.ownsRow B' e s v k xs) (hb : B ≤ B') : w.ownsRow B e s v k xs := by
  refine ⟨h.1, ?_⟩
  rcases h.2 with h2 | ⟨g, cap, cur, q1, q2, q⟩
  · exact .inl h2
  · exact .inr ⟨g, cap, cur, q1, Nat.le_trans hb q2, q⟩
theorem RowE.atM {w : World} {v : Value} {L : List En} {k : Nat} {x : En} (h : RowE w v L) (hx : L[k]? = some x) : ∃ b off cap, v = .slice (some ⟨b, off, none⟩) L.length cap ∧ w.cell? ⟨b, off + k * 2, none⟩ = some (.string x.name) ∧ w.cell? ⟨b, off + k * 2 + 1, none⟩ = some (.int .i64 x.pl) := by
  rcases h with ⟨rfl, _⟩ | ⟨b, off, cap, rfl, hc⟩
  · simp at hx
  · obtain ⟨c1, c2⟩ := hc k x hx
    exact ⟨b, off, cap, rfl, by rw [Nat.mul_comm]; exact c1, by rw [Nat.mul_comm]; exact c2⟩
/-- What grown leaves: the list in the same row or in a new one. -/
def GrownE (z : Int) (B : Nat) (v : Value) (n : Nat) (w w' : World) (e : Ending) : Prop :=
  ∃ v' l', e = .returned v' ∧ l'.length = n ∧ Mks z l' ∧ w'.ownsRow B 64 2 v' n (cellsE l') ∧ w.grownBy w' v.ownBlock ∧ ∀ i, v'.ownBlock = some i → v.ownBlock = some i ∨ w.heap.size ≤ i
set_option maxHeartbeats 4000000 in
theorem grown11_c (v : Value) (l : List En) (z : Int) (w : World) (B : Nat) (h : w.ownsRow B 64 2 v l.length (cellsE l)) (hm : Mks z l) (hB : B ≤ w.heap.size) (hl : l.length ≤ 4194304) :
    Calls Tryd.prog 16 #[v, .int .i64 z] w fun e w' => GrownE z B v (l.length + 64) w w' e := by
  obtain ⟨i0, hi, hz0, hz1, hz2⟩ := info_parts infoE
  obtain ⟨n, hn⟩ : ∃ n, n = l.length := ⟨_, rfl⟩
  rw [← hn] at h hl ⊢
  have HM : Hid (Mks z l ∧ l.length = n) := ⟨hm, hn.symm⟩
  clear hm hn
  go_enter Tryd.func16, Tryd.ntmps16
  go_wp2
  go_loopw [0, 5] (fun vx i wx => ∃ (k : Nat) (L : List En), i = .int .i64 k ∧ k ≤ 64 ∧ L.length = n + k ∧ Mks z L ∧ wx.ownsRow B 64 2 vx (n + k) (cellsE L) ∧ w.grownBy wx v.ownBlock ∧ ∀ i, vx.ownBlock = some i → v.ownBlock = some i ∨ w.heap.size ≤ i) (fun _ i _ => 64 - (intOf i).toNat)
  case atStart => exact ⟨0, l, rfl, Nat.zero_le _, HM.out.2, HM.out.1, h, World.grownBy.refl _ _, fun i hi => .inl hi⟩
  case round =>
    obtain ⟨k, L, rfl, hk64, hLl, hML, hown, hgr, hblk⟩ := hrel
    have HMK := hidK hML
    have HBK := hidK hblk
    have HLL := hidK hLl
    have hws := hgr.size
    clear hML hblk hLl
    by_cases hk : k < 64
    · obtain ⟨ao, cap, hu0, hnc, hcm, hnone, hsome⟩ := own_formE hown
      subst hu0
      have HS := hidK hsome
      have HN := hidK hnone
      clear hsome hnone
      have b1 : (k : Int) < 64 := by omega
      by_cases hfit : (n + k) + 1 ≤ cap
      · obtain ⟨g, rfl⟩ : ∃ g, ao = some ⟨g, 0, none⟩ := by
          rcases ao with _ | a
          · have := HN.out rfl; omega
          · obtain ⟨g, rfl, _⟩ := HS.out a rfl
            exact ⟨g, rfl⟩
        go_wp2_with (at_builtin; refine wpList_append_fits _ rfl _ _ 31 rfl B 64 i0 2 Tryd.underlying31 hi hz1 g (n + k) cap (cellsE L) rfl (hown.alloc _) ⟨wr.heap.size, 0, none⟩ 1 1 [.string mkS, .int .i64 z] rfl rfl (ent_new wr ⟨mkS, z⟩) (ent_one ⟨mkS, z⟩) hfit ?_)
        intro w2 ho2 hg2
        have hgw : w.grownBy w2 v.ownBlock := by
          refine ⟨hg2.os.trans hgr.os, hg2.tape.trans hgr.tape, hg2.output.trans hgr.output, by have := hg2.size; simp at this; omega, fun i hi hne => ?_⟩
          have h1 := hg2.block i (by simp; omega) (fun e => by
            rcases HBK.out i (by simpa [Value.ownBlock] using e.symm) with h | h
            · exact hne h.symm
            · omega)
          rw [h1]
          exact (heap_alloc_old wr _ (by omega)).trans (hgr.block i hi hne)
        rw [cellsE_snoc1 L ⟨mkS, z⟩] at ho2
        have HGW := hidK hgw
        clear hg2 hgr hown hgw
        go_wp2
        go_roundw
        case rel => exact ⟨k + 1, L ++ [⟨mkS, z⟩], by go_num, by omega, by rw [List.length_append, HLL.out]; rfl, HMK.out.snoc _ ⟨.inl rfl, rfl⟩, ho2, HGW.out, fun i hi => HBK.out i hi⟩
        case measure => simp [intOf]; omega
      · have hfull : cap < (n + k) + 1 := by omega
        have hbm : (n + k) + 1 ≤ maxLen := by unfold maxLen; omega
        have hbb : ((n + k) + 1) * 24 ≤ 140737488355328 := by omega
        go_wp2_with (at_builtin; refine wpList_append_grows _ rfl _ _ 31 rfl 64 i0 (.agg #[.string ⟨#[]⟩, .int .i64 0]) 2 24 Tryd.underlying31 hi hz0 hz1 hz2 rfl (by decide) ao (n + k) cap (cellsE L) rfl HN.out ?c0 ?c3 ⟨wr.heap.size, 0, none⟩ 1 1 [.string mkS, .int .i64 z] rfl rfl (ent_new wr ⟨mkS, z⟩) (ent_one ⟨mkS, z⟩) hfull hbm hbb ?_)
        case c0 => rw [cellsE_len, HLL.out]
        case c3 =>
          intro b hb j u hj
          exact (hown.alloc _).cells (g := b.block) (by rw [hb]; rfl) j u hj |> fun t => by
            obtain ⟨g, rfl, _⟩ := HS.out b hb
            exact t
        intro v2 w2 ho2 hg2
        have hgw := hidK (grown_new (grown_trans hgr (World.grownBy_alloc wr _ _)) hg2 (fun i h => by cases h))
        rw [cellsE_snoc1 L ⟨mkS, z⟩] at ho2
        have HV2 : Hid (∀ i, v2.ownBlock = some i → w.heap.size ≤ i) := fun i hi => by have := (ho2.lt i hi).1; omega
        have ho2' : w2.ownsRow B 64 2 v2 (n + k + 1) (cellsE (L ++ [⟨mkS, z⟩])) := own_leM ho2 (by first | omega | (simp; omega))
        clear hg2 hgr hown ho2
        go_wp2
        go_roundw
        case rel => exact ⟨k + 1, L ++ [⟨mkS, z⟩], by go_num, by omega, by rw [List.length_append, HLL.out]; rfl, HMK.out.snoc _ ⟨.inl rfl, rfl⟩, ho2', hgw.out, fun i hi => .inr (HV2.out i hi)⟩
        case measure => simp [intOf]; omega
    · obtain rfl : k = 64 := by omega
      go_wp2
      go_ret
      exact ⟨_, L, rfl, HLL.out, HMK.out, hown, hgr, HBK.out⟩
set_option maxHeartbeats 4000000 in
theorem marked11_c (v : Value) (l : List En) (z : Int) (w : World) (B : Nat) (h : w.ownsRow B 64 2 v l.length (cellsE l)) (hm : Mks z l) (hl : l.length ≤ 4194500) :
    Calls Tryd.prog 17 #[v, .int .i64 z] w fun e w' => e = .returned (.bool true) ∧ w' = w := by
  have HE := hidK (rowE_own h)
  obtain ⟨ao, cap, hv⟩ := HE.out.form
  subst hv
  obtain ⟨n, hn⟩ : ∃ n, n = l.length := ⟨_, rfl⟩
  rw [← hn] at hl ⊢ HE
  have HL : Hid (l.length = n) := hn.symm
  have HM := hidK hm
  have a1 : mkS.toList = [109, 97, 114, 107] := by rw [Lib.toList_data]; rfl
  have a2 : agS.toList = [97, 103, 97, 105, 110] := by rw [Lib.toList_data]; rfl
  clear hn hm h
  go_enter Tryd.func17, Tryd.ntmps17
  go_wp2
  go_loopw [5] (fun i wx => ∃ k : Nat, i = .int .i64 k ∧ k ≤ n ∧ wx = w) (fun i _ => n - (intOf i).toNat)
  case atStart => exact ⟨0, rfl, Nat.zero_le _, rfl⟩
  case round =>
    obtain ⟨k, rfl, hkn, hwr⟩ := hrel
    subst hwr
    by_cases hk : k < n
    · have kI : (k : Int) < (n : Int) := by omega
      have k0 : (0 : Int) ≤ (k : Int) := by omega
      obtain ⟨⟨x, pl⟩, hx⟩ : ∃ x, l[k]? = some x := ⟨_, List.getElem?_eq_getElem (by rw [HL.out]; exact hk)⟩
      obtain ⟨b, off, cp, e1, d1, d2⟩ := HE.out.atM hx
      injection e1 with e1 e2 e3
      subst e1
      simp only [] at d1 d2
      obtain ⟨m1, m2⟩ := HM.out k _ hx
      simp only [] at m1 m2
      subst m2
      clear hx e2 e3
      rcases m1 with rfl | rfl
      · go_wp2
        go_roundw
        case rel => exact ⟨k + 1, by go_num, by omega, by first | rfl | trivial⟩
        case measure => simp [intOf]; omega
      · go_wp2
        go_roundw
        case rel => exact ⟨k + 1, by go_num, by omega, by first | rfl | trivial⟩
        case measure => simp [intOf]; omega
    · obtain rfl : k = n := by omega
      go_wp2
      go_ret
      exact ⟨rfl, rfl⟩
end Go.Proofs.YtcmldlcdgmmafaaDoor
