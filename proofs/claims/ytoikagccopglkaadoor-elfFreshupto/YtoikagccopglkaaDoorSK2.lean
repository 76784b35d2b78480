
-- shelflaw5.grown, marked: contracts.
import Derived.Test.YtoikagccopglkaaDoorSK1
namespace Go.Proofs.YtoikagccopglkaaDoor
open Go.ChangeShapes Go.WideShapes Go.ChangeAt Go.RowKit
set_option linter.unusedVariables false
set_option maxRecDepth 100000
/-- What grown leaves: the list in the same row or in a new one. -/
def Grown8 (z : Int) (B : Nat) (v : Value) (n : Nat) (w w' : World) (e : Ending) : Prop :=
  ∃ v' l', e = .returned v' ∧ (l' : List S8).length = n ∧ Mk8 z l' ∧ w'.ownsRow B 48 8 v' n (l'.flatMap S8.v) ∧ w.grownBy w' v.ownBlock ∧ ∀ i, v'.ownBlock = some i → v.ownBlock = some i ∨ w.heap.size ≤ i
set_option maxHeartbeats 4000000 in
theorem grown5_c (v : Value) (l : List S8) (z : Int) (w : World) (B : Nat) (h : w.ownsRow B 48 8 v l.length (l.flatMap S8.v)) (hm : Mk8 z l) (hB : B ≤ w.heap.size) (hl : l.length ≤ 4194304) :
    Calls Tryd.prog 8 #[v, .int .i64 z] w fun e w' => Grown8 z B v (l.length + 64) w w' e := by
  obtain ⟨i0, hi, hi0, hi1, hi2⟩ := info_parts infoS8
  obtain ⟨n, hn⟩ : ∃ n, n = l.length := ⟨_, rfl⟩
  rw [← hn] at h hl ⊢
  have HM : Hid (Mk8 z l ∧ l.length = n) := ⟨hm, hn.symm⟩
  clear hm hn
  go_enter Tryd.func8, Tryd.ntmps8
  go_wp2
  go_loopw [0, 5] (fun vx i wx => ∃ (k : Nat) (L : List S8), i = .int .i64 k ∧ k ≤ 64 ∧ L.length = n + k ∧ Mk8 z L ∧ wx.ownsRow B 48 8 vx (n + k) (L.flatMap S8.v) ∧ w.grownBy wx v.ownBlock ∧ ∀ i, vx.ownBlock = some i → v.ownBlock = some i ∨ w.heap.size ≤ i) (fun _ i _ => 64 - (intOf i).toNat)
  case atStart => exact ⟨0, l, rfl, Nat.zero_le _, HM.out.2, HM.out.1, h, World.grownBy.refl _ _, fun i hi => .inl hi⟩
  case round =>
    obtain ⟨k, L, rfl, hk64, hLl, hML, hown, hgr, hblk⟩ := hrel
    have HMK := hidK hML
    have HBK := hidK hblk
    have HLL := hidK hLl
    have hws := hgr.size
    clear hML hblk hLl
    by_cases hk : k < 64
    · obtain ⟨ao, cap, hu0, hnc, hcm, hnone, hsome⟩ := ownG_form 8 hown
      subst hu0
      have HS := hidK hsome
      have HN := hidK hnone
      clear hsome hnone
      have b1 : (k : Int) < 64 := by omega
      by_cases hfit : (n + k) + 1 ≤ cap
      · obtain ⟨g, rfl⟩ : ∃ g, ao = some ⟨g, 0, none⟩ := by
          rcases ao with _ | a
          · have := HN.out rfl; omega
          · obtain ⟨g, rfl, _⟩ := HS.out a rfl
            exact ⟨g, rfl⟩
        go_wp2_with (at_builtin; refine wpList_append_fits _ rfl _ _ 22 rfl B 48 i0 8 Tryd.underlying22 hi hi1 g (n + k) cap (L.flatMap S8.v) rfl (hown.alloc _) ⟨wr.heap.size, 0, none⟩ 1 1 (mkX z).v rfl rfl (sec_new wr (mkX z)) (S8.one (mkX z)) hfit ?_)
        intro w2 ho2 hg2
        have hgw : w.grownBy w2 v.ownBlock := by
          refine ⟨hg2.os.trans hgr.os, hg2.tape.trans hgr.tape, hg2.output.trans hgr.output, by have := hg2.size; simp at this; omega, fun i hi hne => ?_⟩
          have h1 := hg2.block i (by simp; omega) (fun e => by
            rcases HBK.out i (by simpa [Value.ownBlock] using e.symm) with h | h
            · exact hne h.symm
            · omega)
          rw [h1]
          exact (heap_alloc_old wr _ (by omega)).trans (hgr.block i hi hne)
        rw [snoc8 L (mkX z)] at ho2
        have HGW := hidK hgw
        clear hg2 hgr hown hgw
        go_wp2
        go_roundw
        case rel => exact ⟨k + 1, L ++ [(mkX z)], by go_num, by omega, by rw [List.length_append, HLL.out]; rfl, HMK.out.snoc _ (.inl rfl), ho2, HGW.out, fun i hi => HBK.out i hi⟩
        case measure => simp [intOf]; omega
      · have hfull : cap < (n + k) + 1 := by omega
        have hbm : (n + k) + 1 ≤ maxLen := by unfold maxLen; omega
        have hbb : ((n + k) + 1) * 64 ≤ 140737488355328 := by omega
        go_wp2_with (at_builtin; refine wpList_append_grows _ rfl _ _ 22 rfl 48 i0 (.agg #[.int .i64 0, .int .i64 0, .int .u64 0, .int .i64 0, .int .i64 0, .int .u64 0, .int .u64 0, .int .u64 0]) 8 64 Tryd.underlying22 hi hi0 hi1 hi2 rfl (by decide) ao (n + k) cap (L.flatMap S8.v) rfl HN.out ?c0 ?c3 ⟨wr.heap.size, 0, none⟩ 1 1 (mkX z).v rfl rfl (sec_new wr (mkX z)) (S8.one (mkX z)) hfull hbm hbb ?_)
        case c0 => rw [flatG_len S8.v 8 S8.len, HLL.out]
        case c3 =>
          intro b hb j u hj
          exact (hown.alloc _).cells (g := b.block) (by rw [hb]; rfl) j u hj |> fun t => by
            obtain ⟨g, rfl, _⟩ := HS.out b hb
            exact t
        intro v2 w2 ho2 hg2
        have hgw := hidK (grownG_new (grownG_trans hgr (World.grownBy_alloc wr _ _)) hg2 (fun i h => by cases h))
        rw [snoc8 L (mkX z)] at ho2
        have HV2 : Hid (∀ i, v2.ownBlock = some i → w.heap.size ≤ i) := fun i hi => by have := (ho2.lt i hi).1; omega
        have ho2' : w2.ownsRow B 48 8 v2 (n + k + 1) (((L ++ [(mkX z)]).flatMap S8.v)) := ownG_le ho2 (by first | omega | (simp; omega))
        clear hg2 hgr hown ho2
        go_wp2
        go_roundw
        case rel => exact ⟨k + 1, L ++ [(mkX z)], by go_num, by omega, by rw [List.length_append, HLL.out]; rfl, HMK.out.snoc _ (.inl rfl), ho2', hgw.out, fun i hi => .inr (HV2.out i hi)⟩
        case measure => simp [intOf]; omega
    · obtain rfl : k = 64 := by omega
      go_wp2
      go_ret
      exact ⟨_, L, rfl, HLL.out, HMK.out, hown, hgr, HBK.out⟩
end Go.Proofs.YtoikagccopglkaaDoor
