
-- search.
import Derived.Test.YtnnpdomfkedhpaaPB
import Derived.Test.YtnnpdomfkedhpaaLQ
namespace Go.Proofs.Ytnnpdomfkedhpaa
open Go.ChangeShapes Go.WideShapes Go.ChangeAt Go.RowKit Go.MapKept
set_option linter.unusedVariables false
set_option maxRecDepth 100000
def lenP (w : World) (g : Nat) : Nat := match w.cell? ⟨g, 2, none⟩ with
  | some (.slice _ n _) => n
  | _ => 0
theorem PgK.lenP {F : Nat → Prop} {g K M : Nat} {s : Lk} {w : World} (h : PgK F g K M s w) : lenP w g = s.p.length := by
  obtain ⟨ap, cp, bw, bp, _, _, _, hc⟩ := h.open
  unfold Go.Proofs.Ytnnpdomfkedhpaa.lenP
  rw [(hc w (Below.refl _ _)).1]
/-- bounds that hold all along -/
structure Lim (K M Pm : Nat) (Ls : List (Int × Lb)) : Prop where
  m : ∀ x ∈ Ls, (∀ l ∈ x.2.df, l.length ≤ M) ∧ ∀ l ∈ x.2.nd, l.length ≤ M
  e : ∀ x ∈ Ls, x.2.e.length ≤ 4398046511104
  p : K + M * (Pm + 1) ≤ 4398046511104
  l : Pm ≤ 4398046511104
set_option maxHeartbeats 4000000 in
theorem search_c (F : Nat → Prop) (g K M : Nat) (s : Lk) (ve va vn vf vg : Value) (num : Int) (bm : Nat) (L : Lb) (w : World) (Ls : List (Int × Lb)) (hL : (num, L) ∈ Ls) (Pm : Nat) (hlim : Lim K M Pm Ls) (h : PgK F g K M s w) (hF : ∀ b, w.heap.size ≤ b → F b) (hC : CatAt F w ve va vn vf vg bm L)
    (hJ : muN Ls s + s.p.length ≤ Pm) :
    Calls Try.prog 21 #[.pointer (some ⟨g, 0, none⟩), .agg #[ve, va, vn, vf, vg, .int .i64 num, .map (some bm)]] w fun e w' => e = .returned (.tuple #[]) ∧ PgK F g K M (srchN L num s) w' ∧ Kp F w w' := by
  obtain ⟨X, hX⟩ : ∃ X, X = Obj.cells #[ve, va, vn, vf, vg, .int .i64 num, .map (some bm)] 69 := ⟨_, rfl⟩
  have hbA : Below w.heap.size w (w.alloc X) := (Below.refl _ w).alloc (Nat.le_refl _) X
  obtain ⟨G, hG⟩ : ∃ G : Nat → Prop, G = fun b => F b ∧ b ≠ w.heap.size := ⟨_, rfl⟩
  have hsz : (w.alloc X).heap.size = w.heap.size + 1 := by simp
  have hFG : ∀ b, (w.alloc X).heap.size ≤ b → G b := fun b hb => by rw [hG]; exact ⟨hF b (by omega), by omega⟩
  have hGF : ∀ b, G b → F b := fun b hb => by rw [hG] at hb; exact hb.1
  have hnB : ¬ G w.heap.size := fun hb => by rw [hG] at hb; exact hb.2 rfl
  have h1 : PgK G g K M s (w.alloc X) := (h.into (fun b hb hf => by rw [hG]; exact ⟨hf, by omega⟩)).on hbA
  have hC1 : CatAt G (w.alloc X) ve va vn vf vg bm L := (hC.kp (Kp.of_below hbA)).weak (fun b _ hb => hGF b hb)
  have x0 : (w.alloc X).heap[w.heap.size]? = some (.cells #[ve, va, vn, vf, vg, .int .i64 num, .map (some bm)] 69 (0, 0)) := by rw [heap_alloc_new, hX]
  have HBX : Hid (∀ W, Kp G (w.alloc X) W → W.heap[w.heap.size]? = some (.cells #[ve, va, vn, vf, vg, .int .i64 num, .map (some bm)] 69 (0, 0))) := fun W hk => (hk.block _ (by omega) hnB).trans x0
  have HH1 := hidK h1
  have HJ := hidK hJ
  have HPC : Hid (∀ W t, Kp G (w.alloc X) W → PgK G g K M t W → muN Ls t + t.p.length ≤ Pm → Calls Try.prog 26 #[.pointer (some ⟨g, 0, none⟩), .agg #[ve, va, vn, vf, vg, .int .i64 num, .map (some bm)]] W fun e w' => e = .returned (.bool (decide (t.p.length < (passN L num t).p.length))) ∧ PgK G g K M (passN L num t) w' ∧ Kp G (w.alloc X) w') := fun W t hk ht hm => (pass_c G g K M t ve va vn vf vg num bm L W ht (fun b hb => hFG b (Nat.le_trans hk.size hb)) (hC1.kp hk) (hlim.m _ hL) (hlim.e _ hL) Pm (fun k => by have := (fold_goes hL (L.e.take k) t).mu; omega) hlim.p hlim.l).mono (by
    rintro e w' ⟨q1, q2, q3⟩
    exact ⟨q1, q2, hk.trans q3⟩)
  have HGO : Hid (∀ t, Goes Ls t (passN L num t)) := fun t => pass_goes hL t
  have HK0 : Hid (∀ W, Kp G (w.alloc X) W → Kp F w W) := fun W hk => ((Kp.refl F w).alloc X).trans (hk.weak hGF)
  have HPG : Hid (∀ t W, PgK G g K M t W → PgK F g K M t W) := fun t W hh => hh.into (fun b _ hb => hGF b hb)
  clear h h1 hF hC hC1 hbA hFG hGF hnB hG x0 hsz hJ hlim hL
  subst hX
  go_enter Try.func21, Try.ntmps21
  go_wp2
  go_loopw [6] (fun _ wx => ∃ t, PgK G g K M t wx ∧ Kp G (w.alloc (.cells #[ve, va, vn, vf, vg, .int .i64 num, .map (some bm)] 69)) wx ∧ srchN L num t = srchN L num s ∧ muN Ls t + t.p.length ≤ Pm) (fun _ wx => Pm - lenP wx g)
  case atStart => exact ⟨s, HH1.out, Kp.refl _ _, rfl, HJ.out⟩
  case round =>
    obtain ⟨t, ho, hB, hs, hm⟩ := hrel
    have HO := hidK ho
    have HB0 := hidK hB
    have HS := hidK hs
    have HM := hidK hm
    obtain ⟨x1, x2, x3, x4, x5, x6, x7⟩ := cat_cells (HBX.out _ hB)
    have HA := hidK (HPC.out wr t hB ho hm)
    clear ho hB hs hm HH1 HJ
    by_cases hk : t.p.length < (passN L num t).p.length
    · rw [show decide (t.p.length < (passN L num t).p.length) = true from decide_eq_true hk] at HA
      have HK := hidK hk
      clear hk
      go_wp2_with (go_at_call 26; refine HA.out.mono ?_; rintro e w1 ⟨rfl, q1, q2⟩; have HP1 := hidK q1; have HK1 := hidK q2; clear q1 q2)
      go_roundw
      case rel =>
        refine ⟨passN L num t, HP1.out, HK1.out, ?_, ?_⟩
        · rw [← HS.out]; exact (srch_step (by have := HK.out; omega)).symm
        · have := (HGO.out t).mu; have := HM.out; omega
      case measure =>
        have e1 := HP1.out.lenP
        have e2 := HO.out.lenP
        have := (HGO.out t).mu; have := HM.out; have := HK.out
        show Pm - lenP w1 g < Pm - lenP wr g
        rw [e1, e2]; omega
    · rw [show decide (t.p.length < (passN L num t).p.length) = false from decide_eq_false hk] at HA
      have HK := hidK hk
      clear hk
      go_wp2_with (go_at_call 26; refine HA.out.mono ?_; rintro e w1 ⟨rfl, q1, q2⟩; have HP1 := hidK q1; have HK1 := hidK q2; clear q1 q2)
      go_end0
      refine ⟨rfl, ?_, HK0.out _ HK1.out⟩
      rw [← HS.out, srch_stop (by have := HK.out; have := (HGO.out t).len; omega)]
      exact HPG.out _ _ HP1.out
end Go.Proofs.Ytnnpdomfkedhpaa
