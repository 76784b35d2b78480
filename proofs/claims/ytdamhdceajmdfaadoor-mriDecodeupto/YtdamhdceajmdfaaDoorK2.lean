
-- tokensOf's closure: a word ends.
import Derived.Test.YtdamhdceajmdfaaDoorK1
namespace Go.Proofs.YtdamhdceajmdfaaDoor
open Go.ChangeShapes Go.WideShapes Go.ChangeAt Go.RowKit Go.MapKept
set_option linter.unusedVariables false
set_option maxRecDepth 100000
set_option linter.unusedSimpArgs false
/-- what tokensOf keeps: the line, its tokens so far, where a word begins, the place of the range -/
structure TkB (w0 : World) (s : ByteArray) (pos bg : Nat) (T : List ByteArray) (w : World) : Prop where
  line : w.heap[w0.heap.size]? = some (.cells #[.string s] 9 (0, 0))
  tk : ∃ v, w.heap[w0.heap.size + 1]? = some (.cells #[v] 26 (0, 0)) ∧ OwnT (w0.heap.size + 4) w v T
  beg : w.heap[w0.heap.size + 1 + 1]? = some (.cells #[.int .i64 (bg : Int)] 3 (0, 0))
  it : w.heap[w0.heap.size + 1 + 1 + 1]? = some (.stringIter s pos)
  below : Below w0.heap.size w0 w
def cutL (s : ByteArray) (a b : Nat) : List UInt8 := ((byL s).drop a).take (b - a)
theorem byL_cut (s : ByteArray) (a b : Nat) (h : b ≤ s.size) : byL (s.extract a b) = cutL s a b := by
  unfold byL cutL byL
  rw [ByteArray.data_extract, Array.toList_extract, List.extract_eq_take_drop]
theorem flush_cut (s : ByteArray) (a b : Nat) (h : a < b) (hb : b ≤ s.size) : flushW (cutL s a b) = [s.extract a b] := by
  have hl : (cutL s a b).length = b - a := by unfold cutL; rw [List.length_take, List.length_drop, byL_size]; omega
  unfold flushW
  rw [if_neg (fun e => by rw [e] at hl; simp at hl; omega), ← byL_cut s a b hb, byB_byL]
theorem flush_none (s : ByteArray) (a b : Nat) (h : b ≤ a) : flushW (cutL s a b) = [] := by
  have : cutL s a b = [] := by unfold cutL; rw [show b - a = 0 by omega, List.take_zero]
  rw [this]; rfl
theorem TkB.put {w0 w W : World} {s : ByteArray} {pos bg p : Nat} {T : List ByteArray} (h : TkB w0 s pos bg T w) (hW : W.heap[w0.heap.size + 1 + 1]? = some (.cells #[.int .i64 (p : Int)] 3 (0, 0))) (hq : Kq (w0.heap.size + 1 + 1) w W) : TkB w0 s pos p T W := by
  obtain ⟨v, h1, h2⟩ := h.tk
  refine ⟨hq.keeps (by omega) h.line, ⟨v, hq.keeps (by omega) h1, ?_⟩, hW, hq.keeps (by omega) h.it, hq.belowN h.below (by omega) (Nat.le_refl _)⟩
  exact (h2.f.keep fun g hg => hq.block g (by have := own_lo h2 g hg; omega) (h2.f.lt g hg)).t
set_option maxHeartbeats 8000000 in
theorem endWord_c (w0 : World) (s : ByteArray) (pos bg p : Nat) (T : List ByteArray) (w : World) (h : TkB w0 s pos bg T w) (hp : p ≤ s.size) (hbg : bg ≤ p) (hs : s.size ≤ 16777216) (hT : T.length ≤ 67108864) :
    Calls Tryd.prog 51 #[.int .i64 (p : Int), .pointer (some ⟨w0.heap.size + 1 + 1, 0, none⟩), .pointer (some ⟨w0.heap.size + 1, 0, none⟩), .pointer (some ⟨w0.heap.size, 0, none⟩)] w fun e w' => e = .returned (.tuple #[]) ∧ TkB w0 s pos (p + 1) (T ++ flushW (cutL s bg p)) w' := by
  have HH := hidK h
  obtain ⟨v, h1, h2⟩ := h.tk
  have c0 := cell_rowK h.beg 0 _ rfl
  have c1 := cell_rowK h1 0 _ rfl
  have c2 := cell_rowK h.line 0 _ rfl
  have hit := h.it
  have hlt : w0.heap.size + 1 + 1 + 1 < w.heap.size := (Array.getElem?_eq_some_iff.1 hit).1
  have f0 := Lib.frozen_of_heap h.beg 0
  obtain ⟨ua, uc, hu⟩ := h2.sl
  obtain ⟨m, hm⟩ : ∃ m, m = T.length := ⟨_, rfl⟩
  rw [← hm] at hu
  have HM := hidK hm
  have kw : IntKind.i64.wrap ((p : Int) + 1) = (p : Int) + 1 := by rw [IntKind.wrap_i64]; omega
  have p0 : (0 : Int) ≤ (p : Int) := by omega
  have b0 : (0 : Int) ≤ (bg : Int) := by omega
  have pS : (p : Int) ≤ (s.size : Int) := by omega
  by_cases hlt2 : bg < p
  · have bI : (bg : Int) < (p : Int) := by omega
    have bI2 : (bg : Int) ≤ (p : Int) := by omega
    obtain ⟨x, hx⟩ : ∃ x, x = s.extract bg p := ⟨_, rfl⟩
    have HX := hidK (flush_cut s bg p hlt2 hp)
    obtain ⟨Pb, hPb⟩ : ∃ Pb, Pb = Obj.cells #[.string (s.extract bg p)] 9 := ⟨_, rfl⟩
    have hbC : Below w.heap.size w (w.alloc Pb) := (Below.refl _ _).alloc (Nat.le_refl _) Pb
    have HO2 : Hid (OwnF (fun b => w0.heap.size + 4 ≤ b) txL 1 9 (w.alloc Pb) v T) := (h2.on hbC).f
    have HR2 : Hid (RowG txL (w.alloc Pb) (.slice (some ⟨w.heap.size, 0, none⟩) 1 1) [s.extract bg p]) := by
      have := rowG_new elT w (s.extract bg p) #[.string (s.extract bg p)] rfl
      rw [← hPb] at this
      exact this
    have h1' := hkeepK hbC h1
    have HG2 : Hid (∀ w4, Kp (fun k => v.ownBlock = some k) (w.alloc Pb) w4 → w4.heap[w0.heap.size + 1]? = some (.cells #[v] 26 (0, 0))) := fun w4 k4 => (k4.block _ (Array.getElem?_eq_some_iff.1 h1').1 (fun e => by have := HO2.out.2 _ e; omega)).trans h1'
    have HF2 : Hid (∀ b, (w.alloc Pb).heap.size ≤ b → w0.heap.size + 4 ≤ b) := fun b hb => by simp at hb; omega
    have HBC := hidK hbC
    have c0' := cell_onG c0 hbC
    have c1' := cell_onG c1 hbC
    have c2' := cell_onG c2 hbC
    have H2 := hidK h2
    subst hu
    clear h hx h2 hbC hm h1 h1' hit
    subst hPb
    go_enter Tryd.func51, Tryd.ntmps51
    go_wp2
    go_region_law (refine stepG_all (F := fun b => w0.heap.size + 4 ≤ b) elT rfl (.tmp 8) (.tmp 13) rfl (.slice ua m uc) T (s.extract bg p) w.heap.size 1 (by simp [Act.eval]) (by simp [Act.eval]) (by exact HO2.out) (by exact HR2.out) (txL_one _) (by omega) (by exact HF2.out) ?_; intro v4 w4 o4 k4 l4; obtain ⟨a4, p4, e4, _⟩ := o4.form; obtain ⟨m4, hm4⟩ : ∃ m, m = (T ++ [s.extract bg p]).length := ⟨_, rfl⟩; rw [← hm4] at e4; clear hm4; subst e4; have hb2 := HG2.out _ (Kp.undrew k4); have d3 : w4.cell? ⟨w0.heap.size + 1, 0, none⟩ = some (.slice ua m uc) := cell_rowK hb2 0 _ rfl; have f3 := Lib.frozen_of_heap hb2 0)
    all_goals
      have HK7 : Hid (∀ W, W = w4.setCell ⟨w0.heap.size + 1, 0, none⟩ (.slice a4 m4 p4) → TkB w0 s pos bg (T ++ [s.extract bg p]) W) := by
        rintro W rfl
        have k5 := Kp.undrew k4
        have q5 := kq_set w4 (w0.heap.size + 1) 0 (.slice a4 m4 p4)
        have hk : Below (w0.heap.size + 4) (w.alloc (.cells #[.string (s.extract bg p)] 9)) w4 := k5.below (fun g hg => HO2.out.2 g hg) (by simp; omega)
        have hk0 : Below (w0.heap.size + 4) w w4 := (HBC.out.mono (by omega)).trans hk
        have hl : ∀ g, (Value.slice a4 m4 p4).ownBlock = some g → w0.heap.size + 4 ≤ g := fun g hg => o4.2 g hg
        refine ⟨q5.keeps (by omega) ((hk0.block _ (by omega)).trans HH.out.line), ⟨_, blk_set hb2 _, (o4.keep fun g hg => q5.block g (by have := hl g hg; omega) (o4.lt g hg)).t⟩, q5.keeps (by omega) ((hk0.block _ (by omega)).trans HH.out.beg), q5.keeps (by omega) ((hk0.block _ (by omega)).trans HH.out.it), q5.belowN (HH.out.below.trans (hk0.mono (by omega))) (by omega) (Nat.le_refl _)⟩
      have X7 := HK7.out _ rfl
      generalize w4.setCell ⟨w0.heap.size + 1, 0, none⟩ (.slice a4 m4 p4) = W7 at X7 ⊢
      have H7 := hidK X7
      clear HK7 o4 k4 l4 hb2 d3 f3 X7 HO2 HR2 HG2 HF2
      go_wp2_with (refine wpList_store_kz rfl rfl _ _ _ rfl (w0.heap.size + 1 + 1) 0 (.int .i64 ((p : Int) + 1)) rfl rfl _ _ #[.int .i64 ((p : Int) + 1)] H7.out.beg (by kernel_rfl) rfl rfl rfl ?_; intro W5 S5 q5)
      go_end0
      refine ⟨rfl, ?_⟩
      rw [HX.out]
      exact H7.out.put S5 q5
  · have bI : ¬ ((bg : Int) < (p : Int)) := by omega
    have bI2 : decide ((bg : Int) < (p : Int)) = false := by simp; omega
    have HX := hidK (flush_none s bg p (by omega))
    subst hu
    clear h h1 h2 hit
    go_enter Tryd.func51, Tryd.ntmps51
    go_wp2_with (refine wpList_store_kz rfl rfl _ _ _ rfl (w0.heap.size + 1 + 1) 0 (.int .i64 ((p : Int) + 1)) rfl rfl _ _ #[.int .i64 ((p : Int) + 1)] HH.out.beg (by kernel_rfl) rfl rfl rfl ?_; intro W5 S5 q5)
    go_end0
    refine ⟨rfl, ?_⟩
    rw [HX.out, List.append_nil]
    exact HH.out.put S5 q5
end Go.Proofs.YtdamhdceajmdfaaDoor
