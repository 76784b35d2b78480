
-- tokensOf: a line's tokens.
import Derived.Test.YtdamhdceajmdfaaDoorK2
import Derived.Lib.OthersKept
import Derived.Laws.DeepStrings4
namespace Go.Proofs.YtdamhdceajmdfaaDoor
open Go.ChangeShapes Go.WideShapes Go.ChangeAt Go.RowKit Go.MapKept
set_option linter.unusedVariables false
set_option maxRecDepth 100000
set_option linter.unusedSimpArgs false
theorem TkB.iter {w0 w : World} {s : ByteArray} {pos bg : Nat} {T : List ByteArray} (h : TkB w0 s pos bg T w) (p : Nat) : TkB w0 s p bg T (w.iterAt (w0.heap.size + 1 + 1 + 1) s p) := by
  obtain ⟨v, h1, h2⟩ := h.tk
  have o : ∀ j, j ≠ w0.heap.size + 1 + 1 + 1 → (w.iterAt (w0.heap.size + 1 + 1 + 1) s p).heap[j]? = w.heap[j]? := fun j hj => Lib.iterAt_other w _ j s p hj
  exact ⟨(o _ (by omega)).trans h.line, ⟨v, (o _ (by omega)).trans h1, (h2.f.keep fun g hg => o g (by have := own_lo h2 g hg; omega)).t⟩, (o _ (by omega)).trans h.beg, Lib.iterAt_heap w _ s pos p h.it, Lib.below_iterAt h.below (by omega) s p⟩
/-- a token that was put behind the others -/
theorem TkB.grow {w0 w w4 : World} {s x : ByteArray} {pos bg : Nat} {T : List ByteArray} {v v4 : Value} (h : TkB w0 s pos bg T w) (h1 : w.heap[w0.heap.size + 1]? = some (.cells #[v] 26 (0, 0))) (h2 : OwnF (fun b => w0.heap.size + 4 ≤ b) txL 1 9 (w.alloc (.cells #[.string x] 9)) v T)
    (k5 : Kp (fun k => v.ownBlock = some k) (w.alloc (.cells #[.string x] 9)) w4) (hb2 : w4.heap[w0.heap.size + 1]? = some (.cells #[v] 26 (0, 0))) (o4 : OwnF (fun b => w0.heap.size + 4 ≤ b) txL 1 9 w4 v4 (T ++ [x])) : TkB w0 s pos bg (T ++ [x]) (w4.setCell ⟨w0.heap.size + 1, 0, none⟩ v4) := by
  have hlt : w0.heap.size + 1 + 1 + 1 < w.heap.size := (Array.getElem?_eq_some_iff.1 h.it).1
  have q5 := kq_set w4 (w0.heap.size + 1) 0 v4
  have hk : Below (w0.heap.size + 4) (w.alloc (.cells #[.string x] 9)) w4 := k5.below (fun g hg => h2.2 g hg) (by simp; omega)
  have hk0 : Below (w0.heap.size + 4) w w4 := (((Below.refl _ w).alloc (Nat.le_refl _) _).mono (by omega)).trans hk
  exact ⟨q5.keeps (by omega) ((hk0.block _ (by omega)).trans h.line), ⟨_, blk_set hb2 _, (o4.keep fun g hg => q5.block g (by have := o4.2 g hg; simp only at this; omega) (o4.lt g hg)).t⟩, q5.keeps (by omega) ((hk0.block _ (by omega)).trans h.beg), q5.keeps (by omega) ((hk0.block _ (by omega)).trans h.it), q5.belowN (h.below.trans (hk0.mono (by omega))) (by omega) (Nat.le_refl _)⟩
theorem slice1 (s : ByteArray) (pos : Nat) (hp : pos < s.size) : ∀ W, (Instr.slice 9 (.string s) (some (.int .i64 (pos : Int))) (some (.int .i64 ((pos : Int) + 1))) none).run Tryd.prog W = .ok (.string (s.extract pos (pos + 1))) W := by
  intro W
  rw [run_slice_string_if W 9 s .i64 .i64 (pos : Int) ((pos : Int) + 1) Tryd.underlying9, if_pos ⟨by omega, by omega⟩, if_pos ⟨by omega, by omega⟩]
  have e : ((pos : Int) + 1).toNat = pos + 1 := by omega
  rw [e]; rfl
def TkRel (w : World) (s : ByteArray) (wr : World) : Prop := ∃ (pos bg : Nat) (T : List ByteArray), pos ≤ s.size ∧ bg ≤ pos ∧ TkB w s pos bg T wr ∧ T ++ tokG (cutL s bg pos) ((byL s).drop pos) = tokL (byL s) ∧ T.length ≤ 2 * pos
theorem cut_one (s : ByteArray) (bg pos : Nat) (b : UInt8) (h : bg ≤ pos) (hb : (byL s)[pos]? = some b) : cutL s bg (pos + 1) = cutL s bg pos ++ [b] := by
  unfold cutL
  rw [show pos + 1 - bg = (pos - bg) + 1 by omega, List.take_add_one, List.getElem?_drop, show bg + (pos - bg) = pos by omega, hb]; rfl
theorem cut_more (s : ByteArray) (bg pos k : Nat) (h : bg ≤ pos) : cutL s bg (pos + k) = cutL s bg pos ++ ((byL s).drop pos).take k := by
  unfold cutL
  rw [show pos + k - bg = (pos - bg) + k by omega, List.take_add, List.drop_drop, show bg + (pos - bg) = pos by omega]
theorem cut_self (s : ByteArray) (p : Nat) : cutL s p p = [] := by unfold cutL; rw [Nat.sub_self, List.take_zero]
theorem flush_len (w : List UInt8) : (flushW w).length ≤ 1 := by unfold flushW; split <;> simp
theorem drop_at {l : List UInt8} {p : Nat} {b : UInt8} (h : l[p]? = some b) : l.drop p = b :: l.drop (p + 1) := by
  obtain ⟨hp, rfl⟩ := List.getElem?_eq_some_iff.1 h
  exact List.drop_eq_getElem_cons hp
set_option maxHeartbeats 16000000 in
theorem tokens_c (s : ByteArray) (w : World) (hs : s.size ≤ 16777216) :
    Calls Tryd.prog 37 #[.string s] w fun e w' => ∃ v, e = .returned v ∧ OwnT w.heap.size w' v (tokL (byL s)) ∧ Below w.heap.size w w' := by
  have HE : Hid (∀ (pos bg p : Nat) (T : List ByteArray) (wx : World), TkB w s pos bg T wx → p ≤ s.size → bg ≤ p → T.length ≤ 67108864 → Calls Tryd.prog 51 #[.int .i64 (p : Int), .pointer (some ⟨w.heap.size + 1 + 1, 0, none⟩), .pointer (some ⟨w.heap.size + 1, 0, none⟩), .pointer (some ⟨w.heap.size, 0, none⟩)] wx fun e w' => e = .returned (.tuple #[]) ∧ TkB w s pos (p + 1) (T ++ flushW (cutL s bg p)) w') := fun pos bg p T wx h h1 h2 h3 => endWord_c w s pos bg p T wx h h1 h2 hs h3
  have H0 : Hid (TkB w s 0 0 [] ((((w.alloc (.cells #[.string s] 9)).alloc (.cells #[.slice none 0 0] 26)).alloc (.cells #[.int .i64 0] 3)).alloc (.stringIter s 0))) := by
    have a1 := heap_alloc_new w (.cells #[.string s] 9)
    have a2 := heap_new2K w (.cells #[.string s] 9) (.cells #[.slice none 0 0] 26)
    have a3 := heap_new3K w (.cells #[.string s] 9) (.cells #[.slice none 0 0] 26) (.cells #[.int .i64 0] 3)
    have a4 := heap_alloc_new (((w.alloc (.cells #[.string s] 9)).alloc (.cells #[.slice none 0 0] 26)).alloc (.cells #[.int .i64 0] 3)) (.stringIter s 0)
    simp only [World.size_alloc] at a4
    exact ⟨hupK (hupK (hupK a1 _) _) _, ⟨_, hupK (hupK a2 _) _, ownT_nil _ _⟩, hupK a3 _, a4, bupK (bupK (bupK (bupK (Below.refl _ _) _) _) _) _⟩
  go_enter Tryd.func37, Tryd.ntmps37
  go_wp2
  go_loopw [] (fun wr => TkRel w s wr) (fun wr => s.size - wr.iterPos (w.heap.size + 1 + 1 + 1))
  case atStart => exact ⟨0, 0, [], Nat.zero_le _, Nat.le_refl _, H0.out, by rw [cut_self]; rfl, by simp⟩
  case round =>
    obtain ⟨pos, bg, T, hps, hbg, hK, hG, hTl⟩ := hrel
    have HK := hidK hK
    have HG := hidK hG
    have hit := hK.it
    have HIP : Hid (wr.iterPos (w.heap.size + 1 + 1 + 1) = pos) := by show _ = _; simp only [World.iterPos, hit]
    have hT4 : T.length ≤ 67108864 := by omega
    clear hG hK H0
    by_cases hp : pos < s.size
    · obtain ⟨b, hb⟩ : ∃ b, (byL s)[pos]? = some b := ⟨_, List.getElem?_eq_getElem (by rw [byL_size]; exact hp)⟩
      have HBB := hidK hb
      have hnx : ∀ ty, (Instr.next (.pointer (some ⟨w.heap.size + 1 + 1 + 1, 0, none⟩)) true ty).run Tryd.prog wr = _ := fun ty => Lib.run_next_any_at wr (w.heap.size + 1 + 1 + 1) s pos ty hit hp
      have hD := drop_at hb
      by_cases hlo : b.toNat < 128
      · rw [dec_lo s pos b hb hlo] at hnx
        have HK1 := hidK (HK.out.iter (pos + 1))
        obtain ⟨W1, hW1⟩ : ∃ W1, W1 = wr.iterAt (w.heap.size + 1 + 1 + 1) s (pos + 1) := ⟨_, rfl⟩
        simp only [← hW1] at hnx HK1
        have pI : (pos : Int) ≤ (s.size : Int) := by omega
        have p0 : (0 : Int) ≤ (pos : Int) := by omega
        have pw : IntKind.i64.wrap ((pos : Int) + 1) = (pos : Int) + 1 := by rw [IntKind.wrap_i64]; omega
        have p1 : (pos : Int) + 1 ≤ (s.size : Int) := by omega
        clear hW1 hit hb
        by_cases hr : remB b = true
        · have HF : Hid (T ++ flushW (cutL s bg pos) = tokL (byL s)) := by show _ = _; rw [← HG.out, hD, tokG_rem _ _ _ hr]
          have hbb : b = 42 ∨ b = 59 := by unfold remB at hr; simpa using hr
          clear hD hr HBB HG
          rcases hbb with rfl | rfl
          · go_wp2_with (go_at_call 51; refine (HE.out (pos + 1) bg pos T W1 HK1.out (by omega) hbg hT4).mono ?_; rintro e w5 ⟨rfl, h5⟩; obtain ⟨v5, a5, o5⟩ := h5.tk; have d5 := cell_rowK a5 0 _ rfl; have HO5 := hidK o5; have HB5 := hidK h5.below; clear o5 a5 h5)
            go_ret
            exact ⟨_, rfl, by have := HO5.out.le (Nat.le_add_right _ 4); rw [HF.out] at this; exact this, HB5.out⟩
          · go_wp2_with (go_at_call 51; refine (HE.out (pos + 1) bg pos T W1 HK1.out (by omega) hbg hT4).mono ?_; rintro e w5 ⟨rfl, h5⟩; obtain ⟨v5, a5, o5⟩ := h5.tk; have d5 := cell_rowK a5 0 _ rfl; have HO5 := hidK o5; have HB5 := hidK h5.below; clear o5 a5 h5)
            go_ret
            exact ⟨_, rfl, by have := HO5.out.le (Nat.le_add_right _ 4); rw [HF.out] at this; exact this, HB5.out⟩
        · by_cases hsp : sepB b = true
          · have HF : Hid (T ++ flushW (cutL s bg pos) ++ tokG (cutL s (pos + 1) (pos + 1)) ((byL s).drop (pos + 1)) = tokL (byL s)) := by show _ = _; rw [← HG.out, hD, tokG_sep _ _ _ (by simpa using hr) hsp, cut_self, List.append_assoc]
            have hbb : b = 32 ∨ b = 9 ∨ b = 13 ∨ b = 44 := by unfold sepB at hsp; simpa [or_assoc] using hsp
            have hfl := flush_len (cutL s bg pos)
            clear hD hr hsp HBB HG
            rcases hbb with rfl | rfl | rfl | rfl
            · go_wp2_with (go_at_call 51; refine (HE.out (pos + 1) bg pos T W1 HK1.out (by omega) hbg hT4).mono ?_; rintro e w5 ⟨rfl, h5⟩; have H5 := hidK h5; have h5i := h5.it; clear h5)
              go_roundw
              case rel => exact ⟨pos + 1, pos + 1, _, by omega, Nat.le_refl _, H5.out, HF.out, by rw [List.length_append]; omega⟩
              case measure => rw [HIP.out]; simp only [World.iterPos, h5i]; omega
            · go_wp2_with (go_at_call 51; refine (HE.out (pos + 1) bg pos T W1 HK1.out (by omega) hbg hT4).mono ?_; rintro e w5 ⟨rfl, h5⟩; have H5 := hidK h5; have h5i := h5.it; clear h5)
              go_roundw
              case rel => exact ⟨pos + 1, pos + 1, _, by omega, Nat.le_refl _, H5.out, HF.out, by rw [List.length_append]; omega⟩
              case measure => rw [HIP.out]; simp only [World.iterPos, h5i]; omega
            · go_wp2_with (go_at_call 51; refine (HE.out (pos + 1) bg pos T W1 HK1.out (by omega) hbg hT4).mono ?_; rintro e w5 ⟨rfl, h5⟩; have H5 := hidK h5; have h5i := h5.it; clear h5)
              go_roundw
              case rel => exact ⟨pos + 1, pos + 1, _, by omega, Nat.le_refl _, H5.out, HF.out, by rw [List.length_append]; omega⟩
              case measure => rw [HIP.out]; simp only [World.iterPos, h5i]; omega
            · go_wp2_with (go_at_call 51; refine (HE.out (pos + 1) bg pos T W1 HK1.out (by omega) hbg hT4).mono ?_; rintro e w5 ⟨rfl, h5⟩; have H5 := hidK h5; have h5i := h5.it; clear h5)
              go_roundw
              case rel => exact ⟨pos + 1, pos + 1, _, by omega, Nat.le_refl _, H5.out, HF.out, by rw [List.length_append]; omega⟩
              case measure => rw [HIP.out]; simp only [World.iterPos, h5i]; omega
          · by_cases hpr : parB b = true
            · have HF : Hid (T ++ flushW (cutL s bg pos) ++ [s.extract pos (pos + 1)] ++ tokG (cutL s (pos + 1) (pos + 1)) ((byL s).drop (pos + 1)) = tokL (byL s)) := by
                show _ = _
                have e : s.extract pos (pos + 1) = byB [b] := by
                  apply byL_inj
                  rw [byL_cut s _ _ (by omega), cut_one s pos pos b (Nat.le_refl _) HBB.out, cut_self, byL_byB]; rfl
                rw [← HG.out, hD, tokG_par _ _ _ (by simpa using hr) (by simpa using hsp) hpr, cut_self, e]
                simp only [List.append_assoc]; rfl
              have hbb : b = 40 ∨ b = 41 := by unfold parB at hpr; simpa using hpr
              have hfl := flush_len (cutL s bg pos)
              clear hD hr hsp hpr HBB HG
              rcases hbb with rfl | rfl
              · go_upto_region 16 with (go_at_call 51; refine (HE.out (pos + 1) bg pos T W1 HK1.out (by omega) hbg hT4).mono ?_; rintro e w5 ⟨rfl, h5⟩)
                obtain ⟨v5, a5, o5⟩ := h5.tk
                have c2 := cell_rowK h5.line 0 _ rfl
                have c1 := cell_rowK a5 0 _ rfl
                have hlt5 : w.heap.size + 1 + 1 + 1 < w5.heap.size := (Array.getElem?_eq_some_iff.1 h5.it).1
                obtain ⟨T5, hT5⟩ : ∃ T5, T5 = T ++ flushW (cutL s bg pos) := ⟨_, rfl⟩
                rw [← hT5] at o5 HF h5
                have hT5l : T5.length ≤ 2 * pos + 1 := by rw [hT5, List.length_append]; omega
                obtain ⟨ua, uc, hu⟩ := o5.sl
                obtain ⟨Pb, hPb⟩ : ∃ Pb, Pb = Obj.cells #[.string (s.extract pos (pos + 1))] 9 := ⟨_, rfl⟩
                have hbC : Below w5.heap.size w5 (w5.alloc Pb) := (Below.refl _ _).alloc (Nat.le_refl _) Pb
                have HO2 : Hid (OwnF (fun b => w.heap.size + 4 ≤ b) txL 1 9 (w5.alloc Pb) v5 T5) := (o5.on hbC).f
                have HR2 : Hid (RowG txL (w5.alloc Pb) (.slice (some ⟨w5.heap.size, 0, none⟩) 1 1) [s.extract pos (pos + 1)]) := by
                  have := rowG_new elT w5 (s.extract pos (pos + 1)) #[.string (s.extract pos (pos + 1))] rfl
                  rw [← hPb] at this
                  exact this
                have h1' := hkeepK hbC a5
                have HG2 : Hid (∀ w4, Kp (fun k => v5.ownBlock = some k) (w5.alloc Pb) w4 → w4.heap[w.heap.size + 1]? = some (.cells #[v5] 26 (0, 0))) := fun w4 k4 => (k4.block _ (Array.getElem?_eq_some_iff.1 h1').1 (fun e => by have := HO2.out.2 _ e; omega)).trans h1'
                have HF2 : Hid (∀ b, (w5.alloc Pb).heap.size ≤ b → w.heap.size + 4 ≤ b) := fun b hb => by simp at hb; omega
                have hsl : ∀ W, (Instr.slice 9 (.string s) (some (.int .i64 (pos : Int))) (some (.int .i64 ((pos : Int) + 1))) none).run Tryd.prog W = .ok (.string (s.extract pos (pos + 1))) W := slice1 s pos hp
                have c1' := cell_onG c1 hbC
                have c2' := cell_onG c2 hbC
                have H5 := hidK h5
                have A5 := hidK a5
                obtain ⟨m, hm⟩ : ∃ m, m = T5.length := ⟨_, rfl⟩
                rw [← hm] at hu
                have hml : T5.length ≤ 67108864 := by omega
                have HT5L := hidK hT5l
                subst hu
                clear hT5 hT5l o5 a5 h5 hbC h1' hm HE HK1 HK
                subst hPb
                go_wp2
                go_region_law (refine stepG_all (F := fun b => w.heap.size + 4 ≤ b) elT rfl (.tmp 30) (.tmp 36) rfl (.slice ua m uc) T5 (s.extract pos (pos + 1)) w5.heap.size 1 (by simp [Act.eval]) (by simp [Act.eval]) (by exact HO2.out) (by exact HR2.out) (txL_one _) (by omega) (by exact HF2.out) ?_; intro v4 w4 o4 k4 l4; obtain ⟨a4, p4, e4, _⟩ := o4.form; obtain ⟨m4, hm4⟩ : ∃ m, m = (T5 ++ [s.extract pos (pos + 1)]).length := ⟨_, rfl⟩; rw [← hm4] at e4; clear hm4; subst e4; have hb2 := HG2.out _ (Kp.undrew k4); have d3 : w4.cell? ⟨w.heap.size + 1, 0, none⟩ = some (.slice ua m uc) := cell_rowK hb2 0 _ rfl; have f3 := Lib.frozen_of_heap hb2 0)
                all_goals
                  have H7 := hidK (H5.out.grow A5.out HO2.out (Kp.undrew k4) hb2 o4)
                  have h7i := H7.out.it
                  generalize w4.setCell ⟨w.heap.size + 1, 0, none⟩ (.slice a4 m4 p4) = W7 at H7 h7i ⊢
                  clear o4 k4 l4 hb2 d3 f3 HO2 HR2 HG2 HF2 H5 A5
                  go_wp2
                  go_roundw
                  case rel => exact ⟨pos + 1, pos + 1, _, by omega, Nat.le_refl _, H7.out, HF.out, by rw [List.length_append]; have := HT5L.out; simp only [List.length_cons, List.length_nil]; omega⟩
                  case measure => rw [HIP.out]; simp only [World.iterPos, h7i]; omega
              · go_upto_region 16 with (go_at_call 51; refine (HE.out (pos + 1) bg pos T W1 HK1.out (by omega) hbg hT4).mono ?_; rintro e w5 ⟨rfl, h5⟩)
                obtain ⟨v5, a5, o5⟩ := h5.tk
                have c2 := cell_rowK h5.line 0 _ rfl
                have c1 := cell_rowK a5 0 _ rfl
                have hlt5 : w.heap.size + 1 + 1 + 1 < w5.heap.size := (Array.getElem?_eq_some_iff.1 h5.it).1
                obtain ⟨T5, hT5⟩ : ∃ T5, T5 = T ++ flushW (cutL s bg pos) := ⟨_, rfl⟩
                rw [← hT5] at o5 HF h5
                have hT5l : T5.length ≤ 2 * pos + 1 := by rw [hT5, List.length_append]; omega
                obtain ⟨ua, uc, hu⟩ := o5.sl
                obtain ⟨Pb, hPb⟩ : ∃ Pb, Pb = Obj.cells #[.string (s.extract pos (pos + 1))] 9 := ⟨_, rfl⟩
                have hbC : Below w5.heap.size w5 (w5.alloc Pb) := (Below.refl _ _).alloc (Nat.le_refl _) Pb
                have HO2 : Hid (OwnF (fun b => w.heap.size + 4 ≤ b) txL 1 9 (w5.alloc Pb) v5 T5) := (o5.on hbC).f
                have HR2 : Hid (RowG txL (w5.alloc Pb) (.slice (some ⟨w5.heap.size, 0, none⟩) 1 1) [s.extract pos (pos + 1)]) := by
                  have := rowG_new elT w5 (s.extract pos (pos + 1)) #[.string (s.extract pos (pos + 1))] rfl
                  rw [← hPb] at this
                  exact this
                have h1' := hkeepK hbC a5
                have HG2 : Hid (∀ w4, Kp (fun k => v5.ownBlock = some k) (w5.alloc Pb) w4 → w4.heap[w.heap.size + 1]? = some (.cells #[v5] 26 (0, 0))) := fun w4 k4 => (k4.block _ (Array.getElem?_eq_some_iff.1 h1').1 (fun e => by have := HO2.out.2 _ e; omega)).trans h1'
                have HF2 : Hid (∀ b, (w5.alloc Pb).heap.size ≤ b → w.heap.size + 4 ≤ b) := fun b hb => by simp at hb; omega
                have hsl : ∀ W, (Instr.slice 9 (.string s) (some (.int .i64 (pos : Int))) (some (.int .i64 ((pos : Int) + 1))) none).run Tryd.prog W = .ok (.string (s.extract pos (pos + 1))) W := slice1 s pos hp
                have c1' := cell_onG c1 hbC
                have c2' := cell_onG c2 hbC
                have H5 := hidK h5
                have A5 := hidK a5
                obtain ⟨m, hm⟩ : ∃ m, m = T5.length := ⟨_, rfl⟩
                rw [← hm] at hu
                have hml : T5.length ≤ 67108864 := by omega
                have HT5L := hidK hT5l
                subst hu
                clear hT5 hT5l o5 a5 h5 hbC h1' hm HE HK1 HK
                subst hPb
                go_wp2
                go_region_law (refine stepG_all (F := fun b => w.heap.size + 4 ≤ b) elT rfl (.tmp 30) (.tmp 36) rfl (.slice ua m uc) T5 (s.extract pos (pos + 1)) w5.heap.size 1 (by simp [Act.eval]) (by simp [Act.eval]) (by exact HO2.out) (by exact HR2.out) (txL_one _) (by omega) (by exact HF2.out) ?_; intro v4 w4 o4 k4 l4; obtain ⟨a4, p4, e4, _⟩ := o4.form; obtain ⟨m4, hm4⟩ : ∃ m, m = (T5 ++ [s.extract pos (pos + 1)]).length := ⟨_, rfl⟩; rw [← hm4] at e4; clear hm4; subst e4; have hb2 := HG2.out _ (Kp.undrew k4); have d3 : w4.cell? ⟨w.heap.size + 1, 0, none⟩ = some (.slice ua m uc) := cell_rowK hb2 0 _ rfl; have f3 := Lib.frozen_of_heap hb2 0)
                all_goals
                  have H7 := hidK (H5.out.grow A5.out HO2.out (Kp.undrew k4) hb2 o4)
                  have h7i := H7.out.it
                  generalize w4.setCell ⟨w.heap.size + 1, 0, none⟩ (.slice a4 m4 p4) = W7 at H7 h7i ⊢
                  clear o4 k4 l4 hb2 d3 f3 HO2 HR2 HG2 HF2 H5 A5
                  go_wp2
                  go_roundw
                  case rel => exact ⟨pos + 1, pos + 1, _, by omega, Nat.le_refl _, H7.out, HF.out, by rw [List.length_append]; have := HT5L.out; simp only [List.length_cons, List.length_nil]; omega⟩
                  case measure => rw [HIP.out]; simp only [World.iterPos, h7i]; omega
            · have HF : Hid (T ++ tokG (cutL s bg (pos + 1)) ((byL s).drop (pos + 1)) = tokL (byL s)) := by show _ = _; rw [← HG.out, hD, tokG_one _ _ _ (by unfold plainB; simp [hr, hsp, hpr]), cut_one s bg pos b hbg HBB.out]
              have key : ∀ c : UInt8, (b == c) = false → ((b.toNat : Int) == (c.toNat : Int)) = false := fun c hc => beq_eq_false_iff_ne.2 (fun e => (beq_eq_false_iff_ne.1 hc) (UInt8.toNat_inj.1 (Int.ofNat_inj.1 e)))
              unfold remB at hr
              unfold sepB at hsp
              unfold parB at hpr
              simp only [Bool.or_eq_true, not_or, Bool.not_eq_true] at hr hsp hpr
              have k1 : ((b.toNat : Int) == 32) = false := key 32 hsp.1.1.1
              have k2 : ((b.toNat : Int) == 9) = false := key 9 hsp.1.1.2
              have k3 : ((b.toNat : Int) == 13) = false := key 13 hsp.1.2
              have k4 : ((b.toNat : Int) == 44) = false := key 44 hsp.2
              have k5 : ((b.toNat : Int) == 40) = false := key 40 hpr.1
              have k6 : ((b.toNat : Int) == 41) = false := key 41 hpr.2
              have k7 : ((b.toNat : Int) == 42) = false := key 42 hr.1
              have k8 : ((b.toNat : Int) == 59) = false := key 59 hr.2
              obtain ⟨v, hv⟩ : ∃ v : Int, v = (b.toNat : Int) := ⟨_, rfl⟩
              simp only [← hv] at hnx k1 k2 k3 k4 k5 k6 k7 k8
              clear key hv hr hsp hpr hD HBB HG
              go_wp2
              go_roundw
              case rel => exact ⟨pos + 1, bg, T, by omega, by omega, HK1.out, HF.out, by omega⟩
              case measure => have h5i := HK1.out.it; rw [HIP.out]; simp only [World.iterPos, h5i]; omega
      · obtain ⟨g1, g2, g3, g4, g5⟩ := dec_hi s pos b hb (by omega)
        have HK1 := hidK (HK.out.iter (pos + (Utf8.decode s pos).2))
        have HF : Hid (T ++ tokG (cutL s bg (pos + (Utf8.decode s pos).2)) ((byL s).drop (pos + (Utf8.decode s pos).2)) = tokL (byL s)) := by
          show _ = _
          have e : (byL s).drop pos = ((byL s).drop pos).take (Utf8.decode s pos).2 ++ (byL s).drop (pos + (Utf8.decode s pos).2) := by
            rw [← List.drop_drop]; exact (List.take_append_drop _ _).symm
          rw [← HG.out, e, tokG_all _ _ _ ?_, cut_more s bg pos _ hbg]
          intro x hx
          obtain ⟨i, hi⟩ := List.getElem?_of_mem hx
          have hil : i < (Utf8.decode s pos).2 := by
            have := (List.getElem?_eq_some_iff.1 hi).1; rw [List.length_take] at this; omega
          have h5 := g5 i hil
          rw [List.getElem?_take_of_lt hil] at hi
          rw [get_drop19, List.getD, hi] at h5
          exact plain_hi x h5
        obtain ⟨k, hk⟩ : ∃ k, k = (Utf8.decode s pos).2 := ⟨_, rfl⟩
        obtain ⟨v, hv⟩ : ∃ v, v = (Utf8.decode s pos).1 := ⟨_, rfl⟩
        rw [← hk] at hnx HK1 HF g3 g4
        rw [← hv] at hnx g1 g2
        obtain ⟨W1, hW1⟩ : ∃ W1, W1 = wr.iterAt (w.heap.size + 1 + 1 + 1) s (pos + k) := ⟨_, rfl⟩
        simp only [← hW1] at hnx HK1
        have k1 : ((v : Int) == 32) = false := by simp; omega
        have k2 : ((v : Int) == 9) = false := by simp; omega
        have k3 : ((v : Int) == 13) = false := by simp; omega
        have k4 : ((v : Int) == 44) = false := by simp; omega
        have k5 : ((v : Int) == 40) = false := by simp; omega
        have k6 : ((v : Int) == 41) = false := by simp; omega
        have k7 : ((v : Int) == 42) = false := by simp; omega
        have k8 : ((v : Int) == 59) = false := by simp; omega
        obtain ⟨z, hz⟩ : ∃ z : Int, z = (v : Int) := ⟨_, rfl⟩
        simp only [← hz] at hnx k1 k2 k3 k4 k5 k6 k7 k8
        clear g5 hk hv hW1 hb hit hD HBB HG hz g1 g2 hlo
        go_wp2
        go_roundw
        case rel => exact ⟨pos + k, bg, T, by omega, by omega, HK1.out, HF.out, by omega⟩
        case measure => have h5i := HK1.out.it; rw [HIP.out]; simp only [World.iterPos, h5i]; omega
    · obtain rfl : pos = s.size := by omega
      have hnx : ∀ ty, (Instr.next (.pointer (some ⟨w.heap.size + 1 + 1 + 1, 0, none⟩)) true ty).run Tryd.prog wr = _ := fun ty => Lib.run_next_end_at wr (w.heap.size + 1 + 1 + 1) s s.size ty hit hp
      have HF : Hid (T ++ flushW (cutL s bg s.size) = tokL (byL s)) := by
        show _ = _; rw [← HG.out, List.drop_eq_nil_of_le (by rw [byL_size]; exact Nat.le_refl _)]; rfl
      have c2 := cell_rowK HK.out.line 0 _ rfl
      have HC := hidK (HE.out s.size bg s.size T wr HK.out (Nat.le_refl _) hbg hT4)
      clear hit HG
      go_wp2_with (go_at_call 51; refine HC.out.mono ?_; rintro e w5 ⟨rfl, h5⟩; obtain ⟨v5, a5, o5⟩ := h5.tk; have d5 := cell_rowK a5 0 _ rfl; have HO5 := hidK o5; have HB5 := hidK h5.below; clear o5 a5 h5)
      go_ret
      exact ⟨_, rfl, by have := HO5.out.le (Nat.le_add_right _ 4); rw [HF.out] at this; exact this, HB5.out⟩
end Go.Proofs.YtdamhdceajmdfaaDoor
