
-- arc: a header and its field; the magic.
import Derived.Test.YtnfplepaejjmfaaGreatDoorP4
import Derived.Test.YtnfplepaejjmfaaGreatDoorX4
import Derived.Test.YtnfplepaejjmfaaGreatDoorD4
namespace Go.Proofs.YtnfplepaejjmfaaGreatDoor
open Go.ChangeShapes Go.WideShapes Go.ChangeAt Go.RowKit
set_option linter.unusedVariables false
set_option maxRecDepth 100000

theorem all14 (d u g m s a z k so nu : Int) (n fn nm da : ByteArray) : (#[.int .i64 d, .int .i64 u, .int .i64 g, .int .i64 m, .string n, .int .i64 s, .int .i64 a, .int .i64 z, .int .i64 k, .int .i64 so, .int .i64 nu, .string fn, .string nm, .string da] : Array Value).all (·.oneCell') = true := by simp [Value.oneCell']
theorem size14 : (Tryz.prog.info? 86).map (·.size) = some 14 := by kernel_rfl
theorem row_keep {w w1 : World} {r : Nat} {x : Obj} (h : w.heap[r]? = some x) (hb : Below w.heap.size w w1) (o : Obj) : (w1.alloc o).heap[r]? = some x := hup (hkeep hb h) o
theorem bel_row {B : Nat} {a w : World} (h : Below B a w) (g : Nat) (cs : Array Value) (hg : B ≤ g) : Below B a (w.setRow g cs) :=
  ⟨h.os, h.tape, h.output, by rw [setRow_size]; exact h.size, fun j hj => (setRow_other w g j cs (by omega)).trans (h.block j hj)⟩

set_option maxHeartbeats 2000000 in
theorem rh_no (b n : ByteArray) (i e1 d u g m s : Int) (w : World) (hC : Cols w) (HP : Hid (∀ w, Cols w → Calls Tryz.prog 35 #[.string b, .int .i64 i] w fun e w' => e = .returned (.tuple #[.agg #[.int .i64 d, .int .i64 u, .int .i64 g, .int .i64 m, .string n, .int .i64 s], .int .i64 e1]) ∧ Below w.heap.size w w')) (he : ¬ e1 = 0) :
    Calls Tryz.prog 72 #[.string b, .int .i64 i] w fun e w' => e = .returned (.tuple #[.agg #[.int .i64 0, .int .i64 0, .int .i64 0, .int .i64 0, .string ⟨#[]⟩, .int .i64 0, .int .i64 i, .int .i64 0, .int .i64 0, .int .i64 0, .int .i64 0, .string ⟨#[]⟩, .string ⟨#[]⟩, .string ⟨#[]⟩], .int .i64 e1]) ∧ Below w.heap.size w w' := by
  have HC : Hid (Cols (w.alloc (.cells #[.int .i64 0, .int .i64 0, .int .i64 0, .int .i64 0, .string ⟨#[]⟩, .int .i64 0, .int .i64 0, .int .i64 0, .int .i64 0, .int .i64 0, .int .i64 0, .string ⟨#[]⟩, .string ⟨#[]⟩, .string ⟨#[]⟩] 86))) := hC.alloc _
  have b1 : (e1 == 0) = false := by simp [he]
  have b2 : (e1 != 0) = true := by simp [bne, b1]
  have hx0 : (w.alloc (.cells #[.int .i64 0, .int .i64 0, .int .i64 0, .int .i64 0, .string ⟨#[]⟩, .int .i64 0, .int .i64 0, .int .i64 0, .int .i64 0, .int .i64 0, .int .i64 0, .string ⟨#[]⟩, .string ⟨#[]⟩, .string ⟨#[]⟩] 86)).heap[w.heap.size]? = some (.cells #[.int .i64 0, .int .i64 0, .int .i64 0, .int .i64 0, .string ⟨#[]⟩, .int .i64 0, .int .i64 0, .int .i64 0, .int .i64 0, .int .i64 0, .int .i64 0, .string ⟨#[]⟩, .string ⟨#[]⟩, .string ⟨#[]⟩] 86 (0, 0)) := heap_alloc_new w _
  clear hC he
  go_enter Tryz.func72, Tryz.ntmps72
  go_wp2_with first
    | (go_at_call 35; refine (HP.out _ HC.out).mono ?_; rintro e w1 ⟨rfl, hb1⟩; have hx1 := row_keep hx0 hb1 (.cells #[.int .i64 d, .int .i64 u, .int .i64 g, .int .i64 m, .string n, .int .i64 s] 59))
    | (refine wpList_store_row rfl 86 _ _ rfl w.heap.size #[.int .i64 0, .int .i64 0, .int .i64 0, .int .i64 0, .string ⟨#[]⟩, .int .i64 0, .int .i64 i, .int .i64 0, .int .i64 0, .int .i64 0, .int .i64 0, .string ⟨#[]⟩, .string ⟨#[]⟩, .string ⟨#[]⟩] rfl rfl _ _ hx1 size14 rfl (all14 0 0 0 0 0 i 0 0 0 0 ⟨#[]⟩ ⟨#[]⟩ ⟨#[]⟩ ⟨#[]⟩) ?_)
  refine bodyPost_ret (results_cell_tmp_row rfl _ _ w.heap.size _ _ _ _ _ rfl rfl (setRow_heap _ _ _ #[.int .i64 0, .int .i64 0, .int .i64 0, .int .i64 0, .string ⟨#[]⟩, .int .i64 0, .int .i64 i, .int .i64 0, .int .i64 0, .int .i64 0, .int .i64 0, .string ⟨#[]⟩, .string ⟨#[]⟩, .string ⟨#[]⟩] _ _ hx1) Tryz.underlying86 rfl size14) rfl ?_
  exact ⟨rfl, bel_row (bup (bel3 (bup (Below.refl _ _) _) hb1) _) _ _ (Nat.le_refl _)⟩

set_option maxHeartbeats 2000000 in
theorem rh_ok (b n fn : ByteArray) (i e2 d u g m s so nu : Int) (w : World) (hC : Cols w) (HP : Hid (∀ w, Cols w → Calls Tryz.prog 35 #[.string b, .int .i64 i] w fun e w' => e = .returned (.tuple #[.agg #[.int .i64 d, .int .i64 u, .int .i64 g, .int .i64 m, .string n, .int .i64 s], .int .i64 0]) ∧ Below w.heap.size w w'))
    (HR : Hid (∀ w, Calls Tryz.prog 36 #[.string n] w fun e w' => e = .returned (.tuple #[.agg #[.int .i64 so, .int .i64 nu, .string fn], .int .i64 e2]) ∧ Below w.heap.size w w')) :
    Calls Tryz.prog 72 #[.string b, .int .i64 i] w fun e w' => e = .returned (.tuple #[.agg #[.int .i64 d, .int .i64 u, .int .i64 g, .int .i64 m, .string n, .int .i64 s, .int .i64 i, .int .i64 0, .int .i64 0, .int .i64 so, .int .i64 nu, .string fn, .string ⟨#[]⟩, .string ⟨#[]⟩], .int .i64 e2]) ∧ Below w.heap.size w w' := by
  have HC : Hid (Cols (w.alloc (.cells #[.int .i64 0, .int .i64 0, .int .i64 0, .int .i64 0, .string ⟨#[]⟩, .int .i64 0, .int .i64 0, .int .i64 0, .int .i64 0, .int .i64 0, .int .i64 0, .string ⟨#[]⟩, .string ⟨#[]⟩, .string ⟨#[]⟩] 86))) := hC.alloc _
  have hx0 : (w.alloc (.cells #[.int .i64 0, .int .i64 0, .int .i64 0, .int .i64 0, .string ⟨#[]⟩, .int .i64 0, .int .i64 0, .int .i64 0, .int .i64 0, .int .i64 0, .int .i64 0, .string ⟨#[]⟩, .string ⟨#[]⟩, .string ⟨#[]⟩] 86)).heap[w.heap.size]? = some (.cells #[.int .i64 0, .int .i64 0, .int .i64 0, .int .i64 0, .string ⟨#[]⟩, .int .i64 0, .int .i64 0, .int .i64 0, .int .i64 0, .int .i64 0, .int .i64 0, .string ⟨#[]⟩, .string ⟨#[]⟩, .string ⟨#[]⟩] 86 (0, 0)) := heap_alloc_new w _
  clear hC
  go_enter Tryz.func72, Tryz.ntmps72
  go_wp2_with first
    | (go_at_call 35; refine (HP.out _ HC.out).mono ?_; rintro e w1 ⟨rfl, hb1⟩; have hx1 := row_keep hx0 hb1 (.cells #[.int .i64 d, .int .i64 u, .int .i64 g, .int .i64 m, .string n, .int .i64 s] 59); have hy1 := heap_alloc_new w1 (.cells #[.int .i64 d, .int .i64 u, .int .i64 g, .int .i64 m, .string n, .int .i64 s] 59))
    | (go_at_call 36; refine (HR.out _).mono ?_; rintro e w2 ⟨rfl, hb2⟩; have hl2 : w1.heap.size < w2.heap.size := (Array.getElem?_eq_some_iff.1 (hkeep hb2 hy1)).1; have hx2 := row_keep hx1 hb2 (.cells #[.int .i64 so, .int .i64 nu, .string fn] 84); have hy2 := row_keep hy1 hb2 (.cells #[.int .i64 so, .int .i64 nu, .string fn] 84); have y0 := cell_row (hkeep hb2 hy1) 0 _ rfl; have y1 := cell_row (hkeep hb2 hy1) 1 _ rfl; have y2 := cell_row (hkeep hb2 hy1) 2 _ rfl; have y3 := cell_row (hkeep hb2 hy1) 3 _ rfl; have y4 := cell_row (hkeep hb2 hy1) 4 _ rfl; have y5 := cell_row (hkeep hb2 hy1) 5 _ rfl)
    | (refine wpList_store_row rfl 86 _ _ rfl w.heap.size #[.int .i64 d, .int .i64 u, .int .i64 g, .int .i64 m, .string n, .int .i64 s, .int .i64 i, .int .i64 0, .int .i64 0, .int .i64 so, .int .i64 nu, .string fn, .string ⟨#[]⟩, .string ⟨#[]⟩] rfl rfl _ _ hx2 size14 rfl (all14 d u g m s i 0 0 so nu n fn ⟨#[]⟩ ⟨#[]⟩) ?_)
  refine bodyPost_ret (results_cell_tmp_row rfl _ _ w.heap.size _ _ _ _ _ rfl rfl (setRow_heap _ _ _ #[.int .i64 d, .int .i64 u, .int .i64 g, .int .i64 m, .string n, .int .i64 s, .int .i64 i, .int .i64 0, .int .i64 0, .int .i64 so, .int .i64 nu, .string fn, .string ⟨#[]⟩, .string ⟨#[]⟩] _ _ hx2) Tryz.underlying86 rfl size14) rfl ?_
  exact ⟨rfl, bel_row (bup (bel3 (bup (bel3 (bup (Below.refl _ _) _) hb1) _) hb2) _) _ _ (Nat.le_refl _)⟩

theorem name16 (b : ByteArray) (i : Int) : (parseAt b i).1.name.size ≤ 16 := by
  unfold parseAt
  split
  · decide
  · unfold parseH
    split
    · split
      · show (strL (trimN _)).size ≤ 16
        have h1 := trimN_len (fld (fld b.data.toList i.toNat 60) 0 16)
        have h2 : (fld (fld b.data.toList i.toNat 60) 0 16).length ≤ 16 := by unfold fld; rw [List.length_take]; omega
        have h3 : (strL (trimN (fld (fld b.data.toList i.toNat 60) 0 16))).size = (trimN (fld (fld b.data.toList i.toNat 60) 0 16)).length := by simp [strL, ByteArray.size]
        omega
      · decide
    · decide
theorem readHead_c (b : ByteArray) (i : Int) (w : World) (hC : Cols w) (hm : b.size ≤ maxLen) :
    Calls Tryz.prog 72 #[.string b, .int .i64 i] w fun e w' => e = .returned (.tuple #[ptV (headW b i), .int .i64 (headW b i).e]) ∧ Below w.heap.size w w' := by
  have HP := fun (w : World) (hC : Cols w) => parse_c b i w hC hm
  have hn := name16 b i
  unfold headW
  generalize parseAt b i = P at HP hn ⊢
  obtain ⟨⟨d, u, g, m, n, s⟩, e1⟩ := P
  dsimp only at HP hn ⊢
  by_cases he : e1 = 0
  · rw [if_pos he]
    subst he
    have HR := fun (w : World) => pread_c n w (by unfold maxLen; omega)
    generalize readL n.data.toList = R at HR ⊢
    obtain ⟨⟨so, nu, fn⟩, e2⟩ := R
    exact rh_ok b n fn i e2 d u g m s so nu w hC HP HR
  · rw [if_neg he]
    exact rh_no b n i e1 d u g m s w hC HP he
theorem pre8 (b : ByteArray) (l : List UInt8) (hl : l.length = 8) : Lib.hasPrefix b.data.toList l = decide (b.data.toList.take 8 = l) := by
  unfold Lib.hasPrefix
  rw [Bool.eq_iff_iff, List.isPrefixOf_iff_prefix, List.prefix_iff_eq_take, hl, decide_eq_true_eq]
  exact eq_comm
theorem kindBy_c (b : ByteArray) (w : World) :
    Calls Tryz.prog 32 #[.string b] w fun e w' => e = .returned (.tuple #[.int .i64 (if magic b then kind0 b else 0), .int .i64 (if magic b then 0 else 90)]) ∧ w' = w := by
  have H1 : Hid (∀ w, Calls Tryz.prog 51 #[.string b, .string ⟨#[33, 60, 97, 114, 99, 104, 62, 10]⟩] w fun e w' => e = .returned (.bool (decide (b.data.toList.take 8 = mREG))) ∧ w' = w) := fun w => by
    have h := Tryz.strings_HasPrefix b ⟨#[33, 60, 97, 114, 99, 104, 62, 10]⟩ w
    rw [pre8 b _ rfl] at h; exact h
  have H2 : Hid (∀ w, Calls Tryz.prog 51 #[.string b, .string ⟨#[33, 60, 116, 104, 105, 110, 62, 10]⟩] w fun e w' => e = .returned (.bool (decide (b.data.toList.take 8 = mTHIN))) ∧ w' = w) := fun w => by
    have h := Tryz.strings_HasPrefix b ⟨#[33, 60, 116, 104, 105, 110, 62, 10]⟩ w
    rw [pre8 b _ rfl] at h; exact h
  unfold kind0
  by_cases h1 : b.data.toList.take 8 = mREG
  · have h2 : ¬ b.data.toList.take 8 = mTHIN := by rw [h1]; decide
    rw [if_pos (show magic b from .inl h1), if_pos (show magic b from .inl h1), if_neg h2]
    rw [decide_eq_true h1] at H1
    clear H2 h1 h2
    go_enter Tryz.func32, Tryz.ntmps32
    go_wp2_with (go_at_call 51; refine (H1.out _).mono ?_; rintro e w1 ⟨rfl, hw1⟩; subst w1)
    go_ret2
    exact ⟨rfl, rfl⟩
  rw [decide_eq_false h1] at H1
  by_cases h2 : b.data.toList.take 8 = mTHIN
  · rw [if_pos (show magic b from .inr h2), if_pos (show magic b from .inr h2), if_pos h2]
    rw [decide_eq_true h2] at H2
    clear h1 h2
    go_enter Tryz.func32, Tryz.ntmps32
    go_wp2_with first | (go_at_call_of 51 (Value.string ⟨#[33, 60, 97, 114, 99, 104, 62, 10]⟩); refine (H1.out _).mono ?_; rintro e w1 ⟨rfl, hw1⟩; subst w1) | (go_at_call 51; refine (H2.out _).mono ?_; rintro e w1 ⟨rfl, hw1⟩; subst w1)
    go_ret2
    exact ⟨rfl, rfl⟩
  · have hn : ¬ magic b := fun q => q.elim h1 h2
    rw [if_neg hn, if_neg hn]
    rw [decide_eq_false h2] at H2
    clear h1 h2 hn
    go_enter Tryz.func32, Tryz.ntmps32
    go_wp2_with first | (go_at_call_of 51 (Value.string ⟨#[33, 60, 97, 114, 99, 104, 62, 10]⟩); refine (H1.out _).mono ?_; rintro e w1 ⟨rfl, hw1⟩; subst w1) | (go_at_call 51; refine (H2.out _).mono ?_; rintro e w1 ⟨rfl, hw1⟩; subst w1)
    go_ret2
    exact ⟨rfl, rfl⟩

end Go.Proofs.YtnfplepaejjmfaaGreatDoor
