
-- arc: the iterator over the parts of a file.
import Derived.Test.YtnfplepaejjmfaaGreatDoorR2
namespace Go.Proofs.YtnfplepaejjmfaaGreatDoor
open Go.RowKit Go.Shelf
set_option linter.unusedVariables false
set_option maxRecDepth 100000
attribute [local go_sem] Oper.semAt_some

def errPt : Pt := { pt0 with e := 90 }
/-- what a round keeps: what lies below n₀; every walk, every text in a box, every part -/
structure Kp (n₀ : Nat) (W W' : World) : Prop where
  below : Below n₀ W W'
  kept : ∀ (r : Nat) (vs : Array Value) (t : TypeId), (t = 111 ∨ t = 9 ∨ t = 86) → W.heap[r]? = some (.cells vs t (0, 0)) → W'.heap[r]? = some (.cells vs t (0, 0))
theorem Kp.trans {n₀ : Nat} {A B C : World} (h : Kp n₀ A B) (k : Kp n₀ B C) : Kp n₀ A C := ⟨h.below.trans k.below, fun r vs t ht hr => k.kept r vs t ht (h.kept r vs t ht hr)⟩
theorem Kp.put {n₀ : Nat} (W : World) (l : Nat) (o o' : Obj) (hn : n₀ ≤ l) (hl : W.heap[l]? = some o) (ho : o.isCells = false) : Kp n₀ W (W.putObj l o') := by
  have g := grownBy_putObj' W l o'
  refine ⟨(Below.refl n₀ W).grown g (Nat.le_trans hn (Nat.le_of_lt (Array.getElem?_eq_some_iff.1 hl).1)) (fun k e => by cases e; exact hn), fun r vs t ht hr => (g.block r (Array.getElem?_eq_some_iff.1 hr).1 ?_).trans hr⟩
  rintro ⟨⟩
  rw [hl] at hr; injection hr with hr; rw [hr] at ho; cases ho
/-- all that came -/
def Ss (b : ByteArray) (xs : List Pt) : Prop := (¬ magic b ∧ xs = [errPt]) ∨ (magic b ∧ ∃ n, First b n ∧ ((xs = ptL b n ∧ ¬ (st b n).pos < b.size) ∨ (xs = ptL b n ++ [pt b n] ∧ (st b n).pos < b.size)))
/-- what came up to a round that said no more -/
def Sq (b : ByteArray) (xs : List Pt) : Prop := (¬ magic b ∧ xs = [errPt]) ∨ (magic b ∧ ∃ k, (∀ i, i < k → good b i) ∧ (st b k).pos < b.size ∧ xs = ptL b k ++ [pt b k])
def encP (x : Pt) : Array Value := #[ptV x, .int .i64 x.e]
def wpos (B : Nat) (W : World) : Nat := match W.cell? ⟨B, 1, none⟩ with | some (.int _ p) => p.toNat | _ => 0
theorem wpos_row {B : Nat} {W : World} {b : ByteArray} {s : Wk} {i : Bool} (h : W.heap[B]? = some (.cells (wkRow b s i) 111 (0, 0))) : wpos B W = s.pos := by
  unfold wpos
  rw [cell_row h 1 (.int .i64 (s.pos : Int)) rfl]
  simp
theorem cols_low {n₀ : Nat} {w w' : World} (h : Cols w) (b : Below n₀ w w') (hn : 0 < n₀) : Cols w' := fun j v hj => by
  rw [b.cell (p := ⟨0, j, none⟩) hn]; exact h j v hj
theorem maxl_low {n₀ : Nat} {w w' : World} (h : MaxLenAt w) (b : Below n₀ w w') (hn : 4 < n₀) : MaxLenAt w' := by
  obtain ⟨m, hm⟩ := h
  exact ⟨m, by rw [b.cell (p := ⟨4, 0, none⟩) hn]; exact hm⟩
theorem magic8 (b : ByteArray) (h : magic b) : 8 ≤ b.size := by
  have hl : b.data.toList.length = b.size := by simp
  have : (b.data.toList.take 8).length = 8 := by rcases h with h | h <;> rw [h] <;> rfl
  rw [List.length_take] at this; omega
theorem kq_ab {T : TypeId} {C B : Nat} {W W' : World} (h : Kq B W W') (hC : C ≤ B) (hT : isT T W B) : Ab T C W W' :=
  ⟨h.os, h.tape, h.output, h.size, fun k hk hc => h.block k (fun e => by
    subst e
    rcases hc with q | q
    · omega
    · exact q hT) hk⟩
theorem kq_below {B n₀ : Nat} {W W' : World} (h : Kq B W W') (hn : n₀ ≤ B) (hs : B < W.heap.size) : Below n₀ W W' := ⟨h.os, h.tape, h.output, h.size, fun j hj => h.block j (by omega) (by omega)⟩

set_option maxRecDepth 100000 in
set_option maxHeartbeats 4000000 in
theorem parts1_in (HL : LookC) (n l Bn n₀ : Nat) (b : ByteArray) (hb : b.size < 4294967281) (J Jx : List Pt → World → Prop) (W0 : World)
    (hJ : ∀ s A C, J s A → Ab 111 W0.heap.size A C → J s C) (hJx : ∀ s A C, Jx s A → Ab 111 W0.heap.size A C → Jx s C)
    (hY : ∀ pre x W1, J pre W1 → pre.length < b.size + 1 → YieldAt Fence.wide (n - 1) Tryz.prog l (encP x) W1 fun e W' =>
      (e = .returned (.bool true) ∧ J (pre ++ [x]) W' ∧ Kp n₀ W1 W') ∨ (e = .returned (.bool false) ∧ Jx (pre ++ [x]) W'))
    (hBn : W0.heap[Bn]? = some (.cells #[.string b] 9 (0, 0))) (hn : n₀ ≤ W0.heap.size) (hC : Cols W0) (hM : MaxLenAt W0) (hg1 : 0 < n₀) (hg2 : 4 < n₀) (h0 : J [] W0) :
    CallsIn Fence.wide n Tryz.prog 52 #[.func (.yield l) #[] #[], .pointer (some ⟨Bn, 0, none⟩)] W0 fun e W' => (∃ v, e = .returned v) ∧
      ((∃ ys, Ss b ys ∧ J ys W') ∨ (∃ pre, Sq b pre ∧ Jx pre W')) := by
  have cb := cell_row hBn 0 (.string b) rfl
  have hlt : Bn < W0.heap.size := (Array.getElem?_eq_some_iff.1 hBn).1
  have HK : Hid (∀ w, CallsIn Fence.wide (n - 1) Tryz.prog 32 #[.string b] w fun e w' => e = .returned (.tuple #[.int .i64 (if magic b then kind0 b else 0), .int .i64 (if magic b then 0 else 90)]) ∧ w' = w) := fun w => callsIn_wide.2 (kindBy_c b w)
  refine callsIn_of_wp Tryz.func52 rfl trivial ?_ rfl
  simp only [Tryz.ntmps52, List.size_toArray, List.length_cons, List.length_nil, Nat.reduceAdd, Nat.reduceSub, Array.replicate_succ, Array.replicate_zero, List.push_toArray, List.append_toArray, List.nil_append, List.cons_append]
  by_cases hmg : magic b
  · rw [if_pos hmg, if_pos hmg] at HK
    gi_wp2_with (refine ⟨trivial, fun h => (by cases h), ?_⟩; gi_at_call 32; refine (HK.out _).mono ?_; rintro e w' ⟨rfl, hw'⟩; subst w')
    have h8 := magic8 b hmg
    have hr0 : (W0.alloc (.cells #[.string b, .int .i64 8, .int .i64 0, .int .i64 (kind0 b), .bool false, .string ⟨#[]⟩] 111)).heap[W0.heap.size]? = some (.cells (wkRow b (st b 0) false) 111 (0, 0)) := heap_alloc_new W0 _
    gi_loopw [] (fun wr => ∃ (k : Nat) (i : Bool), (∀ j, j < k → good b j) ∧ wr.heap[W0.heap.size]? = some (.cells (wkRow b (st b k) i) 111 (0, 0)) ∧ flagOk (st b k) i ∧ wr.heap[Bn]? = some (.cells #[.string b] 9 (0, 0)) ∧ Below n₀ W0 wr ∧ J (ptL b k) wr)
      (fun wr => b.size - wpos W0.heap.size wr)
    case atStart =>
      refine ⟨0, false, fun j hj => absurd hj (Nat.not_lt_zero _), hr0, ⟨fun _ => rfl, fun h => absurd (show (0 : Nat) = 1 from h) (by omega)⟩, hup hBn _, ((Below.refl _ W0).alloc hn _), hJ _ _ _ h0 (Ab.of (bup (Below.refl _ _) _))⟩
    case round =>
      obtain ⟨k, i, hk, hrow, hfl, hbn, hbw, hj⟩ := hrel
      obtain ⟨hp1, hp2⟩ := st_pos b h8 k hk
      have c1 : wr.cell? ⟨W0.heap.size, 1, none⟩ = some (.int .i64 ((st b k).pos : Int)) := cell_row hrow 1 _ rfl
      have cbr : wr.cell? ⟨Bn, 0, none⟩ = some (.string b) := cell_row hbn 0 _ rfl
      by_cases hpos : (st b k).pos < b.size
      · have d1 : decide ((st b k).pos < b.size) = true := decide_eq_true hpos
        have HLk := HL W0.heap.size b (st b k) i wr hrow hfl (wk_ok b h8 k hk hpos) (cols_low hC hbw hg1) (maxl_low hM hbw hg2) hb
        change Calls Tryz.prog 53 #[.pointer (some ⟨W0.heap.size, 0, none⟩)] wr fun e w' => e = .returned (.tuple #[ptV (pt b k), .int .i64 (pt b k).e]) ∧ Below wr.heap.size wr w' at HLk
        have hlen : (ptL b k).length < b.size + 1 := by rw [ptL_len]; omega
        have hdone : ¬ (pt b k).e = 0 → Ss b (ptL b k ++ [pt b k]) := fun he => .inr ⟨hmg, k, ⟨hk, fun q => he q.2⟩, .inr ⟨rfl, hpos⟩⟩
        have hstop : Sq b (ptL b k ++ [pt b k]) := .inr ⟨hmg, k, hk, hpos, rfl⟩
        have hnext : (pt b k).e = 0 → (∀ j, j < k + 1 → good b j) ∧ ptL b (k + 1) = ptL b k ++ [pt b k] ∧ st b (k + 1) = passW (st b k) (pt b k) ∧ 0 ≤ (pt b k).fin ∧ (st b k).pos < (st b (k + 1)).pos ∧ (st b (k + 1)).pos ≤ b.size := fun he => by
          have hall : ∀ j, j < k + 1 → good b j := fun j hj => by
            rcases Nat.lt_or_ge j k with q | q
            · exact hk j q
            · rw [show j = k from by omega]; exact ⟨hpos, he⟩
          have f := lookW_fin b (st b k) he
          have f1 : (st b (k + 1)).pos = (pt b k).fin.toNat := rfl
          have f2 := (st_pos b h8 (k + 1) hall).2
          have f3 : ((st b k).pos : Int) + 60 ≤ (pt b k).fin := f.1
          exact ⟨hall, ptL_succ b k, rfl, by omega, by omega, f2⟩
        have hcnt : (st b k).cnt < 4611686018427387904 := by have := (wk_ok b h8 k hk hpos).cnt; omega
        obtain ⟨S0, hS0⟩ : ∃ S0, S0 = st b k := ⟨_, rfl⟩
        obtain ⟨L0, hL0⟩ : ∃ L0, L0 = ptL b k := ⟨_, rfl⟩
        obtain ⟨X, hX⟩ : ∃ X, X = pt b k := ⟨_, rfl⟩
        rw [← hX] at HLk hdone hstop hnext
        rw [← hL0] at hj hlen hdone hstop hnext
        rw [← hS0] at hrow hfl hpos d1 c1 hnext hcnt
        have HNX : Hid (X.e = 0 → ∀ (i' : Bool) (V : World), V.heap[W0.heap.size]? = some (.cells (wkRow b (passW S0 X) i') 111 (0, 0)) → flagOk (passW S0 X) i' → V.heap[Bn]? = some (.cells #[.string b] 9 (0, 0)) → Below n₀ W0 V → J (L0 ++ [X]) V →
            (∃ (k : Nat) (i : Bool), (∀ j, j < k → good b j) ∧ V.heap[W0.heap.size]? = some (.cells (wkRow b (st b k) i) 111 (0, 0)) ∧ flagOk (st b k) i ∧ V.heap[Bn]? = some (.cells #[.string b] 9 (0, 0)) ∧ Below n₀ W0 V ∧ J (ptL b k) V) ∧ b.size - wpos W0.heap.size V < b.size - wpos W0.heap.size wr) := fun he i' V v1 v2 v3 v4 v5 => by
          obtain ⟨n1, n2, n3, n4, n5, n6⟩ := hnext he
          rw [← n3] at v1 v2
          exact ⟨⟨k + 1, i', n1, v1, v2, v3, v4, by rw [n2]; exact v5⟩, by rw [wpos_row v1, wpos_row hrow]; omega⟩
        have HFI : Hid (X.e = 0 → 0 ≤ X.fin) := fun he => (hnext he).2.2.2.1
        have HRW : Hid (wr.heap[W0.heap.size]? = some (.cells (wkRow b S0 i) 111 (0, 0)) ∧ flagOk S0 i ∧ S0.cnt < 4611686018427387904) := ⟨hrow, hfl, hcnt⟩
        have HBN : Hid (wr.heap[Bn]? = some (.cells #[.string b] 9 (0, 0)) ∧ Below n₀ W0 wr) := ⟨hbn, hbw⟩
        have HDS : Hid ((¬ X.e = 0 → Ss b (L0 ++ [X])) ∧ Sq b (L0 ++ [X])) := ⟨hdone, hstop⟩
        have HJL : Hid (J L0 wr ∧ L0.length < b.size + 1) := ⟨hj, hlen⟩
        have hwlt : W0.heap.size < wr.heap.size := (Array.getElem?_eq_some_iff.1 hrow).1
        have hnlt : n₀ ≤ W0.heap.size := hn
        clear hnext hdone hstop hj hlen hrow hfl hcnt hpos hp1 hp2 hbn hbw hk hS0 hL0 hX
        generalize S0.pos = p at d1 c1
        obtain ⟨⟨d, u, g, m, nn, sz⟩, a, z, kd, ⟨so, nu, fn⟩, nm, da, e⟩ := X
        have HLx : Hid (CallsIn Fence.wide (n - 1) Tryz.prog 53 #[.pointer (some ⟨W0.heap.size, 0, none⟩)] wr fun e' w' => e' = .returned (.tuple #[.agg #[.int .i64 d, .int .i64 u, .int .i64 g, .int .i64 m, .string nn, .int .i64 sz, .int .i64 a, .int .i64 z, .int .i64 kd, .int .i64 so, .int .i64 nu, .string fn, .string nm, .string da], .int .i64 e]) ∧ Below wr.heap.size wr w') := callsIn_wide.2 HLk
        clear HLk
        have HYx : Hid (∀ w1 : World, Below wr.heap.size wr w1 → ∃ fn' tmps assign body, (Instr.yield l #[.agg #[.int .i64 d, .int .i64 u, .int .i64 g, .int .i64 m, .string nn, .int .i64 sz, .int .i64 a, .int .i64 z, .int .i64 kd, .int .i64 so, .int .i64 nu, .string fn, .string nm, .string da], .int .i64 e]).run Tryz.prog (w1.alloc (.cells #[.int .i64 d, .int .i64 u, .int .i64 g, .int .i64 m, .string nn, .int .i64 sz, .int .i64 a, .int .i64 z, .int .i64 kd, .int .i64 so, .int .i64 nu, .string fn, .string nm, .string da] 86)) = .ok (.round l fn' tmps assign body) (w1.alloc (.cells #[.int .i64 d, .int .i64 u, .int .i64 g, .int .i64 m, .string nn, .int .i64 sz, .int .i64 a, .int .i64 z, .int .i64 kd, .int .i64 so, .int .i64 nu, .string fn, .string nm, .string da] 86)) ∧
            RoundIn Fence.wide (n - 1) Tryz.prog l fn' tmps assign body (w1.alloc (.cells #[.int .i64 d, .int .i64 u, .int .i64 g, .int .i64 m, .string nn, .int .i64 sz, .int .i64 a, .int .i64 z, .int .i64 kd, .int .i64 so, .int .i64 nu, .string fn, .string nm, .string da] 86)) fun e' W' =>
              (e' = .returned (.bool true) ∧ J (L0 ++ [⟨⟨d, u, g, m, nn, sz⟩, a, z, kd, ⟨so, nu, fn⟩, nm, da, e⟩]) W' ∧ Kp n₀ (w1.alloc (.cells #[.int .i64 d, .int .i64 u, .int .i64 g, .int .i64 m, .string nn, .int .i64 sz, .int .i64 a, .int .i64 z, .int .i64 kd, .int .i64 so, .int .i64 nu, .string fn, .string nm, .string da] 86)) W') ∨ (e' = .returned (.bool false) ∧ Jx (L0 ++ [⟨⟨d, u, g, m, nn, sz⟩, a, z, kd, ⟨so, nu, fn⟩, nm, da, e⟩]) W')) := fun w1 hb1 =>
          hY L0 ⟨⟨d, u, g, m, nn, sz⟩, a, z, kd, ⟨so, nu, fn⟩, nm, da, e⟩ _ (hJ _ _ _ HJL.out.1 (Ab.of (bup hb1 _))) HJL.out.2
        clear hY h0 hC hM
        gi_wp2_with (refine ⟨trivial, fun h => (by cases h), ?_⟩; gi_at_call 53; refine HLx.out.mono ?_; rintro e' w1 ⟨rfl, hb1⟩; obtain ⟨fn', tmps, assign, body, hy, hR⟩ := HYx.out w1 hb1)
        refine ⟨fun h => (by cases h), hR.mono ?_⟩
        rintro e' W3 (⟨rfl, hJ3, hk3⟩ | ⟨rfl, hJx3⟩)
        · have hx3 : W3.heap[w1.heap.size]? = some (.cells #[.int .i64 d, .int .i64 u, .int .i64 g, .int .i64 m, .string nn, .int .i64 sz, .int .i64 a, .int .i64 z, .int .i64 kd, .int .i64 so, .int .i64 nu, .string fn, .string nm, .string da] 86 (0, 0)) := hk3.kept _ _ _ (.inr (.inr rfl)) (heap_alloc_new w1 _)
          have hr3 : W3.heap[W0.heap.size]? = some (.cells (wkRow b S0 i) 111 (0, 0)) := hk3.kept _ _ _ (.inl rfl) (row_keep HRW.out.1 hb1 _)
          have hn3 : W3.heap[Bn]? = some (.cells #[.string b] 9 (0, 0)) := hk3.kept _ _ _ (.inr (.inl rfl)) (row_keep HBN.out.1 hb1 _)
          have hb3 : Below n₀ W0 W3 := (HBN.out.2.trans ((hb1.mono (by omega)).alloc (by have := hb1.size; omega) _)).trans hk3.below
          by_cases he : e = 0
          · subst he
            have HP : Hid (CallsIn Fence.wide (n - 1) Tryz.prog 54 #[.pointer (some ⟨W0.heap.size, 0, none⟩), .agg #[.int .i64 d, .int .i64 u, .int .i64 g, .int .i64 m, .string nn, .int .i64 sz, .int .i64 a, .int .i64 z, .int .i64 kd, .int .i64 so, .int .i64 nu, .string fn, .string nm, .string da]] W3 fun e' w' => (∃ v, e' = .returned v) ∧ (∃ i', w'.heap[W0.heap.size]? = some (.cells (wkRow b (passW S0 ⟨⟨d, u, g, m, nn, sz⟩, a, z, kd, ⟨so, nu, fn⟩, nm, da, 0⟩) i') 111 (0, 0)) ∧ flagOk (passW S0 ⟨⟨d, u, g, m, nn, sz⟩, a, z, kd, ⟨so, nu, fn⟩, nm, da, 0⟩) i') ∧ Kq W0.heap.size W3 w') :=
              callsIn_wide.2 (pass_c W0.heap.size b S0 i ⟨⟨d, u, g, m, nn, sz⟩, a, z, kd, ⟨so, nu, fn⟩, nm, da, 0⟩ W3 hr3 HRW.out.2.1 HRW.out.2.2 (HFI.out rfl))
            obtain ⟨q0, q1, q2, q3, q4, q5, q6, q7, q8, q9, q10, q11, q12, q13⟩ := cells14 hx3
            have H3 : Hid (W3.heap[W0.heap.size]? = some (.cells (wkRow b S0 i) 111 (0, 0)) ∧ W3.heap[Bn]? = some (.cells #[.string b] 9 (0, 0)) ∧ Below n₀ W0 W3 ∧ J (L0 ++ [⟨⟨d, u, g, m, nn, sz⟩, a, z, kd, ⟨so, nu, fn⟩, nm, da, 0⟩]) W3) := ⟨hr3, hn3, hb3, hJ3⟩
            have hlt3 : W0.heap.size < W3.heap.size := (Array.getElem?_eq_some_iff.1 hr3).1
            clear hx3 hr3 hn3 hb3 hJ3 hk3
            gi_wp2_with (refine ⟨trivial, fun h => (by cases h), ?_⟩; gi_at_call 54; refine HP.out.mono ?_; rintro e' W4 ⟨⟨v4, rfl⟩, ⟨i', hr4, hf4⟩, hq4⟩)
            obtain ⟨g1, g2, g3, g4⟩ := H3.out
            have hfin := HNX.out (by first | exact rfl | trivial) i' W4 hr4 hf4 ((hq4.block Bn (by omega) (by omega)).trans g2) (g3.trans (kq_below hq4 hnlt hlt3)) (hJ _ _ _ g4 (kq_ab hq4 (Nat.le_refl _) ⟨_, _, g1⟩))
            go_roundw
            case rel => exact hfin.1
            case measure => exact hfin.2
          · have b1 : (e == 0) = false := by simp [he]
            have b2 : (e != 0) = true := by simp [bne, b1]
            have hfin : Ss b (L0 ++ [⟨⟨d, u, g, m, nn, sz⟩, a, z, kd, ⟨so, nu, fn⟩, nm, da, e⟩]) := HDS.out.1 he
            clear he hx3 hr3 hn3 hb3 hk3
            gi_wp2
            refine bodyPost_ret (results_none rfl _ _ _) rfl ?_
            exact ⟨⟨_, rfl⟩, .inl ⟨_, hfin, hJ3⟩⟩
        · gi_wp2
          refine bodyPost_ret (results_none rfl _ _ _) rfl ?_
          exact ⟨⟨_, rfl⟩, .inr ⟨_, HDS.out.2, hJx3⟩⟩
      · have d1 : decide ((st b k).pos < b.size) = false := decide_eq_false hpos
        have hF : First b k := ⟨hk, fun g => hpos g.1⟩
        have hfin : Ss b (ptL b k) := .inr ⟨hmg, k, hF, .inl ⟨rfl, hpos⟩⟩
        generalize (st b k).pos = p at d1 c1
        gi_wp2
        go_end0
        exact ⟨⟨_, rfl⟩, .inl ⟨ptL b k, hfin, hj⟩⟩
  · rw [if_neg hmg, if_neg hmg] at HK
    obtain ⟨fn, tmps, assign, body, hy, hR⟩ := hY [] errPt W0 h0 (Nat.succ_pos _)
    have hy' : (Instr.yield l #[.agg #[.int .i64 0, .int .i64 0, .int .i64 0, .int .i64 0, .string ⟨#[]⟩, .int .i64 0, .int .i64 0, .int .i64 0, .int .i64 0, .int .i64 0, .int .i64 0, .string ⟨#[]⟩, .string ⟨#[]⟩, .string ⟨#[]⟩], .int .i64 90]).run Tryz.prog W0 = .ok (.round l fn tmps assign body) W0 := hy
    clear hy
    gi_wp2_with (refine ⟨trivial, fun h => (by cases h), ?_⟩; gi_at_call 32; refine (HK.out _).mono ?_; rintro e w' ⟨rfl, hw'⟩; subst w')
    refine ⟨fun h => (by cases h), hR.mono ?_⟩
    rintro e W3 (⟨rfl, hJ3, hk3⟩ | ⟨rfl, hJx3⟩)
    · gi_wp2
      refine bodyPost_ret (results_none rfl _ _ _) rfl ?_
      exact ⟨⟨_, rfl⟩, .inl ⟨[errPt], .inl ⟨hmg, rfl⟩, hJ3⟩⟩
    · gi_wp2
      refine bodyPost_ret (results_none rfl _ _ _) rfl ?_
      exact ⟨⟨_, rfl⟩, .inr ⟨[errPt], .inl ⟨hmg, rfl⟩, hJx3⟩⟩
end Go.Proofs.YtnfplepaejjmfaaGreatDoor
