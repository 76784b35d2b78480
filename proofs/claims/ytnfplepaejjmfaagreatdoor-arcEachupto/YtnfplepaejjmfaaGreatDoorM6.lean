import Derived.Test.YtnfplepaejjmfaaGreatDoorM5
import Derived.Test.YtnfplepaejjmfaaGreatDoorR4dq
import Derived.Shelf.RegionOpen

-- arc: add, a contract (2).
namespace Go.Proofs.YtnfplepaejjmfaaGreatDoor
open Go.RowKit Go.Shelf
set_option linter.unusedVariables false
set_option maxRecDepth 100000

/-- what a part tells goes into the archive -/
theorem add_c (B n₀ : Nat) (p : Ar) (x : Pt) (w : World) (hn : n₀ ≤ B) (h : PAt n₀ w B p) (h1 : p.mem.length < 4294967296) (h2 : p.ats.length < 4294967296) :
    Calls Tryz.prog 34 #[.pointer (some ⟨B, 0, none⟩), ptV x] w fun e w' => (∃ v, e = .returned v) ∧ PAt n₀ w' B (addA p x) ∧ Fr n₀ w w' := by
  obtain ⟨vm, va, hB, ⟨hM, hA⟩⟩ := h
  obtain ⟨⟨d, u, g, m, n, s⟩, a, z, k, ⟨so, nu, fn⟩, nm, da, e⟩ := x
  unfold addA
  dsimp only
  by_cases ho : ordS so
  · rw [if_pos ho]
    refine (add_or B n₀ p.kind p.form p.stamp p.index vm va (mbsV p.mem) p.mem.length (atsV p.ats) p.ats.length d u g m s a z k so nu n fn nm da w hn hB hM hA ho h1 h2).mono ?_
    rintro e w' ⟨q1, vm', va', q2, q3, q4, q5⟩
    refine ⟨q1, ⟨vm', va', q2, ⟨?_, ?_⟩⟩, q5⟩
    · show w'.ownsRow n₀ _ 7 vm' (p.mem ++ [_]).length (mbsV (p.mem ++ [_]))
      rw [mbsV_snoc, List.length_append]; exact q3
    · show w'.ownsRow n₀ 3 1 va' (p.ats ++ [_]).length (atsV (p.ats ++ [_]))
      rw [atsV_snoc, List.length_append]; exact q4
  rw [if_neg ho]
  by_cases hs : ixS so
  · rw [if_pos hs]
    refine (add_ix B n₀ p.kind p.form p.stamp p.index vm va (mbsV p.mem) p.mem.length (atsV p.ats) p.ats.length d u g m s a z k so nu n fn nm da w hn hB hM hA ho hs).mono ?_
    rintro e w' ⟨q1, q2, q3, q4, q5⟩
    exact ⟨q1, ⟨vm, va, q2, ⟨q3, q4⟩⟩, q5⟩
  · rw [if_neg hs]
    refine (add_tb B n₀ p.kind p.form p.stamp p.index vm va (mbsV p.mem) p.mem.length (atsV p.ats) p.ats.length d u g m s a z k so nu n fn nm da w hn hB hM hA ho hs).mono ?_
    rintro e w' ⟨q1, q2, q3, q4, q5⟩
    exact ⟨q1, ⟨vm, va, q2, ⟨q3, q4⟩⟩, q5⟩
end Go.Proofs.YtnfplepaejjmfaaGreatDoor

-- arc.Parse: a contract.
namespace Go.Proofs.YtnfplepaejjmfaaGreatDoor
open Go.RowKit Go.Shelf
set_option linter.unusedVariables false
set_option maxRecDepth 100000
attribute [local go_sem] Oper.semAt_some

/-- what Parse answers of b -/
def Ans (b : ByteArray) (p : Ar) (pl er : Int) : Prop :=
  (¬ magic b ∧ p = ar0 0 ∧ pl = 0 ∧ er = 90) ∨ (magic b ∧ ∃ n, First b n ∧ ((¬ (st b n).pos < b.size ∧ p = arK b n ∧ pl = 0 ∧ er = 0) ∨ ((st b n).pos < b.size ∧ p = ar0 0 ∧ pl = (st b n).pos ∧ er = (pt b n).e)))
theorem Tn.below {T : TypeId} {B n : Nat} {W W' : World} (h : Tn T B W W') (hn : n ≤ B) (hs : n ≤ W.heap.size) : Below n W W' :=
  ⟨h.os, h.tape, h.output, h.size, fun k hk => by
    obtain ⟨o, ho⟩ : ∃ o, W.heap[k]? = some o := ⟨_, Array.getElem?_eq_getElem (show k < W.heap.size by omega)⟩
    rw [ho]; exact h.block k o ho (.inl (by omega))⟩
theorem Tn.row {T : TypeId} {B k : Nat} {W W' : World} {cs : Array Value} {t : TypeId} (h : Tn T B W W') (hk : W.heap[k]? = some (.cells cs t (0, 0))) (ht : t ≠ T) : W'.heap[k]? = some (.cells cs t (0, 0)) :=
  h.block k _ hk (.inr ⟨rfl, by rintro ⟨vs, fr, e⟩; rw [hk] at e; injection e with e; injection e with _ e _; exact ht e⟩)
theorem Tn.own {T : TypeId} {B n₀ : Nat} {W W' : World} {e : TypeId} {size k : Nat} {v : Value} {xs : List Value} (h : Tn T B W W') (ho : W.ownsRow n₀ e size v k xs) (ht : e ≠ T) : W'.ownsRow n₀ e size v k xs := by
  refine ⟨ho.1, ?_⟩
  rcases ho.2 with q | ⟨g, cap, cur, q1, q2, q3, q4⟩
  · exact .inl q
  · exact .inr ⟨g, cap, cur, q1, q2, h.row q3 ht, q4⟩
theorem PAt.tn {n₀ B C : Nat} {W W' : World} {p : Ar} (h : PAt n₀ W B p) (k : Tn 111 C W W') : PAt n₀ W' B p := by
  obtain ⟨vm, va, h1, ⟨h2, h3⟩⟩ := h
  exact ⟨vm, va, k.row h1 (by decide), ⟨k.own h2 (by decide), k.own h3 (by decide)⟩⟩
def arK0 (k : Int) (l : List Pt) : Ar := l.foldl addA (ar0 k)
theorem arK0_snoc (k : Int) (l : List Pt) (x : Pt) : arK0 k (l ++ [x]) = addA (arK0 k l) x := by unfold arK0; rw [List.foldl_append]; rfl
theorem arK0_len (k : Int) (l : List Pt) : ∀ p : Ar, (l.foldl addA p).mem.length ≤ p.mem.length + l.length ∧ (l.foldl addA p).ats.length ≤ p.ats.length + l.length := by
  induction l with
  | nil => intro p; exact ⟨Nat.le_refl _, Nat.le_refl _⟩
  | cons x l ih =>
    intro p
    have h := ih (addA p x)
    have h1 : (addA p x).mem.length ≤ p.mem.length + 1 ∧ (addA p x).ats.length ≤ p.ats.length + 1 := by
      unfold addA
      split
      · show (_ ++ [_]).length ≤ _ ∧ (_ ++ [_]).length ≤ _
        rw [List.length_append, List.length_append]; exact ⟨Nat.le_refl _, Nat.le_refl _⟩
      · split
        · exact ⟨Nat.le_succ _, Nat.le_succ _⟩
        · exact ⟨Nat.le_succ _, Nat.le_succ _⟩
    rw [List.foldl_cons, List.length_cons]
    omega
theorem parts_c (b : ByteArray) (w : World) : Calls Tryz.prog 33 #[.string b] w fun e w' => e = .returned (.func (.func 52) #[] #[.pointer (some ⟨w.heap.size, 0, none⟩)]) ∧ w' = w.alloc (.cells #[.string b] 9) := by
  go_enter Tryz.func33, Tryz.ntmps33
  go_wp2
  go_ret
  exact ⟨rfl, rfl⟩
theorem parts_seq (HL : LookC) (n Bn n₀ : Nat) (b : ByteArray) (hb : b.size < 4294967281) (w : World) (hBn : w.heap[Bn]? = some (.cells #[.string b] 9 (0, 0))) (hn : n₀ ≤ w.heap.size) (hC : Cols w) (hM : MaxLenAt w) (hg1 : 0 < n₀) (hg2 : 4 < n₀) :
    SeqT 111 Fence.wide n Tryz.prog 52 #[.pointer (some ⟨Bn, 0, none⟩)] encP (Kp n₀) (Ss b) (Sq b) (b.size + 1) w := fun l J Jx W hW hJ hJx hY h0 =>
  parts1_in HL n l Bn n₀ b hb J Jx W hJ hJx hY ((hW.block Bn (Array.getElem?_eq_some_iff.1 hBn).1).trans hBn) (Nat.le_trans hn hW.size) (hC.on hW) (hM.on hW) hg1 hg2 h0
def ZP : Array Value := #[.int .i64 0, .int .i64 0, .string ⟨#[]⟩, .int .i64 0, .slice none 0 0, .slice none 0 0]
/-- the results' boxes as they were laid -/
def Zr (S : Nat) (W : World) : Prop := W.heap[S]? = some (.cells ZP 43 (0, 0)) ∧ W.heap[S + 1]? = some (.cells #[.int .i64 0] 3 (0, 0)) ∧ W.heap[S + 1 + 1]? = some (.cells #[.int .i64 0] 44 (0, 0))
def stW (S : Nat) (W : World) (c0 c1 c2 c3 c4 c5 v1 v2 : Value) : World := (((((((W.setCell ⟨S, 0, none⟩ c0).setCell ⟨S, 1, none⟩ c1).setCell ⟨S, 2, none⟩ c2).setCell ⟨S, 3, none⟩ c3).setCell ⟨S, 4, none⟩ c4).setCell ⟨S, 5, none⟩ c5).setCell ⟨S + 1, 0, none⟩ v1).setCell ⟨S + 1 + 1, 0, none⟩ v2
theorem stW_other (S : Nat) (W : World) (c0 c1 c2 c3 c4 c5 v1 v2 : Value) (k : Nat) (h0 : k ≠ S) (h1 : k ≠ S + 1) (h2 : k ≠ S + 1 + 1) : (stW S W c0 c1 c2 c3 c4 c5 v1 v2).heap[k]? = W.heap[k]? := by
  unfold stW
  rw [heap_setCell_other _ _ k _ h2, heap_setCell_other _ _ k _ h1, heap_setCell_other _ _ k _ h0, heap_setCell_other _ _ k _ h0, heap_setCell_other _ _ k _ h0, heap_setCell_other _ _ k _ h0, heap_setCell_other _ _ k _ h0, heap_setCell_other _ _ k _ h0]
theorem stW_rows (S : Nat) (W : World) (c0 c1 c2 c3 c4 c5 v1 v2 : Value) (hz : Zr S W) : (stW S W c0 c1 c2 c3 c4 c5 v1 v2).heap[S]? = some (.cells #[c0, c1, c2, c3, c4, c5] 43 (0, 0)) ∧ (stW S W c0 c1 c2 c3 c4 c5 v1 v2).heap[S + 1]? = some (.cells #[v1] 3 (0, 0)) ∧ (stW S W c0 c1 c2 c3 c4 c5 v1 v2).heap[S + 1 + 1]? = some (.cells #[v2] 44 (0, 0)) := by
  have a6 := set_row (i := 5) c5 (set_row (i := 4) c4 (set_row (i := 3) c3 (set_row (i := 2) c2 (set_row (i := 1) c1 (set_row (i := 0) c0 hz.1)))))
  have o : ∀ (k : Nat), k ≠ S → ((((((W.setCell ⟨S, 0, none⟩ c0).setCell ⟨S, 1, none⟩ c1).setCell ⟨S, 2, none⟩ c2).setCell ⟨S, 3, none⟩ c3).setCell ⟨S, 4, none⟩ c4).setCell ⟨S, 5, none⟩ c5).heap[k]? = W.heap[k]? := fun k h0 => by
    rw [heap_setCell_other _ _ k _ h0, heap_setCell_other _ _ k _ h0, heap_setCell_other _ _ k _ h0, heap_setCell_other _ _ k _ h0, heap_setCell_other _ _ k _ h0, heap_setCell_other _ _ k _ h0]
  unfold stW
  refine ⟨?_, ?_, ?_⟩
  · rw [heap_setCell_other _ _ S _ (by show S ≠ S + 1 + 1; omega), heap_setCell_other _ _ S _ (by show S ≠ S + 1; omega)]; exact a6
  · rw [heap_setCell_other _ _ (S + 1) _ (by show S + 1 ≠ S + 1 + 1; omega)]
    exact set_row (i := 0) v1 ((o (S + 1) (by omega)).trans hz.2.1)
  · exact set_row (i := 0) v2 ((heap_setCell_other _ _ (S + 1 + 1) _ (by show S + 1 + 1 ≠ S + 1; omega)).trans ((o (S + 1 + 1) (by omega)).trans hz.2.2))
theorem stW_below (S : Nat) (W : World) (c0 c1 c2 c3 c4 c5 v1 v2 : Value) : Below S W (stW S W c0 c1 c2 c3 c4 c5 v1 v2) := by
  unfold stW
  exact ((((((((Below.refl S W).setCell (p := ⟨S, 0, none⟩) (Nat.le_refl _) _).setCell (p := ⟨S, 1, none⟩) (Nat.le_refl _) _).setCell (p := ⟨S, 2, none⟩) (Nat.le_refl _) _).setCell (p := ⟨S, 3, none⟩) (Nat.le_refl _) _).setCell (p := ⟨S, 4, none⟩) (Nat.le_refl _) _).setCell (p := ⟨S, 5, none⟩) (Nat.le_refl _) _).setCell (p := ⟨S + 1, 0, none⟩) (Nat.le_succ _) _).setCell (p := ⟨S + 1 + 1, 0, none⟩) (Nat.le_succ_of_le (Nat.le_succ _)) _
theorem stW_others (S : Nat) (W : World) (c0 c1 c2 c3 c4 c5 v1 v2 : Value) : KeepsOthers W (stW S W c0 c1 c2 c3 c4 c5 v1 v2) := by
  unfold stW
  exact (((((((KeepsOthers.setCell W _ _).trans (KeepsOthers.setCell _ _ _)).trans (KeepsOthers.setCell _ _ _)).trans (KeepsOthers.setCell _ _ _)).trans (KeepsOthers.setCell _ _ _)).trans (KeepsOthers.setCell _ _ _)).trans (KeepsOthers.setCell _ _ _)).trans (KeepsOthers.setCell _ _ _)
theorem own_base {n m : Nat} {W : World} {e : TypeId} {size k : Nat} {v : Value} {xs : List Value} (h : W.ownsRow n e size v k xs) (hm : m ≤ n) : W.ownsRow m e size v k xs := by
  refine ⟨h.1, ?_⟩
  rcases h.2 with q | ⟨g, cap, cur, q1, q2, q3⟩
  · exact .inl q
  · exact .inr ⟨g, cap, cur, q1, Nat.le_trans hm q2, q3⟩
theorem own_same {n : Nat} {W W' : World} {e : TypeId} {size k : Nat} {v : Value} {xs : List Value} (h : W.ownsRow n e size v k xs) (hb : ∀ g, n ≤ g → (∃ cs, W.heap[g]? = some (.cells cs e (0, 0))) → W'.heap[g]? = W.heap[g]?) : W'.ownsRow n e size v k xs := by
  refine ⟨h.1, ?_⟩
  rcases h.2 with q | ⟨g, cap, cur, q1, q2, q3, q4⟩
  · exact .inl q
  · exact .inr ⟨g, cap, cur, q1, q2, (hb g q2 ⟨cur, q3⟩).trans q3, q4⟩
theorem results_3 {P : Program} {fn : Func} {p q r : Tmp} {t1 t2 t3 : TypeId} (h : fn.results = #[.cell p t1, .cell q t2, .cell r t3]) (tmps : Array Value) (w : World) (g1 g2 g3 : Nat) (t u1 u2 : TypeId) (cs : Array Value) (d : TypeDesc) (v1 v2 : Value)
    (hp : tmps.getD p undef = .pointer (some ⟨g1, 0, none⟩)) (hq : tmps.getD q undef = .pointer (some ⟨g2, 0, none⟩)) (hr : tmps.getD r undef = .pointer (some ⟨g3, 0, none⟩))
    (r1 : w.heap[g1]? = some (.cells cs t (0, 0))) (hu : P.underlying t1 = some d) (hd : (match d with | .struct _ | .array _ _ => true | _ => false) = true) (hi : (P.info? t1).map (·.size) = some cs.size)
    (l2 : (loadVar t2 ⟨g2, 0, none⟩).run P w = .ok v1 w) (l3 : (loadVar t3 ⟨g3, 0, none⟩).run P w = .ok v2 w) :
    (results fn tmps).run P w = .ok (.tuple #[.agg cs, v1, v2]) w := by
  have hp' : tmps[p]?.getD undef = .pointer (some ⟨g1, 0, none⟩) := by simpa using hp
  have hq' : tmps[q]?.getD undef = .pointer (some ⟨g2, 0, none⟩) := by simpa using hq
  have hr' : tmps[r]?.getD undef = .pointer (some ⟨g3, 0, none⟩) := by simpa using hr
  simp only [results, h]
  simp [Sem.run_bind, Result.andThen, hp', hq', hr', asAddr, run_loadVar_row w g1 t t1 cs (0, 0) d r1 hu hd hi, l2, l3]
theorem lv_int {w : World} {g : Nat} {t ty : TypeId} {x : Int} (hg : w.heap[g]? = some (.cells #[.int .i64 x] t (0, 0))) (hu : Tryz.prog.underlying ty = some (.int .i64)) : (loadVar ty ⟨g, 0, none⟩).run Tryz.prog w = .ok (.int .i64 x) w := by
  have c := cell_row hg 0 (.int .i64 x) rfl
  have hr : (underlying ty).run Tryz.prog w = .ok (.int .i64) w := by simp [underlying, hu, go_sem]
  simp [loadVar, isAgg, hr, c, go_sem, Result.andThen]
/-- the contract of add -/
def AddC : Prop := ∀ (B n₀ : Nat) (p : Ar) (x : Pt) (w : World), n₀ ≤ B → PAt n₀ w B p → p.mem.length < 4294967296 → p.ats.length < 4294967296 →
  Calls Tryz.prog 34 #[.pointer (some ⟨B, 0, none⟩), ptV x] w fun e w' => (∃ v, e = .returned v) ∧ PAt n₀ w' B (addA p x) ∧ Fr n₀ w w'
end Go.Proofs.YtnfplepaejjmfaaGreatDoor

-- arc.Parse: a contract (2).
namespace Go.Proofs.YtnfplepaejjmfaaGreatDoor
open Go.RowKit Go.Shelf
set_option linter.unusedVariables false
set_option maxRecDepth 100000
attribute [local go_sem] Oper.semAt_some

set_option maxRecDepth 100000 in
set_option maxHeartbeats 4000000 in
theorem parseA_c (HL : LookC) (HA : AddC) (b : ByteArray) (w : World) (hC : Cols w) (hM : MaxLenAt w) (hb : b.size < 4294967281) :
    Calls Tryz.prog 15 #[.string b] w fun e w' => ∃ vm va p pl er, e = .returned (.tuple #[.agg (parRow p vm va), .int .i64 pl, .int .i64 er]) ∧ PRows w.heap.size w' p vm va ∧ Below w.heap.size w w' ∧ Ans b p pl er := by
  refine (callsIn_wide (n := 3)).1 ?_
  have HK : Hid (∀ w, CallsIn Fence.wide 2 Tryz.prog 32 #[.string b] w fun e w' => e = .returned (.tuple #[.int .i64 (if magic b then kind0 b else 0), .int .i64 (if magic b then 0 else 90)]) ∧ w' = w) := fun w => callsIn_wide.2 (kindBy_c b w)
  have HPt : Hid (∀ w, CallsIn Fence.wide 2 Tryz.prog 33 #[.string b] w fun e w' => e = .returned (.func (.func 52) #[] #[.pointer (some ⟨w.heap.size, 0, none⟩)]) ∧ w' = w.alloc (.cells #[.string b] 9)) := fun w => callsIn_wide.2 (parts_c b w)
  generalize hk0 : (if magic b then kind0 b else 0) = k0 at HK
  generalize he0 : (if magic b then (0 : Int) else 90) = e0 at HK
  refine callsIn_of_wp_marks Tryz.func15 rfl trivial ?_ rfl
  simp only [Tryz.ntmps15, List.size_toArray, List.length_cons, List.length_nil, Nat.reduceAdd, Nat.reduceSub, Array.replicate_succ, Array.replicate_zero, List.push_toArray, List.append_toArray, List.nil_append, List.cons_append]
  gi_wp2_with first | (refine ⟨trivial, ?_⟩; gi_at_call 32; refine (HK.out _).mono ?_; rintro e w' ⟨rfl, hw'⟩; subst w') | (refine ⟨trivial, ?_⟩; gi_at_call 33; refine (HPt.out _).mono ?_; rintro e w' ⟨rfl, hw'⟩; subst w')
  obtain ⟨S, hS⟩ : ∃ S, S = w.heap.size := ⟨_, rfl⟩
  obtain ⟨W0, hW0⟩ : ∃ W0, W0 = ((((w.alloc (.cells ZP 43)).alloc (.cells #[.int .i64 0] 3)).alloc (.cells #[.int .i64 0] 44)).alloc (.cells (parRow (ar0 k0) (.slice none 0 0) (.slice none 0 0)) 43)).alloc (.cells #[.string b] 9) := ⟨_, rfl⟩
  have z0 : W0.heap.size = S + 5 := by rw [hW0, hS]; simp only [World.size_alloc]
  have zr : Zr S W0 := by
    rw [hW0, hS]
    refine ⟨hup (hup (hup (hup (heap_alloc_new w _) _) _) _) _, hup (hup (hup (heap_new2 w _ _) _) _) _, ?_⟩
    have h := heap_new2 (w.alloc (.cells ZP 43)) (.cells #[.int .i64 0] 3) (.cells #[.int .i64 0] 44)
    rw [World.size_alloc] at h
    exact hup (hup h _) _
  have zp : PAt (S + 3) W0 (S + 3) (arK0 k0 []) := by
    refine ⟨_, _, ?_, ⟨World.ownsRow_nil _ _ _ _, World.ownsRow_nil _ _ _ _⟩⟩
    rw [hW0, hS]
    have h := heap_alloc_new (((w.alloc (.cells ZP 43)).alloc (.cells #[.int .i64 0] 3)).alloc (.cells #[.int .i64 0] 44)) (.cells (parRow (ar0 k0) (.slice none 0 0) (.slice none 0 0)) 43)
    simp only [World.size_alloc] at h
    exact hup h _
  have zb : W0.heap[S + 4]? = some (.cells #[.string b] 9 (0, 0)) := by
    rw [hW0, hS]
    have h := heap_alloc_new ((((w.alloc (.cells ZP 43)).alloc (.cells #[.int .i64 0] 3)).alloc (.cells #[.int .i64 0] 44)).alloc (.cells (parRow (ar0 k0) (.slice none 0 0) (.slice none 0 0)) 43)) (.cells #[.string b] 9)
    simp only [World.size_alloc] at h
    exact h
  have zw : Below S w W0 := by rw [hW0, hS]; exact bup (bup (bup (bup (bup (Below.refl _ _) _) _) _) _) _
  have hC0 : Cols W0 := hC.on (by rw [← hS]; exact zw)
  have hM0 : MaxLenAt W0 := hM.on (by rw [← hS]; exact zw)
  have g1 : 0 < S + 3 := by have := hC.lt; omega
  have g2 : 4 < S + 3 := by obtain ⟨m, hm⟩ := hM; have := block_lt_of_cell hm; dsimp only at this; omega
  have hseq := parts_seq HL 2 (S + 4) (S + 3) b hb W0 zb (by omega) hC0 hM0 g1 g2
  change Code.wpIn Fence.wide 3 Tryz.prog _ _ _ (((((w.alloc (.cells ZP 43)).alloc (.cells #[.int .i64 0] 3)).alloc (.cells #[.int .i64 0] 44)).alloc (.cells (parRow (ar0 k0) (.slice none 0 0) (.slice none 0 0)) 43)).alloc (.cells #[.string b] 9))
  rw [← hW0, ← hS]
  clear hW0
  have HS : Hid (S = w.heap.size ∧ W0.heap.size = S + 5 ∧ (if magic b then kind0 b else 0) = k0 ∧ (if magic b then (0 : Int) else 90) = e0) := ⟨hS, z0, hk0, he0⟩
  have hz0 : S + 5 ≤ W0.heap.size := by omega
  clear hS z0 hk0 he0
  have hTn : ∀ (pre : List Pt) (W W' : World), (PAt (S + 3) W (S + 1 + 1 + 1) (arK0 k0 pre) ∧ Zr S W ∧ Below S w W ∧ (∀ x ∈ pre, x.e = 0) ∧ S + 5 ≤ W.heap.size) → Tn 111 W0.heap.size W W' → (PAt (S + 3) W' (S + 1 + 1 + 1) (arK0 k0 pre) ∧ Zr S W' ∧ Below S w W' ∧ (∀ x ∈ pre, x.e = 0) ∧ S + 5 ≤ W'.heap.size) := fun pre W W' h k =>
    ⟨h.1.tn k, ⟨k.row h.2.1.1 (by decide), k.row h.2.1.2.1 (by decide), k.row h.2.1.2.2 (by decide)⟩, h.2.2.1.trans (k.below (by omega) (by have := h.2.2.2.2; omega)), h.2.2.2.1, Nat.le_trans h.2.2.2.2 k.size⟩
  refine rangeT (T := 111) rfl (by omega) (gf := 52) (lb := #[.pointer (some ⟨S + 1 + 1 + 1 + 1, 0, none⟩)]) rfl trivial (enters_of Tryz.func52 (by kernel_rfl) rfl) hseq Kp.trans (fun W l o o' hl h1 h2 => Kp.put W l o o' (by omega) h1 h2) (fun _ => rfl)
    (fun pre W => PAt (S + 3) W (S + 1 + 1 + 1) (arK0 k0 pre) ∧ Zr S W ∧ Below S w W ∧ (∀ x ∈ pre, x.e = 0) ∧ S + 5 ≤ W.heap.size)
    (fun c pre W => c = .ret ∧ ∃ (x : Pt) (pre' : List Pt), pre = pre' ++ [x] ∧ ¬ x.e = 0 ∧ W.heap[S]? = some (.cells ZP 43 (0, 0)) ∧ W.heap[S + 1]? = some (.cells #[.int .i64 x.pos] 3 (0, 0)) ∧ W.heap[S + 1 + 1]? = some (.cells #[.int .i64 x.e] 44 (0, 0)) ∧ Below S w W ∧ S + 5 ≤ W.heap.size)
    hTn
    (fun c pre W W' h k => ⟨h.1, by obtain ⟨x, pre', q1, q2, q3, q4, q5, q6, q7⟩ := h.2; exact ⟨x, pre', q1, q2, k.row q3 (by decide), k.row q4 (by decide), k.row q5 (by decide), q6.trans (k.below (by omega) (by omega)), Nat.le_trans q7 k.size⟩⟩)
    ⟨zp, zr, zw, fun x hx => absurd hx (List.not_mem_nil), by omega⟩
    (fun x a' W => ∃ Bx, W.heap[Bx]? = some (.cells (rowP x) 86 (0, 0)) ∧ a' = { tmps := #[.string b, undef, .pointer (some ⟨S, 0, none⟩), .pointer (some ⟨S + 1, 0, none⟩), .pointer (some ⟨S + 1 + 1, 0, none⟩), .pointer (some ⟨S + 1 + 1 + 1, 0, none⟩), .pointer (some ⟨Bx, 0, none⟩), .int .i64 x.e, .tuple #[.int .i64 k0, .int .i64 e0], .string b, .tuple #[.int .i64 k0, .int .i64 e0], .int .i64 k0, .int .i64 e0, .pointer (some ⟨S + 1 + 1 + 1, 0, none⟩), .pointer (some ⟨S + 1 + 1 + 1, 0, none⟩), .string b, .func (.func 52) #[] #[.pointer (some ⟨S + 1 + 1 + 1 + 1, 0, none⟩)], ptV x, .int .i64 x.e, undef, undef, undef, undef, undef, undef, undef, undef, undef], defers := [] })
    (fun x a' s W W' h k => by obtain ⟨Bx, q1, q2⟩ := h; exact ⟨Bx, k.row q1 (by decide), q2⟩)
    ?assign ?body ?done ?stop
  case assign =>
    intro l pre x W K hi hK
    have hb1 : Below W.heap.size W (W.alloc (.cells (rowP x) 86)) := bup (Below.refl _ _) _
    have h1 := hTn pre W _ hi (Tn.of hb1)
    have h2 : Kp (S + 3) W (W.alloc (.cells (rowP x) 86)) := (Fr.alloc (by have := hi.2.2.2.2; omega) _).kp
    have hk' := hK { tmps := #[.string b, undef, .pointer (some ⟨S, 0, none⟩), .pointer (some ⟨S + 1, 0, none⟩), .pointer (some ⟨S + 1 + 1, 0, none⟩), .pointer (some ⟨S + 1 + 1 + 1, 0, none⟩), .pointer (some ⟨W.heap.size, 0, none⟩), .int .i64 x.e, .tuple #[.int .i64 k0, .int .i64 e0], .string b, .tuple #[.int .i64 k0, .int .i64 e0], .int .i64 k0, .int .i64 e0, .pointer (some ⟨S + 1 + 1 + 1, 0, none⟩), .pointer (some ⟨S + 1 + 1 + 1, 0, none⟩), .string b, .func (.func 52) #[] #[.pointer (some ⟨S + 1 + 1 + 1 + 1, 0, none⟩)], ptV x, .int .i64 x.e, undef, undef, undef, undef, undef, undef, undef, undef, undef], defers := [] } (W.alloc (.cells (rowP x) 86)) ((KeepsOthers.alloc _ _).from _) h2 h1 ⟨W.heap.size, heap_alloc_new W _, rfl⟩
    unfold rowP at hk'
    clear hK h1 h2 hb1 hi hTn
    unfold encP ptV
    gi_wp2
    exact hk'
  case body =>
    rintro l pre x a' W ⟨hp, hz, hbw, hall, hsz⟩ ⟨Bx, hx, rfl⟩ hlen
    obtain ⟨⟨d, u, g, m, nn, sz⟩, a, z, kd, ⟨so, nu, fn⟩, nm, da, e⟩ := x
    by_cases he : e = 0
    · subst he
      have HAx : Hid (CallsIn Fence.wide 0 Tryz.prog 34 #[.pointer (some ⟨S + 1 + 1 + 1, 0, none⟩), ptV ⟨⟨d, u, g, m, nn, sz⟩, a, z, kd, ⟨so, nu, fn⟩, nm, da, 0⟩] W fun e w' => (∃ v, e = .returned v) ∧ PAt (S + 3) w' (S + 1 + 1 + 1) (addA (arK0 k0 pre) ⟨⟨d, u, g, m, nn, sz⟩, a, z, kd, ⟨so, nu, fn⟩, nm, da, 0⟩) ∧ Fr (S + 3) W w') := callsIn_wide.2 (HA (S + 1 + 1 + 1) (S + 3) (arK0 k0 pre) _ W (by omega) hp (by have := (arK0_len k0 pre (ar0 k0)).1; show ((pre.foldl addA (ar0 k0)).mem.length) < _; have e0 : (ar0 k0).mem.length = 0 := rfl; omega) (by have := (arK0_len k0 pre (ar0 k0)).2; show ((pre.foldl addA (ar0 k0)).ats.length) < _; have e0 : (ar0 k0).ats.length = 0 := rfl; omega))
      unfold ptV at HAx
      unfold rowP at hx
      obtain ⟨q0, q1, q2, q3, q4, q5, q6, q7, q8, q9, q10, q11, q12, q13⟩ := cells14 hx
      have HI : Hid (Zr S W ∧ Below S w W ∧ (∀ x ∈ pre, x.e = 0) ∧ S + 5 ≤ W.heap.size) := ⟨hz, hbw, hall, hsz⟩
      clear hp hz hbw hall hsz hx hTn zp zr zw zb hC0 hM0 hseq hC hM HK HPt hlen g1 g2 hb hz0
      unfold ptV
      gi_wp2_with (refine ⟨trivial, ?_⟩; gi_at_call 34; refine (CallsIn.inRound l HAx.out).mono ?_; rintro e W3 ⟨⟨v3, rfl⟩, hp3, hf3⟩)
      obtain ⟨hz, hbw, hall, hsz⟩ := HI.out
      refine ⟨hf3.others.from _, hf3.kp, ?_, ⟨?_, ?_, ?_⟩, ?_, ?_, ?_⟩
      · rw [arK0_snoc]; exact hp3
      · exact (hf3.below.block S (by omega)).trans hz.1
      · exact (hf3.below.block (S + 1) (by omega)).trans hz.2.1
      · exact (hf3.below.block (S + 1 + 1) (by omega)).trans hz.2.2
      · exact hbw.trans (hf3.below.mono (by omega))
      · intro y hy
        rcases List.mem_append.1 hy with q | q
        · exact hall y q
        · rw [List.mem_singleton.1 q]
      · exact Nat.le_trans hsz hf3.below.size
    · have b1 : (e == 0) = false := by simp [he]
      have b2 : (e != 0) = true := by simp [bne, b1]
      unfold rowP at hx
      have q6 := cell_row hx 6 _ rfl
      obtain ⟨s0, t0⟩ := one_row hz.1 0 _ rfl
      obtain ⟨s1, t1⟩ := one_row hz.1 1 _ rfl
      obtain ⟨s2, t2⟩ := one_row hz.1 2 _ rfl
      obtain ⟨s3, t3⟩ := one_row hz.1 3 _ rfl
      obtain ⟨s4, t4⟩ := one_row hz.1 4 _ rfl
      obtain ⟨s5, t5⟩ := one_row hz.1 5 _ rfl
      obtain ⟨u1, v1⟩ := one_row hz.2.1 0 _ rfl
      obtain ⟨u2, v2⟩ := one_row hz.2.2 0 _ rfl
      have hR := stW_rows S W (.int .i64 0) (.int .i64 0) (.string ⟨#[]⟩) (.int .i64 0) (.slice none 0 0) (.slice none 0 0) (.int .i64 a) (.int .i64 e) hz
      have hBl := stW_below S W (.int .i64 0) (.int .i64 0) (.string ⟨#[]⟩) (.int .i64 0) (.slice none 0 0) (.slice none 0 0) (.int .i64 a) (.int .i64 e)
      have hOt := stW_others S W (.int .i64 0) (.int .i64 0) (.string ⟨#[]⟩) (.int .i64 0) (.slice none 0 0) (.slice none 0 0) (.int .i64 a) (.int .i64 e)
      obtain ⟨V, hV⟩ : ∃ V, V = stW S W (.int .i64 0) (.int .i64 0) (.string ⟨#[]⟩) (.int .i64 0) (.slice none 0 0) (.slice none 0 0) (.int .i64 a) (.int .i64 e) := ⟨_, rfl⟩
      rw [← hV] at hR hBl hOt
      have HV : Hid (V = stW S W (.int .i64 0) (.int .i64 0) (.string ⟨#[]⟩) (.int .i64 0) (.slice none 0 0) (.slice none 0 0) (.int .i64 a) (.int .i64 e)) := hV
      obtain ⟨X, hX⟩ : ∃ X : Pt, X = ⟨⟨d, u, g, m, nn, sz⟩, a, z, kd, ⟨so, nu, fn⟩, nm, da, e⟩ := ⟨_, rfl⟩
      have HF : Hid (KeepsFrom W0.heap.size W V.drew ∧ ∃ (x : Pt) (pre' : List Pt), pre ++ [X] = pre' ++ [x] ∧ ¬ x.e = 0 ∧ V.drew.heap[S]? = some (.cells ZP 43 (0, 0)) ∧ V.drew.heap[S + 1]? = some (.cells #[.int .i64 x.pos] 3 (0, 0)) ∧ V.drew.heap[S + 1 + 1]? = some (.cells #[.int .i64 x.e] 44 (0, 0)) ∧ Below S w V.drew ∧ S + 5 ≤ V.drew.heap.size) := by
        refine ⟨⟨hOt.size, fun k o _ h1 h2 => hOt.same k o h1 h2⟩, X, pre, rfl, ?_, hR.1, ?_, ?_, hbw.trans (Below.drew hBl), Nat.le_trans hsz hBl.size⟩
        · rw [hX]; exact he
        · rw [hX]; exact hR.2.1
        · rw [hX]; exact hR.2.2
      have HX : Hid (X = ⟨⟨d, u, g, m, nn, sz⟩, a, z, kd, ⟨so, nu, fn⟩, nm, da, e⟩) := hX
      clear hV hX
      clear hp hz hbw hall hsz hx hTn zp zr zw zb hC0 hM0 hseq hC hM HK HPt hlen g1 g2 hb hz0 he hR hBl hOt
      unfold ptV
      gi_wp2
      have hfo : Tryz.prog.follows Departure.mixedOrders = true := by kernel_rfl
      gi_region_with_o (fail)
      all_goals gi_wp2
      all_goals
        have h := HF.out
        rw [HX.out, HV.out] at h
        unfold stW at h
        exact ⟨h.1, rfl, h.2⟩
  case done =>
    rintro D xs W hD hS' ⟨hp, hz, hbw, hall, hsz⟩ hK
    obtain ⟨vm, va, hrow, ⟨hPM, hPA⟩⟩ := hp
    have hans : Ans b (arK0 k0 xs) 0 0 := by
      rcases hS' with ⟨_, rfl⟩ | ⟨hmg, n, hF, (⟨rfl, hps⟩ | ⟨rfl, hps⟩)⟩
      · exact absurd (hall errPt (List.mem_singleton.2 rfl)) (by decide)
      · have hk : k0 = kind0 b := by have := HS.out.2.2.1; rw [if_pos hmg] at this; exact this.symm
        exact .inr ⟨hmg, n, hF, .inl ⟨hps, by rw [hk]; rfl, rfl, rfl⟩⟩
      · exact absurd ⟨hps, hall (pt b n) (List.mem_append.2 (.inr (List.mem_singleton.2 rfl)))⟩ hF.last
    generalize arK0 k0 xs = p at hrow hPM hPA hans
    obtain ⟨pk, pf, pi, ps, pm, pa⟩ := p
    obtain ⟨ao, ln, cp, rfl⟩ : ∃ ao ln cp, vm = .slice ao ln cp := by rcases hPM.2 with ⟨h, _⟩ | ⟨g, c, cur, h, _⟩ <;> exact ⟨_, _, _, h⟩
    obtain ⟨bo, lb, cb, rfl⟩ : ∃ ao ln cp, va = .slice ao ln cp := by rcases hPA.2 with ⟨h, _⟩ | ⟨g, c, cur, h, _⟩ <;> exact ⟨_, _, _, h⟩
    unfold parRow at hrow
    dsimp only at hrow hPM hPA
    have p0 := cell_row hrow 0 _ rfl
    have p1 := cell_row hrow 1 _ rfl
    have p2 := cell_row hrow 2 _ rfl
    have p3 := cell_row hrow 3 _ rfl
    have p4 := cell_row hrow 4 _ rfl
    have p5 := cell_row hrow 5 _ rfl
    obtain ⟨s0, t0⟩ := one_row hz.1 0 _ rfl
    obtain ⟨s1, t1⟩ := one_row hz.1 1 _ rfl
    obtain ⟨s2, t2⟩ := one_row hz.1 2 _ rfl
    obtain ⟨s3, t3⟩ := one_row hz.1 3 _ rfl
    obtain ⟨s4, t4⟩ := one_row hz.1 4 _ rfl
    obtain ⟨s5, t5⟩ := one_row hz.1 5 _ rfl
    obtain ⟨u1, v1⟩ := one_row hz.2.1 0 _ rfl
    obtain ⟨u2, v2⟩ := one_row hz.2.2 0 _ rfl
    obtain ⟨V, hV⟩ : ∃ V, V = stW S W (.int .i64 pk) (.int .i64 pf) (.string pi) (.int .i64 ps) (.slice ao ln cp) (.slice bo lb cb) (.int .i64 0) (.int .i64 0) := ⟨_, rfl⟩
    have hR := stW_rows S W (.int .i64 pk) (.int .i64 pf) (.string pi) (.int .i64 ps) (.slice ao ln cp) (.slice bo lb cb) (.int .i64 0) (.int .i64 0) hz
    have hBl := stW_below S W (.int .i64 pk) (.int .i64 pf) (.string pi) (.int .i64 ps) (.slice ao ln cp) (.slice bo lb cb) (.int .i64 0) (.int .i64 0)
    have hO := stW_other S W (.int .i64 pk) (.int .i64 pf) (.string pi) (.int .i64 ps) (.slice ao ln cp) (.slice bo lb cb) (.int .i64 0) (.int .i64 0)
    rw [← hV] at hR hBl hO
    have hKV : V.heap[D]? = some (.deferred (some [])) := (hO D (by omega) (by omega) (by omega)).trans hK
    have hDn : ∀ k, k ≠ D → (V.putObj D (.deferred none)).heap[k]? = V.heap[k]? := fun k hk => World.putObj_heap_other hk
    have hW2 : Below S w (V.putObj D (.deferred none)) := (hbw.trans hBl).trans ((Below.refl S V).grown (grownBy_putObj' V D _) (by have := hBl.size; omega) (fun k e => by cases e; omega))
    have hM2 : (V.putObj D (.deferred none)).ownsRow S 54 7 (.slice ao ln cp) pm.length (mbsV pm) := own_base (own_same hPM (fun g hg ⟨cs, hc⟩ => (hDn g (fun e => by rw [e, hK] at hc; cases hc)).trans (hO g (by omega) (by omega) (by omega)))) (by omega)
    have hA2 : (V.putObj D (.deferred none)).ownsRow S 3 1 (.slice bo lb cb) pa.length (atsV pa) := own_base (own_same hPA (fun g hg ⟨cs, hc⟩ => (hDn g (fun e => by rw [e, hK] at hc; cases hc)).trans (hO g (by omega) (by omega) (by omega)))) (by omega)
    have HE : Hid (Below S w (V.putObj D (.deferred none)) ∧ PRows S (V.putObj D (.deferred none)) ⟨pk, pf, pi, ps, pm, pa⟩ (.slice ao ln cp) (.slice bo lb cb) ∧ Ans b ⟨pk, pf, pi, ps, pm, pa⟩ 0 0) := ⟨hW2, ⟨hM2, hA2⟩, hans⟩
    have HR : Hid (V.heap[D]? = some (.deferred (some [])) ∧ (V.putObj D (.deferred none)).heap[S]? = some (.cells #[.int .i64 pk, .int .i64 pf, .string pi, .int .i64 ps, .slice ao ln cp, .slice bo lb cb] 43 (0, 0)) ∧ (V.putObj D (.deferred none)).heap[S + 1]? = some (.cells #[.int .i64 0] 3 (0, 0)) ∧ (V.putObj D (.deferred none)).heap[S + 1 + 1]? = some (.cells #[.int .i64 0] 44 (0, 0))) :=
      ⟨hKV, (hDn _ (by omega)).trans hR.1, (hDn _ (by omega)).trans hR.2.1, (hDn _ (by omega)).trans hR.2.2⟩
    have HV : Hid (V = stW S W (.int .i64 pk) (.int .i64 pf) (.string pi) (.int .i64 ps) (.slice ao ln cp) (.slice bo lb cb) (.int .i64 0) (.int .i64 0)) := hV
    clear hV hR hBl hO hKV hDn hW2 hM2 hA2 hans hPM hPA hrow hz hbw hall hsz hK hS' hTn zp zr zw zb hC0 hM0 hseq hC hM HK HPt g1 g2 hb hz0 hD
    gi_wp2
    have hR := HR.out
    have hE := HE.out
    rw [HV.out] at hR hE
    unfold stW at hR hE
    refine ⟨by simp, .inl ⟨_, _, rfl, run_takeDeferred hR.1, ?_⟩⟩
    refine ⟨_, results_3 rfl _ _ S (S + 1) (S + 1 + 1) _ 3 44 _ _ _ _ rfl rfl rfl hR.2.1 Tryz.underlying43 rfl (by kernel_rfl) (lv_int hR.2.2.1 Tryz.underlying3) (lv_int hR.2.2.2 Tryz.underlying44), .slice ao ln cp, .slice bo lb cb, ⟨pk, pf, pi, ps, pm, pa⟩, 0, 0, rfl, ?_, ?_, hE.2.2⟩
    · rw [← HS.out.1]; exact hE.2.1
    · rw [← HS.out.1]; exact hE.1
  case stop =>
    rintro D c pre W hD hS' ⟨rfl, x, pre', q1, q2, q3, q4, q5, q6, q7⟩ hK
    have hans : Ans b (ar0 0) x.pos x.e := by
      rcases hS' with ⟨hmg, rfl⟩ | ⟨hmg, k, hk, hps, rfl⟩
      · have hx : x = errPt := by
          have h := congrArg List.getLast? q1
          rw [List.getLast?_append, List.getLast?_singleton] at h
          simpa using h.symm
        rw [hx]
        exact .inl ⟨hmg, rfl, rfl, rfl⟩
      · have hx : x = pt b k := by
          have h := congrArg List.getLast? q1
          rw [List.getLast?_append, List.getLast?_append, List.getLast?_singleton, List.getLast?_singleton] at h
          simpa using h.symm
        rw [hx] at q2 ⊢
        exact .inr ⟨hmg, k, ⟨hk, fun g => q2 g.2⟩, .inr ⟨hps, rfl, lookW_pos b (st b k), rfl⟩⟩
    have hDn : ∀ k, k ≠ D → (W.putObj D (.deferred none)).heap[k]? = W.heap[k]? := fun k hk => World.putObj_heap_other hk
    have hW2 : Below S w (W.putObj D (.deferred none)) := q6.trans ((Below.refl S W).grown (grownBy_putObj' W D _) (by omega) (fun k e => by cases e; omega))
    have r1 := (hDn S (by omega)).trans q3
    have r2 := (hDn (S + 1) (by omega)).trans q4
    have r3 := (hDn (S + 1 + 1) (by omega)).trans q5
    have HE : Hid (Below S w (W.putObj D (.deferred none)) ∧ Ans b (ar0 0) x.pos x.e) := ⟨hW2, hans⟩
    clear hW2 hans q1 q2 q3 q4 q5 q6 q7 hS' hTn zp zr zw zb hC0 hM0 hseq hC hM HK HPt g1 g2 hb hz0 hD hDn
    gi_wp2
    refine ⟨by simp, .inl ⟨_, _, rfl, run_takeDeferred hK, ?_⟩⟩
    refine ⟨_, results_3 rfl _ _ S (S + 1) (S + 1 + 1) _ 3 44 _ _ _ _ rfl rfl rfl r1 Tryz.underlying43 rfl (by kernel_rfl) (lv_int r2 Tryz.underlying3) (lv_int r3 Tryz.underlying44), .slice none 0 0, .slice none 0 0, ar0 0, x.pos, x.e, rfl, ?_, ?_, HE.out.2⟩
    · exact ⟨World.ownsRow_nil _ _ _ _, World.ownsRow_nil _ _ _ _⟩
    · rw [← HS.out.1]; exact HE.out.1
end Go.Proofs.YtnfplepaejjmfaaGreatDoor
