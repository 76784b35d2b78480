import Derived.Test.YtkmehjikllilaaaDoorM1
import Derived.OwnWalk
import Derived.LoopTactic
import Derived.Test.YtkmehjikllilaaaDoorY0
import Derived.Test.YtkmehjikllilaaaDoorC5
import Derived.Test.YtkmehjikllilaaaDoorH0
import Derived.Test.YtkmehjikllilaaaDoorA5
import Derived.Test.YtkmehjikllilaaaDoorA2

-- syms: the symbols of an opened table behind a list, class 32: contract.
namespace Go.Proofs.YtkmehjikllilaaaDoor
open Go.ChangeShapes Go.WideShapes Go.ChangeAt Go.RowKit
set_option linter.unusedVariables false
set_option maxRecDepth 100000
theorem slice_p32 (b : ByteArray) (p n : Nat) (h : p + n ≤ b.size) (w : World) :
    (Instr.slice 9 (.string b) (some (.int .i64 (p : Int))) (some (.int .i64 ((p : Int) + (n : Int)))) none).run Tryd.prog w = .ok (.string (b.extract p (p + n))) w := by
  rw [run_slice_string w 9 b .i64 .i64 (p : Int) ((p : Int) + (n : Int)) Tryd.underlying9 (by omega) (by omega) (by omega)]
  rfl
/-- what appendTo answers -/
def Appended32 (o : Int) (t names : ByteArray) (B m : Nat) (xs : List Value) (w : World) (r : Ending) (w' : World) : Prop :=
  Below B w w' ∧ ((∃ l v, symsOf 32 o t names (t.size / 16) = some l ∧ r = .returned (.tuple #[v, .int .i64 0]) ∧ w'.ownsRow B 42 7 v (m + l.length) (xs ++ symsV l)) ∨
    (symsOf 32 o t names (t.size / 16) = none ∧ r = .returned (.tuple #[.slice none 0 0, .int .i64 56])))
set_option maxHeartbeats 2000000 in
theorem appendTo_32 (t names : ByteArray) (k m B n : Nat) (o : Int) (v : Value) (xs : List Value) (w : World) (hF : w.heap[k]? = some (.cells (tabCells col32 o t names) 72 (0, 0))) (hk : k < B) (hB : B ≤ w.heap.size) (hown : w.ownsRow B 42 7 v m xs) (hm : m ≤ 1718091776) (ht : t.size ≤ 1048576) (hnm : names.size ≤ 1048576) (ho : o = 0 ∨ o = 1) (hn : t.size = n * 16) :
    Calls Tryd.prog 24 #[.pointer (some ⟨k, 0, none⟩), v] w (Appended32 o t names B m xs w) := by
  have hdiv : t.size / 16 = n := by omega
  have hnN : n ≤ 65536 := by omega
  have hpp : ∀ j : Nat, j < n → j * 16 + 16 ≤ t.size := fun j hj => by omega
  have cell (i : Nat) (v : Value) (h : (tabCells col32 o t names)[i]? = some v) (w' : World) (hb : w'.heap[k]? = some (.cells (tabCells col32 o t names) 72 (0, 0))) : w'.cell? ⟨k, i, none⟩ = some v := by
    rw [cell_of_row _ _ _ _ _ _ hb]; exact h
  have c0 : w.cell? ⟨k, 0, none⟩ = some (.int .u64 16) := cell 0 _ rfl w hF
  have c14 : w.cell? ⟨k, 14, none⟩ = some (.string t) := cell 14 _ rfl w hF
  have HG := Hid.mk' (grow_c v m n B xs w hown hB (by omega))
  have HC := Hid.mk' cell
  have hszI : ((t.size : Nat) : Int) = (n : Int) * 16 := by omega
  have htd : Int.tdiv ((t.size : Nat) : Int) 16 = (n : Int) := by rw [Int.tdiv_eq_ediv_of_nonneg (by omega)]; omega
  have hed : ((t.size : Nat) : Int) / 16 = (n : Int) := by omega
  have hwn : IntKind.i64.wrap (n : Int) = (n : Int) := by rw [IntKind.wrap_i64]; omega
  have hxn : wrap64 (n : Int) = (n : Int) := by unfold wrap64; omega
  have hnmm : names.size ≤ maxLen := by unfold maxLen; omega
  have HSY : Hid (∀ (j : Nat) (wx : World) (nm : ByteArray), j < n → wx.heap[k]? = some (.cells (tabCells col32 o t names) 72 (0, 0)) → nameOf names (num t (j * 16) 4 o) = some nm → Calls Tryd.prog 45 #[.pointer (some ⟨k, 0, none⟩), .string (t.extract (j * 16) (j * 16 + 16))] wx fun r w' => r = .returned (.tuple #[.agg (symV (symAt 32 o t (j * 16) nm)).toArray, .int .i64 0]) ∧ Below wx.heap.size wx w') := fun j wx nm hj hF hN => sym_32 t names nm (j * 16) k o wx hF (hpp j hj) hnmm ho hN
  have HSN : Hid (∀ (j : Nat) (wx : World), j < n → wx.heap[k]? = some (.cells (tabCells col32 o t names) 72 (0, 0)) → nameOf names (num t (j * 16) 4 o) = none → Calls Tryd.prog 45 #[.pointer (some ⟨k, 0, none⟩), .string (t.extract (j * 16) (j * 16 + 16))] wx fun r w' => r = .returned (.tuple #[.agg #[.string ⟨#[]⟩, .int .i64 0, .int .i64 0, .int .i64 0, .int .i64 0, .int .u64 0, .int .u64 0], .int .i64 56]) ∧ Below wx.heap.size wx w') := fun j wx hj hF hN => sym_no_32 t names (j * 16) k o wx hF (hpp j hj) hnmm ho hN
  have HSL : Hid (∀ (j : Nat) (wx : World), j < n → (Instr.slice 9 (.string t) (some (.int .i64 (((j * 16 : Nat)) : Int))) (some (.int .i64 (((j * 16 : Nat) : Int) + 16))) none).run Tryd.prog wx = .ok (.string (t.extract (j * 16) (j * 16 + 16))) wx) := fun j wx hj => slice_p32 t (j * 16) 16 (hpp j hj) wx
  obtain ⟨i0, hi, hz0, hz1, hz2⟩ := info_parts' infoSym
  have HW := Hid.mk' (And.intro hnN (And.intro hm (And.intro hszI hB)))
  have HD := Hid.mk' (And.intro hdiv hn)
  clear hown cell hnmm ho hnm ht
  go_enter Tryd.func24, Tryd.ntmps24
  go_wp2_with (first
    | (go_at_call 44; refine (HG.out).mono ?_; rintro r w1 ⟨v1, rfl, hown1, hb1⟩))
  have hF1 : w1.heap[k]? = some (.cells (tabCells col32 o t names) 72 (0, 0)) := (hb1.block k hk).trans hF
  have hs1 : B ≤ w1.heap.size := Nat.le_trans HW.out.2.2.2 hb1.size
  clear c0 c14 HG hF hB hm hnN htd hed hwn hxn hszI hn hdiv hpp
  go_loopw [1, 7] (fun u a wx => ∃ (j : Nat) (l : List Sym), j ≤ n ∧ a = .int .i64 ((j * 16 : Nat) : Int) ∧ symsOf 32 o t names j = some l ∧ wx.ownsRow B 42 7 u (m + j) (xs ++ symsV l) ∧ wx.heap[k]? = some (.cells (tabCells col32 o t names) 72 (0, 0)) ∧ Below B w wx ∧ B ≤ wx.heap.size) (fun _ a _ => n * 16 - (intOf a).toNat)
  case atStart => exact ⟨0, [], Nat.zero_le _, by simp, rfl, by rw [show xs ++ symsV [] = xs from List.append_nil xs]; exact hown1, hF1, hb1, hs1⟩
  case round =>
    obtain ⟨j, l, hj, rfl, hl, hown, hF, hB, hlt⟩ := hrel
    have hll := symsOf_length _ _ _ _ _ _ hl
    have c0 : wr.cell? ⟨k, 0, none⟩ = some (.int .u64 16) := HC.out 0 _ rfl wr hF
    have c14 : wr.cell? ⟨k, 14, none⟩ = some (.string t) := HC.out 14 _ rfl wr hF
    have hn := HD.out.2
    by_cases hjn : j < n
    · have hjI : ((j * 16 : Nat) : Int) < ((t.size : Nat) : Int) := by omega
      have hjN : j * 16 < t.size := by omega
      have hj0 : (0 : Int) ≤ ((j * 16 : Nat) : Int) := Int.natCast_nonneg _
      have hwa : IntKind.i64.wrap (((j * 16 : Nat) : Int) + 16) = ((j * 16 : Nat) : Int) + 16 := by have := HW.out.1; rw [IntKind.wrap_i64]; omega
      have hxa : wrap64 (((j * 16 : Nat) : Int) + 16) = ((j * 16 : Nat) : Int) + 16 := by have := HW.out.1; unfold wrap64; omega
      have hsl := HSL.out j wr hjn
      have hc3 : m + j + 1 ≤ maxLen := by have := HW.out.1; have := HW.out.2.1; unfold maxLen; omega
      have hc4 : (m + j + 1) * 64 ≤ 140737488355328 := by have := HW.out.1; have := HW.out.2.1; omega
      clear hn
      generalize hP : j * 16 = P at hjI hj0 hwa hxa hsl hjN
      cases hN : nameOf names (num t (j * 16) 4 o) with
      | none =>
        have HS := HSN.out j wr hjn hF hN
        rw [hP] at HS
        have HS' := Hid.mk' HS
        have hnone : symsOf 32 o t names (t.size / 16) = none := by
          have h1 : symsOf 32 o t names (j + 1) = none := by
            have hsy : symLen 32 = 16 := rfl
            rw [symsOf, hl, hsy, hN]; rfl
          rw [HD.out.1, show n = j + 1 + (n - (j + 1)) by omega]
          exact symsOf_none h1 _
        have HNO := Hid.mk' hnone
        clear HS hN hl hown hnone hP hll
        go_wp2_with (first
          | (go_at_call 45; refine (HS'.out).mono ?_; rintro r w2 ⟨rfl, hb2⟩))
        go_ret2
        exact ⟨hB.trans (Below.alloc (hb2.mono hlt) (Nat.le_trans hlt hb2.size) _), Or.inr ⟨HNO.out, rfl⟩⟩
      | some nm =>
        have HS := HSY.out j wr nm hjn hF hN
        rw [hP] at HS
        have hl' : symsOf 32 o t names (j + 1) = some (l ++ [symAt 32 o t (j * 16) nm]) := by
          have hsy : symLen 32 = 16 := rfl
          rw [symsOf, hl, hsy, hN]; rfl
        rw [hP] at hl'
        have HL' := Hid.mk' hl'
        have HP := Hid.mk' hP
        clear hl' hN hl hP hll
        generalize symAt 32 o t P nm = x at HS HL'
        obtain ⟨xn, xb, xt, xo, xs', xv, xz⟩ := x
        have HS' : Hid (Calls Tryd.prog 45 #[.pointer (some ⟨k, 0, none⟩), .string (t.extract P (P + 16))] wr fun r w' => r = .returned (.tuple #[.agg #[.string xn, .int .i64 (xb : Int), .int .i64 (xt : Int), .int .i64 (xo : Int), .int .i64 (xs' : Int), .int .u64 (xv : Int), .int .u64 (xz : Int)], .int .i64 0]) ∧ Below wr.heap.size wr w') := HS
        clear HS
        go_wp2_with (first
          | (go_at_call 45; refine (HS'.out).mono ?_; rintro r w3 ⟨rfl, hb3⟩; have hOW := ((own_below hown hb3).alloc (.cells #[.string xn, .int .i64 (xb : Int), .int .i64 (xt : Int), .int .i64 (xo : Int), .int .i64 (xs' : Int), .int .u64 (xv : Int), .int .u64 (xz : Int)] 42)).alloc (.cells #[.string xn, .int .i64 (xb : Int), .int .i64 (xt : Int), .int .i64 (xo : Int), .int .i64 (xs' : Int), .int .u64 (xv : Int), .int .u64 (xz : Int)] 42))
          | (at_builtin; refine wpList_append_own _ rfl _ _ 45 rfl B 42 i0 (.agg #[.string ⟨#[]⟩, .int .i64 0, .int .i64 0, .int .i64 0, .int .i64 0, .int .u64 0, .int .u64 0]) 7 64 Tryd.underlying45 hi hz0 hz1 hz2 rfl (by decide) _ _ _ rfl hOW ⟨w3.heap.size + 1, 0, none⟩ 1 1 [.string xn, .int .i64 (xb : Int), .int .i64 (xt : Int), .int .i64 (xo : Int), .int .i64 (xs' : Int), .int .u64 (xv : Int), .int .u64 (xz : Int)] rfl rfl ?c1 (by intro u hu; simp at hu; rcases hu with rfl | rfl | rfl | rfl | rfl | rfl | rfl <;> rfl) ?c3 ?c4 ?c5 ?_))
        case c1 =>
          intro q u hu
          rw [Addr.add_mid, Nat.zero_add, cell_of_row _ _ _ _ _ _ (heap_alloc2_new w3 _ _)]
          simpa using hu
        case c3 => exact hc3
        case c4 => exact hc4
        case c5 => rw [size_alloc, size_alloc]; have := hb3.size; omega
        intro v' w5 hown' hgrow _
        have hs3 := hb3.size
        have hrow : ∀ q, u1.ownBlock = some q → B ≤ q := fun q hq => (hown.lt q hq).1
        have hbR : Below B wr w5 := Below.grown (Below.alloc (Below.alloc (hb3.mono hlt) (by omega) _) (by rw [size_alloc]; omega) _) hgrow (by rw [size_alloc, size_alloc]; omega) hrow
        have HALL : Hid (w5.ownsRow B 42 7 v' (m + (j + 1)) (xs ++ symsV (l ++ [⟨xn, xb, xt, xo, xs', xv, xz⟩])) ∧ w5.heap[k]? = some (.cells (tabCells col32 o t names) 72 (0, 0)) ∧ Below B w w5 ∧ B ≤ w5.heap.size) := ⟨by rw [symsV_append]; exact hown', (hbR.block _ hk).trans hF, hB.trans hbR, by have := hbR.size; omega⟩
        clear hown' hgrow hbR hrow hown hF hB hOW hb3 HS'
        go_wp2
        clear hwa hxa
        go_roundw
        case rel => exact ⟨j + 1, _, hjn, by refine congrArg (Value.int .i64) ?_; have hq := HP.out; omega, HL'.out, HALL.out⟩
        case measure => have hq := HP.out; have hjn' : j < n := hjn; clear HALL HL' HSY HSN HSL HC; simp only [intOf]; omega
    · obtain rfl : j = n := Nat.le_antisymm hj (Nat.not_lt.1 hjn)
      have hjI : ¬ ((j * 16 : Nat) : Int) < ((t.size : Nat) : Int) := by omega
      have hjN : ¬ (j * 16 < t.size) := by omega
      clear hn
      go_wp2
      go_ret2
      exact ⟨hB, Or.inl ⟨l, _, by rw [HD.out.1]; exact hl, rfl, by rw [hll]; exact hown⟩⟩
end Go.Proofs.YtkmehjikllilaaaDoor

-- Plain: what a file's tables tell, or the refusal.
namespace Go.Proofs.YtkmehjikllilaaaDoor
set_option linter.unusedVariables false
set_option maxRecDepth 100000
/-- Table's answer: the refusal, or 0, and the symbols -/
def tabE (b : ByteArray) (c : Nat) (o : Int) (n : Nat) (s : Nat → Sec) (e : Int) : Int := if e = 0 then (match tabOf b c o n s n with | .error f => f | .ok _ => 0) else e
def tabL (b : ByteArray) (c : Nat) (o : Int) (n : Nat) (s : Nat → Sec) (e : Int) : List Sym := if e = 0 then (match tabOf b c o n s n with | .error _ => [] | .ok l => l) else []
theorem tab_e {b : ByteArray} {c : Nat} {o : Int} {n : Nat} {s : Nat → Sec} {e : Int} (h : e ≠ 0) : tabE b c o n s e = e ∧ tabL b c o n s e = [] := ⟨if_neg h, if_neg h⟩
theorem tab_err {b : ByteArray} {c : Nat} {o : Int} {n : Nat} {s : Nat → Sec} {f : Int} (h : tabOf b c o n s n = .error f) : tabE b c o n s 0 = f ∧ tabL b c o n s 0 = [] := by
  unfold tabE tabL
  rw [if_pos rfl, if_pos rfl, h]
  exact ⟨rfl, rfl⟩
theorem tab_ok {b : ByteArray} {c : Nat} {o : Int} {n : Nat} {s : Nat → Sec} {l : List Sym} (h : tabOf b c o n s n = .ok l) : tabE b c o n s 0 = 0 ∧ tabL b c o n s 0 = l := by
  unfold tabE tabL
  rw [if_pos rfl, if_pos rfl, h]
  exact ⟨rfl, rfl⟩
theorem tab_at_err {b : ByteArray} {c : Nat} {o : Int} {n : Nat} {s : Nat → Sec} {i : Nat} {l : List Sym} {f : Int} (h : tabOf b c o n s i = .ok l) (hi : i < n) (h2 : (s i).ty = 2) (ho : oneOf b c o n s (s i) = .error f) : tabOf b c o n s n = .error f := by
  have h1 : tabOf b c o n s (i + 1) = .error f := by rw [tabOf, h]; simp only [if_pos h2, ho]
  rw [show n = i + 1 + (n - (i + 1)) by omega]
  have h2 := tabOf_err h1 (n - (i + 1))
  rw [show i + 1 + (n - (i + 1)) = n by omega] at h2 ⊢
  exact h2
theorem tab_at_ok {b : ByteArray} {c : Nat} {o : Int} {n : Nat} {s : Nat → Sec} {i : Nat} {l m : List Sym} (h : tabOf b c o n s i = .ok l) (h2 : (s i).ty = 2) (ho : oneOf b c o n s (s i) = .ok m) : tabOf b c o n s (i + 1) = .ok (l ++ m) := by rw [tabOf, h]; simp only [if_pos h2, ho]
theorem tab_at_not {b : ByteArray} {c : Nat} {o : Int} {n : Nat} {s : Nat → Sec} {i : Nat} {l : List Sym} (h : tabOf b c o n s i = .ok l) (h2 : (s i).ty ≠ 2) : tabOf b c o n s (i + 1) = .ok l := by rw [tabOf, h]; simp only [if_neg h2]
theorem open_ne {b : ByteArray} {c n : Nat} {s : Nat → Sec} {x : Sec} {e : Int} (h : openOf b c n s x = .error e) : e ≠ 0 := by
  unfold openOf at h
  split at h
  · split at h
    · cases h; decide
    · split at h
      · split at h
        · cases h; decide
        · cases h
      · cases h; decide
  · cases h; decide
theorem one_err {b : ByteArray} {c : Nat} {o : Int} {n : Nat} {s : Nat → Sec} {x : Sec} {e : Int} (h : openOf b c n s x = .error e) : oneOf b c o n s x = .error e := by unfold oneOf; rw [h]
theorem one_none {b : ByteArray} {c : Nat} {o : Int} {n : Nat} {s : Nat → Sec} {x : Sec} {t names : ByteArray} (h : openOf b c n s x = .ok (t, names)) (g : symsOf c o t names (t.size / symLen c) = none) : oneOf b c o n s x = .error 56 := by unfold oneOf; rw [h]; simp only [g]
theorem one_some {b : ByteArray} {c : Nat} {o : Int} {n : Nat} {s : Nat → Sec} {x : Sec} {t names : ByteArray} {l : List Sym} (h : openOf b c n s x = .ok (t, names)) (g : symsOf c o t names (t.size / symLen c) = some l) : oneOf b c o n s x = .ok l := by unfold oneOf; rw [h]; simp only [g]
end Go.Proofs.YtkmehjikllilaaaDoor

-- elf.Ident: contracts.
namespace Go.Proofs.YtkmehjikllilaaaDoor
open Go.ChangeShapes Go.WideShapes Go.ChangeAt Go.RowKit
set_option linter.unusedVariables false
set_option maxRecDepth 100000
set_option maxHeartbeats 1000000 in
theorem ident_no (b : ByteArray) (w : World) (hM : Magic w) (hm : b.size ≤ maxLen) (hE : identE b ≠ 0) :
    Calls Tryd.prog 20 #[.string b] w fun r w' => r = .returned (.tuple #[.int .i64 0, .int .i64 0, .int .i64 (identE b)]) ∧ Below w.heap.size w w' := by
  have hmf : ∀ (fn : Fn) (first cap : Array Value) (w : World), (Instr.makeFunc fn first cap).run Tryd.prog w = .ok (.func fn first cap) w := fun _ _ _ _ => rfl
  have h0 := block_lt_of_cell hM.1
  have hM1 : Magic (w.alloc (.cells #[.int .i64 0] 48)) := by
    obtain ⟨m0, m1, m2, m3⟩ := hM
    refine ⟨?_, ?_, ?_, ?_⟩ <;> rw [World.cell?_alloc_past _ _ _ h0] <;> assumption
  have HI : Hid (Calls Tryd.prog 39 #[.string b] (w.alloc (.cells #[.int .i64 0] 48)) fun r w' => r = .panicked (gives (identE b)) ∧ Below (w.heap.size + 1) (w.alloc (.cells #[.int .i64 0] 48)) w') :=
    (identify_c b _ hM1 hm).mono fun r w' ⟨h1, h2⟩ => by
      rw [size_alloc] at h1
      rcases h2 with ⟨h, _⟩ | ⟨_, h⟩
      · exact absurd h hE
      · exact ⟨h, h1⟩
  clear hm hM
  go_enter_defers Tryd.func20, Tryd.ntmps20
  go_wp2_with (first | (go_at_call 39; refine HI.out.mono ?_; rintro r w1 ⟨rfl, hb⟩))
  have hc : w1.cell? ⟨w.heap.size, 0, none⟩ = some (.int .i64 0) := by
    rw [hb.cell (Nat.lt_succ_self _)]; exact cell_of_row _ _ 0 _ _ _ (heap_alloc_new w _)
  have hz : w1.frozen? ⟨w.heap.size, 0, none⟩ = false := by
    rw [hb.frozen (Nat.lt_succ_self _)]; exact frozen_of_row _ _ 0 _ _ (heap_alloc_new w _)
  have hs : (w1.setCell ⟨w.heap.size, 0, none⟩ (.int .i64 (identE b))).cell? ⟨w.heap.size, 0, none⟩ = some (.int .i64 (identE b)) := World.cell?_setCell_same _ _ _ hc
  refine leaves_cons (f := 37) (args := #[.pointer (some ⟨w.heap.size, 0, none⟩)]) (by simp) (by simp [go_sem]) ?_
  refine (catch_Ident ⟨w.heap.size, 0, none⟩ _ _ _ hc hz).mono ?_
  rintro r u' w'' ⟨rfl, rfl, rfl⟩
  simp [Leaves, settle, results, Tryd.results20, go_sem, hs]
  exact Below.setCell ((Below.alloc (Below.refl _ _) (Nat.le_refl _) _).trans (hb.mono (Nat.le_succ _))) (Nat.le_refl _) _
set_option maxHeartbeats 1000000 in
theorem ident_ok (b : ByteArray) (w : World) (hM : Magic w) (hm : b.size ≤ maxLen) (hE : identE b = 0) :
    Calls Tryd.prog 20 #[.string b] w fun r w' => r = .returned (.tuple #[.int .i64 (cls b), .int .i64 (ord b), .int .i64 0]) ∧ Below w.heap.size w w' := by
  have hmf : ∀ (fn : Fn) (first cap : Array Value) (w : World), (Instr.makeFunc fn first cap).run Tryd.prog w = .ok (.func fn first cap) w := fun _ _ _ _ => rfl
  have h0 := block_lt_of_cell hM.1
  have hM1 : Magic (w.alloc (.cells #[.int .i64 0] 48)) := by
    obtain ⟨m0, m1, m2, m3⟩ := hM
    refine ⟨?_, ?_, ?_, ?_⟩ <;> rw [World.cell?_alloc_past _ _ _ h0] <;> assumption
  have HI : Hid (Calls Tryd.prog 39 #[.string b] (w.alloc (.cells #[.int .i64 0] 48)) fun r w' => ∃ k, r = .returned (.pointer (some ⟨k, 0, none⟩)) ∧ Below (w.heap.size + 1) (w.alloc (.cells #[.int .i64 0] 48)) w' ∧ w'.cell? ⟨k, 0, none⟩ = some (.int .i64 (cls b)) ∧ w'.cell? ⟨k, 32, none⟩ = some (.int .i64 (ord b))) :=
    (identify_c b _ hM1 hm).mono fun r w' ⟨h1, h2⟩ => by
      rw [size_alloc] at h1
      rcases h2 with ⟨_, k, h3, h4, h5⟩ | ⟨h, _⟩
      · refine ⟨k, h3, h1, ?_, ?_⟩
        · rw [cell_of_row _ _ _ _ _ _ h5]
          rcases cls_ok b hE with h | h <;> rw [h] <;> rfl
        · rw [cell_of_row _ _ _ _ _ _ h5]
          rcases cls_ok b hE with h | h <;> rw [h] <;> rfl
      · exact absurd hE h
  clear hm hM
  go_enter_defers Tryd.func20, Tryd.ntmps20
  go_wp2_with (first | (go_at_call 39; refine HI.out.mono ?_; rintro r w1 ⟨k, rfl, hb, c0, c32⟩))
  have hc : w1.cell? ⟨w.heap.size, 0, none⟩ = some (.int .i64 0) := by
    rw [hb.cell (Nat.lt_succ_self _)]; exact cell_of_row _ _ 0 _ _ _ (heap_alloc_new w _)
  have hz : w1.frozen? ⟨w.heap.size, 0, none⟩ = false := by
    rw [hb.frozen (Nat.lt_succ_self _)]; exact frozen_of_row _ _ 0 _ _ (heap_alloc_new w _)
  go_region
  all_goals
    go_wp2
    have hc2 : ((w1.setCell ⟨w.heap.size, 0, none⟩ (.int .i64 0)).drew).cell? ⟨w.heap.size, 0, none⟩ = some (.int .i64 0) := World.cell?_setCell_same _ _ _ hc
    have hz2 : ((w1.setCell ⟨w.heap.size, 0, none⟩ (.int .i64 0)).drew).frozen? ⟨w.heap.size, 0, none⟩ = false := (World.frozen?_setCell _ _ _ _).trans hz
    have hs : (((w1.setCell ⟨w.heap.size, 0, none⟩ (.int .i64 0)).drew).setCell ⟨w.heap.size, 0, none⟩ (.int .i64 0)).cell? ⟨w.heap.size, 0, none⟩ = some (.int .i64 0) := World.cell?_setCell_same _ _ _ hc2
    refine leaves_cons (f := 37) (args := #[.pointer (some ⟨w.heap.size, 0, none⟩)]) (by simp) (by simp [go_sem]) ?_
    refine (idle_Ident ⟨w.heap.size, 0, none⟩ _ _ hc2 hz2).mono ?_
    rintro r u' w'' ⟨rfl, rfl, rfl⟩
    have hB : Below w.heap.size w (((w1.setCell ⟨w.heap.size, 0, none⟩ (.int .i64 0)).drew).setCell ⟨w.heap.size, 0, none⟩ (.int .i64 0)) := Below.setCell (Below.drew (Below.setCell ((Below.alloc (Below.refl _ _) (Nat.le_refl _) _).trans (hb.mono (Nat.le_succ _))) (Nat.le_refl _) _)) (Nat.le_refl _) _
    generalize (((w1.setCell ⟨w.heap.size, 0, none⟩ (.int .i64 0)).drew).setCell ⟨w.heap.size, 0, none⟩ (.int .i64 0)) = wz at hs hB
    simp [Leaves, settle, results, Tryd.results20, go_sem, hs]
    exact hB
/-- 5.1, whichever way -/
theorem Ident_c (b : ByteArray) (w : World) (hM : Magic w) (hm : b.size ≤ maxLen) :
    Calls Tryd.prog 20 #[.string b] w fun r w' => r = .returned (.tuple #[.int .i64 (if identE b = 0 then cls b else 0 : Nat), .int .i64 (if identE b = 0 then ord b else 0), .int .i64 (identE b)]) ∧ Below w.heap.size w w' := by
  by_cases h : identE b = 0
  · refine (ident_ok b w hM hm h).mono fun r w' ⟨h1, h2⟩ => ⟨?_, h2⟩
    rw [if_pos h, if_pos h, h]; exact h1
  · refine (ident_no b w hM hm h).mono fun r w' ⟨h1, h2⟩ => ⟨?_, h2⟩
    rw [if_neg h, if_neg h]; exact h1
end Go.Proofs.YtkmehjikllilaaaDoor

-- elf.Header: contracts.
namespace Go.Proofs.YtkmehjikllilaaaDoor
open Go.ChangeShapes Go.WideShapes Go.ChangeAt Go.RowKit
set_option linter.unusedVariables false
set_option maxRecDepth 100000
theorem Magic.kept {w w' : World} (h : Magic w) (hb : Below w.heap.size w w') : Magic w' := by
  have h0 : 0 < w.heap.size := block_lt_of_cell h.1
  obtain ⟨m0, m1, m2, m3⟩ := h
  exact ⟨(hb.cell h0).trans m0, (hb.cell h0).trans m1, (hb.cell h0).trans m2, (hb.cell h0).trans m3⟩
theorem results_cell_cell_row {P : Program} {fn : Func} {p q : Tmp} {ty tz : TypeId} (h : fn.results = #[.cell p ty, .cell q tz]) (tmps : Array Value) (w : World) (g e : Nat) (t : TypeId) (cs : Array Value) (fr : Nat × Nat) (d : TypeDesc) (x : Value)
    (hp : tmps.getD p undef = .pointer (some ⟨g, 0, none⟩)) (hq : tmps.getD q undef = .pointer (some ⟨e, 0, none⟩)) (hg : w.heap[g]? = some (.cells cs t fr))
    (hu : P.underlying ty = some d) (hd : (match d with | .struct _ | .array _ _ => true | _ => false) = true) (hi : (P.info? ty).map (·.size) = some cs.size)
    (hx : (loadVar tz ⟨e, 0, none⟩).run P w = .ok x w) :
    (results fn tmps).run P w = .ok (.tuple #[.agg cs, x]) w := by
  have hp' : tmps[p]?.getD undef = .pointer (some ⟨g, 0, none⟩) := by simpa using hp
  have hq' : tmps[q]?.getD undef = .pointer (some ⟨e, 0, none⟩) := by simpa using hq
  simp [results, h, hp', hq', asAddr, run_loadVar_row w g t ty cs fr d hg hu hd hi, hx]
theorem load_errno {w : World} {e : Nat} {v : Value} (h : w.cell? ⟨e, 0, none⟩ = some v) : (loadVar 48 ⟨e, 0, none⟩).run Tryd.prog w = .ok v w := by
  have u := Tryd.underlying48
  have a := Tryd.isAgg48
  simp [go_sem, h]
/-- the two blocks of a face: its struct, its error -/
theorem face_rows {w w2 : World} (hb : Below ((w.alloc (.cells #[.int .i64 0, .int .i64 0, .int .i64 0, .int .i64 0, .int .u64 0, .int .i64 0, .int .i64 0, .int .i64 0] 56)).alloc (.cells #[.int .i64 0] 48)).heap.size ((w.alloc (.cells #[.int .i64 0, .int .i64 0, .int .i64 0, .int .i64 0, .int .u64 0, .int .i64 0, .int .i64 0, .int .i64 0] 56)).alloc (.cells #[.int .i64 0] 48)) w2) :
    w2.heap[w.heap.size]? = some (.cells #[.int .i64 0, .int .i64 0, .int .i64 0, .int .i64 0, .int .u64 0, .int .i64 0, .int .i64 0, .int .i64 0] 56 (0, 0)) ∧ w2.heap[w.heap.size + 1]? = some (.cells #[.int .i64 0] 48 (0, 0)) ∧ Below w.heap.size w w2 := by
  have s : ((w.alloc (.cells #[.int .i64 0, .int .i64 0, .int .i64 0, .int .i64 0, .int .u64 0, .int .i64 0, .int .i64 0, .int .i64 0] 56)).alloc (.cells #[.int .i64 0] 48)).heap.size = w.heap.size + 2 := by rw [size_alloc, size_alloc]
  rw [s] at hb
  refine ⟨(hb.block _ (by omega)).trans (heap_alloc2_old w _ _), (hb.block _ (by omega)).trans (heap_alloc2_new w _ _), ?_⟩
  exact (Below.alloc (Below.alloc (Below.refl _ _) (Nat.le_refl _) _) (by rw [size_alloc]; exact Nat.le_succ _) _).trans (hb.mono (by omega))
theorem face_magic {w : World} (hM : Magic w) : Magic ((w.alloc (.cells #[.int .i64 0, .int .i64 0, .int .i64 0, .int .i64 0, .int .u64 0, .int .i64 0, .int .i64 0, .int .i64 0] 56)).alloc (.cells #[.int .i64 0] 48)) := hM.kept (Below.alloc (Below.alloc (Below.refl _ _) (Nat.le_refl _) _) (by rw [size_alloc]; exact Nat.le_succ _) _)
end Go.Proofs.YtkmehjikllilaaaDoor

-- elf.Sections: contracts.
namespace Go.Proofs.YtkmehjikllilaaaDoor
open Go.ChangeShapes Go.WideShapes Go.ChangeAt Go.RowKit
set_option linter.unusedVariables false
set_option maxRecDepth 100000
theorem kept_cell {w w1 : World} {v : Value} {t : TypeId} (hb : Below (w.alloc (.cells #[v] t)).heap.size (w.alloc (.cells #[v] t)) w1) : w1.cell? ⟨w.heap.size, 0, none⟩ = some v := by
  rw [size_alloc] at hb
  rw [hb.cell (Nat.lt_succ_self _)]; exact cell_of_row _ _ 0 _ _ _ (heap_alloc_new w _)
theorem kept_frozen {w w1 : World} {v : Value} {t : TypeId} (hb : Below (w.alloc (.cells #[v] t)).heap.size (w.alloc (.cells #[v] t)) w1) : w1.frozen? ⟨w.heap.size, 0, none⟩ = false := by
  rw [size_alloc] at hb
  rw [hb.frozen (Nat.lt_succ_self _)]; exact frozen_of_row _ _ 0 _ _ (heap_alloc_new w _)
theorem kept_below {w w1 : World} {o : Obj} (hb : Below (w.alloc o).heap.size (w.alloc o) w1) : Below w.heap.size w w1 :=
  (Below.alloc (Below.refl _ _) (Nat.le_refl _) _).trans (hb.mono (by rw [size_alloc]; exact Nat.le_succ _))
theorem Sections_no (b : ByteArray) (e : Int) (w : World) (hM : Magic w) (hT : ∀ w : World, Magic w → Calls Tryd.prog 41 #[.string b] w fun r w' => r = .panicked (gives e) ∧ Below w.heap.size w w') :
    Calls Tryd.prog 21 #[.string b] w fun r w' => r = .returned (.tuple #[.slice none 0 0, .int .i64 e]) ∧ Below w.heap.size w w' := by
  have hmf : ∀ (fn : Fn) (first cap : Array Value) (w : World), (Instr.makeFunc fn first cap).run Tryd.prog w = .ok (.func fn first cap) w := fun _ _ _ _ => rfl
  have HT := Hid.mk' hT
  have hM1 : Magic (w.alloc (.cells #[.int .i64 0] 48)) := hM.kept (Below.alloc (Below.refl _ _) (Nat.le_refl _) _)
  clear hT
  go_enter_defers Tryd.func21, Tryd.ntmps21
  go_wp2_with (first | (go_at_call 41; refine (HT.out _ hM1).mono ?_; rintro r w1 ⟨rfl, hb⟩; have hc : w1.cell? ⟨w.heap.size, 0, none⟩ = some (.int .i64 0) := kept_cell hb; have hz : w1.frozen? ⟨w.heap.size, 0, none⟩ = false := kept_frozen hb))
  have hs : (w1.setCell ⟨w.heap.size, 0, none⟩ (.int .i64 e)).cell? ⟨w.heap.size, 0, none⟩ = some (.int .i64 e) := World.cell?_setCell_same _ _ _ hc
  have hB : Below w.heap.size w (w1.setCell ⟨w.heap.size, 0, none⟩ (.int .i64 e)) := Below.setCell (kept_below hb) (Nat.le_refl _) _
  refine leaves_cons (f := 40) (args := #[.pointer (some ⟨w.heap.size, 0, none⟩)]) (by simp) (by simp [go_sem]) ?_
  refine (catch_Sections ⟨w.heap.size, 0, none⟩ _ _ _ hc hz).mono ?_
  rintro r u' w'' ⟨rfl, rfl, rfl⟩
  generalize (w1.setCell ⟨w.heap.size, 0, none⟩ (.int .i64 e)) = wz at hs hB
  simp [Leaves, settle, results, Tryd.results21, go_sem, hs]
  exact hB
set_option maxHeartbeats 1000000 in
theorem Sections_ok (b ent : ByteArray) (n : Nat) (nm : Int) (fc : Array Value) (sv : Nat → Array Value) (w : World) (hM : Magic w)
    (hT : ∀ w : World, Magic w → Calls Tryd.prog 41 #[.string b] w fun r w' => ∃ k, r = .returned (.agg #[.pointer (some ⟨k, 0, none⟩), .string ent, .int .i64 n, .int .i64 nm]) ∧ w'.heap[k]? = some (.cells fc 102 (0, 0)) ∧ Below w.heap.size w w')
    (hS : ∀ (w : World) (k : Nat), w.heap[k]? = some (.cells fc 102 (0, 0)) → Calls Tryd.prog 42 #[.agg #[.pointer (some ⟨k, 0, none⟩), .string ent, .int .i64 n, .int .i64 nm]] w fun r w' => ∃ g, r = .returned (.slice (some ⟨g, 0, none⟩) n n) ∧ w.heap.size ≤ g ∧ w'.heap[g]? = some (.cells (flat sv n).toArray 60 (0, 0)) ∧ Below w.heap.size w w') :
    Calls Tryd.prog 21 #[.string b] w fun r w' => ∃ g, r = .returned (.tuple #[.slice (some ⟨g, 0, none⟩) n n, .int .i64 0]) ∧ w.heap.size ≤ g ∧ w'.heap[g]? = some (.cells (flat sv n).toArray 60 (0, 0)) ∧ Below w.heap.size w w' := by
  have hmf : ∀ (fn : Fn) (first cap : Array Value) (w : World), (Instr.makeFunc fn first cap).run Tryd.prog w = .ok (.func fn first cap) w := fun _ _ _ _ => rfl
  have HT := Hid.mk' hT
  have HS := Hid.mk' hS
  have hM1 : Magic (w.alloc (.cells #[.int .i64 0] 48)) := hM.kept (Below.alloc (Below.refl _ _) (Nat.le_refl _) _)
  clear hT hS
  go_enter_defers Tryd.func21, Tryd.ntmps21
  go_wp2_with (first
    | (go_at_call 41; refine (HT.out _ hM1).mono ?_; rintro r w1 ⟨k, rfl, hF, hb1⟩)
    | (go_at_call 42; refine (HS.out _ _ hF).mono ?_; rintro r w2 ⟨g, rfl, hg, hrow, hb2⟩; have hb := hb1.trans (hb2.mono hb1.size); have hc : w2.cell? ⟨w.heap.size, 0, none⟩ = some (.int .i64 0) := kept_cell hb; have hz : w2.frozen? ⟨w.heap.size, 0, none⟩ = false := kept_frozen hb))
  have hs1 := hb1.size
  rw [size_alloc] at hs1
  have hc2 : (w2.setCell ⟨w.heap.size, 0, none⟩ (.int .i64 0)).cell? ⟨w.heap.size, 0, none⟩ = some (.int .i64 0) := World.cell?_setCell_same _ _ _ hc
  have hz2 : (w2.setCell ⟨w.heap.size, 0, none⟩ (.int .i64 0)).frozen? ⟨w.heap.size, 0, none⟩ = false := (World.frozen?_setCell _ _ _ _).trans hz
  have hs : ((w2.setCell ⟨w.heap.size, 0, none⟩ (.int .i64 0)).setCell ⟨w.heap.size, 0, none⟩ (.int .i64 0)).cell? ⟨w.heap.size, 0, none⟩ = some (.int .i64 0) := World.cell?_setCell_same _ _ _ hc2
  have hB : Below w.heap.size w ((w2.setCell ⟨w.heap.size, 0, none⟩ (.int .i64 0)).setCell ⟨w.heap.size, 0, none⟩ (.int .i64 0)) := Below.setCell (Below.setCell (kept_below hb) (Nat.le_refl _) _) (Nat.le_refl _) _
  have hr : ((w2.setCell ⟨w.heap.size, 0, none⟩ (.int .i64 0)).setCell ⟨w.heap.size, 0, none⟩ (.int .i64 0)).heap[g]? = some (.cells (flat sv n).toArray 60 (0, 0)) := (heap_setCell_other _ _ _ _ (by simp; omega)).trans ((heap_setCell_other _ _ _ _ (by simp; omega)).trans hrow)
  refine leaves_cons (f := 40) (args := #[.pointer (some ⟨w.heap.size, 0, none⟩)]) (by simp) (by simp [go_sem]) ?_
  refine (idle_Sections ⟨w.heap.size, 0, none⟩ _ _ hc2 hz2).mono ?_
  rintro r u' w'' ⟨rfl, rfl, rfl⟩
  generalize ((w2.setCell ⟨w.heap.size, 0, none⟩ (.int .i64 0)).setCell ⟨w.heap.size, 0, none⟩ (.int .i64 0)) = wz at hs hB hr
  have hgw : w.heap.size ≤ g := by omega
  simp [Leaves, settle, results, Tryd.results21, go_sem, hs]
  exact ⟨hgw, hr, hB⟩
end Go.Proofs.YtkmehjikllilaaaDoor

-- elf: the table found whole: contract.
namespace Go.Proofs.YtkmehjikllilaaaDoor
open Go.ChangeShapes Go.WideShapes Go.ChangeAt Go.RowKit
set_option linter.unusedVariables false
set_option maxRecDepth 100000
set_option maxHeartbeats 1000000 in
theorem find_ok (b : ByteArray) (w : World) (hM : Magic w) (hm : b.size ≤ maxLen) (h0 h1 h2 h3 h6 h7 : Int) (so L n : Nat) (fc : Array Value) (f14 : fc[14]? = some (.int .u64 L)) (hso : so ≠ 0) (hL : 0 < L ∧ L ≤ 64) (hn : n ≤ b.size / L) (hin : so ≤ b.size ∧ n * L ≤ b.size - so)
    (hI : ∀ w : World, Magic w → Calls Tryd.prog 39 #[.string b] w fun r w' => ∃ k, r = .returned (.pointer (some ⟨k, 0, none⟩)) ∧ Below w.heap.size w w' ∧ w'.heap[k]? = some (.cells fc 102 (0, 0)))
    (hH : ∀ (w : World) (k : Nat), w.heap[k]? = some (.cells fc 102 (0, 0)) → Calls Tryd.prog 50 #[.pointer (some ⟨k, 0, none⟩)] w fun r w' => r = .returned (.agg #[.int .i64 h0, .int .i64 h1, .int .i64 h2, .int .i64 h3, .int .u64 (so : Int), .int .i64 (L : Int), .int .i64 h6, .int .i64 h7]) ∧ Below w.heap.size w w')
    (hC : ∀ (w : World) (k : Nat), w.heap[k]? = some (.cells fc 102 (0, 0)) → Calls Tryd.prog 51 #[.pointer (some ⟨k, 0, none⟩), .agg #[.int .i64 h0, .int .i64 h1, .int .i64 h2, .int .i64 h3, .int .u64 (so : Int), .int .i64 (L : Int), .int .i64 h6, .int .i64 h7]] w fun r w' => r = .returned (.int .u64 n) ∧ Below w.heap.size w w') :
    Calls Tryd.prog 41 #[.string b] w fun r w' => ∃ k, r = .returned (.agg #[.pointer (some ⟨k, 0, none⟩), .string (b.extract so (so + n * L)), .int .i64 n, .int .i64 h7]) ∧ w'.heap[k]? = some (.cells fc 102 (0, 0)) ∧ Below w.heap.size w w' := by
  have HI := Hid.mk' hI
  have HH := Hid.mk' hH
  have HC := Hid.mk' hC
  have hs0 : ((so : Int) == 0) = false := beq_eq_false_iff_ne.2 (by omega)
  have hM1 : Magic (w.alloc (.cells #[.pointer none, .string ⟨#[]⟩, .int .i64 0, .int .i64 0] 104)) := hM.kept (Below.alloc (Below.refl _ _) (Nat.le_refl _) _)
  clear hI hH hC
  go_enter Tryd.func41, Tryd.ntmps41
  go_wp2_with (first
    | (go_at_call 39; refine (HI.out _ hM1).mono ?_; rintro r w1 ⟨k, rfl, hb1, hF⟩)
    | (go_at_call 50; refine (HH.out _ _ hF).mono ?_; rintro r w2 ⟨rfl, hb2⟩))
  have hk : k < w1.heap.size := (Array.getElem?_eq_some_iff.1 hF).1
  have hk2 : k < w2.heap.size := Nat.lt_of_lt_of_le hk hb2.size
  have hF2 : w2.heap[k]? = some (.cells fc 102 (0, 0)) := (hb2.block k hk).trans hF
  have hFW : ((w2.alloc (.cells #[.int .i64 h0, .int .i64 h1, .int .i64 h2, .int .i64 h3, .int .u64 (so : Int), .int .i64 (L : Int), .int .i64 h6, .int .i64 h7] 56)).alloc (.cells #[.pointer (some ⟨k, 0, none⟩), .string ⟨#[]⟩, .int .i64 0, .int .i64 h7] 104)).heap[k]? = some (.cells fc 102 (0, 0)) := (Below.heap_alloc _ _ k (by rw [size_alloc]; omega)).trans ((Below.heap_alloc w2 _ k hk2).trans hF2)
  have hRh : ((w2.alloc (.cells #[.int .i64 h0, .int .i64 h1, .int .i64 h2, .int .i64 h3, .int .u64 (so : Int), .int .i64 (L : Int), .int .i64 h6, .int .i64 h7] 56)).alloc (.cells #[.pointer (some ⟨k, 0, none⟩), .string ⟨#[]⟩, .int .i64 0, .int .i64 h7] 104)).heap[w2.heap.size]? = some (.cells #[.int .i64 h0, .int .i64 h1, .int .i64 h2, .int .i64 h3, .int .u64 (so : Int), .int .i64 (L : Int), .int .i64 h6, .int .i64 h7] 56 (0, 0)) := heap_alloc2_old w2 _ _
  have hRt : ((w2.alloc (.cells #[.int .i64 h0, .int .i64 h1, .int .i64 h2, .int .i64 h3, .int .u64 (so : Int), .int .i64 (L : Int), .int .i64 h6, .int .i64 h7] 56)).alloc (.cells #[.pointer (some ⟨k, 0, none⟩), .string ⟨#[]⟩, .int .i64 0, .int .i64 h7] 104)).heap[w2.heap.size + 1]? = some (.cells #[.pointer (some ⟨k, 0, none⟩), .string ⟨#[]⟩, .int .i64 0, .int .i64 h7] 104 (0, 0)) := heap_alloc2_new w2 _ _
  have c5 : ((w2.alloc (.cells #[.int .i64 h0, .int .i64 h1, .int .i64 h2, .int .i64 h3, .int .u64 (so : Int), .int .i64 (L : Int), .int .i64 h6, .int .i64 h7] 56)).alloc (.cells #[.pointer (some ⟨k, 0, none⟩), .string ⟨#[]⟩, .int .i64 0, .int .i64 h7] 104)).cell? ⟨w2.heap.size, 5, none⟩ = some (.int .i64 (L : Int)) := cell_of_row _ _ 5 _ _ _ hRh
  have c14 : ((w2.alloc (.cells #[.int .i64 h0, .int .i64 h1, .int .i64 h2, .int .i64 h3, .int .u64 (so : Int), .int .i64 (L : Int), .int .i64 h6, .int .i64 h7] 56)).alloc (.cells #[.pointer (some ⟨k, 0, none⟩), .string ⟨#[]⟩, .int .i64 0, .int .i64 h7] 104)).cell? ⟨k, 14, none⟩ = some (.int .u64 L) := (cell_of_row _ _ _ _ _ _ hFW).trans f14
  have hwL : IntKind.u64.wrap (L : Int) = (L : Int) := by rw [IntKind.wrap_u64]; omega
  have hLL : ((L : Int) == (L : Int)) = true := beq_self_eq_true _
  have hB2 : Below w.heap.size w ((w2.alloc (.cells #[.int .i64 h0, .int .i64 h1, .int .i64 h2, .int .i64 h3, .int .u64 (so : Int), .int .i64 (L : Int), .int .i64 h6, .int .i64 h7] 56)).alloc (.cells #[.pointer (some ⟨k, 0, none⟩), .string ⟨#[]⟩, .int .i64 0, .int .i64 h7] 104)) := by
    have hb := Below.alloc (Below.refl w.heap.size w) (Nat.le_refl _) (.cells #[.pointer none, .string ⟨#[]⟩, .int .i64 0, .int .i64 0] 104)
    have hs1 := hb1.size
    rw [size_alloc] at hs1
    have hb' : Below w.heap.size w w2 := (hb.trans (hb1.mono (by rw [size_alloc]; exact Nat.le_succ _))).trans (hb2.mono (by omega))
    exact Below.alloc (Below.alloc hb' hb'.size _) (by rw [size_alloc]; have := hb'.size; omega) _
  have hR0 : ((w2.alloc (.cells #[.int .i64 h0, .int .i64 h1, .int .i64 h2, .int .i64 h3, .int .u64 (so : Int), .int .i64 (L : Int), .int .i64 h6, .int .i64 h7] 56)).alloc (.cells #[.pointer (some ⟨k, 0, none⟩), .string ⟨#[]⟩, .int .i64 0, .int .i64 h7] 104)).heap[w.heap.size]? = some (.cells #[.pointer none, .string ⟨#[]⟩, .int .i64 0, .int .i64 0] 104 (0, 0)) := by
    have hs1 := hb1.size
    rw [size_alloc] at hs1
    have hs2 := hb2.size
    refine (Below.heap_alloc _ _ _ (by rw [size_alloc]; omega)).trans ((Below.heap_alloc w2 _ _ (by omega)).trans ((hb2.block _ (by omega)).trans ((hb1.block _ (by rw [size_alloc]; omega)).trans (heap_alloc_new w _))))
  have hSZ : ((w2.alloc (.cells #[.int .i64 h0, .int .i64 h1, .int .i64 h2, .int .i64 h3, .int .u64 (so : Int), .int .i64 (L : Int), .int .i64 h6, .int .i64 h7] 56)).alloc (.cells #[.pointer (some ⟨k, 0, none⟩), .string ⟨#[]⟩, .int .i64 0, .int .i64 h7] 104)).heap.size = w2.heap.size + 2 := by rw [size_alloc, size_alloc]
  have hkw : k ≠ w.heap.size := by
    intro e
    rw [e, (hb1.block w.heap.size (by rw [size_alloc]; omega)).trans (heap_alloc_new w _)] at hF
    cases hF
  have hwlt : w.heap.size < w2.heap.size := by
    have hs1 := hb1.size
    rw [size_alloc] at hs1
    have hs2 := hb2.size
    omega
  clear hF hb1 hb2 hM hM1 HI HH hk hF2
  generalize ((w2.alloc (.cells #[.int .i64 h0, .int .i64 h1, .int .i64 h2, .int .i64 h3, .int .u64 (so : Int), .int .i64 (L : Int), .int .i64 h6, .int .i64 h7] 56)).alloc (.cells #[.pointer (some ⟨k, 0, none⟩), .string ⟨#[]⟩, .int .i64 0, .int .i64 h7] 104)) = W at hFW hRh hRt c5 c14 hB2 hR0 hSZ ⊢
  go_quiet ((go_at_call 47; exact Calls.quiet_of_same (require_ok _ _ _ (by first | exact hLL | rfl))))
  clear c5
  have hBq : Below w.heap.size w (W.drewN nq) := below_drewN hB2 _
  have hSq : (W.drewN nq).heap.size = w2.heap.size + 2 := hSZ
  have qF : (W.drewN nq).heap[k]? = some (.cells fc 102 (0, 0)) := hFW
  have qh : (W.drewN nq).heap[w2.heap.size]? = some (.cells #[.int .i64 h0, .int .i64 h1, .int .i64 h2, .int .i64 h3, .int .u64 (so : Int), .int .i64 (L : Int), .int .i64 h6, .int .i64 h7] 56 (0, 0)) := hRh
  have qt : (W.drewN nq).heap[w2.heap.size + 1]? = some (.cells #[.pointer (some ⟨k, 0, none⟩), .string ⟨#[]⟩, .int .i64 0, .int .i64 h7] 104 (0, 0)) := hRt
  have q0 : (W.drewN nq).heap[w.heap.size]? = some (.cells #[.pointer none, .string ⟨#[]⟩, .int .i64 0, .int .i64 0] 104 (0, 0)) := hR0
  clear hFW hRh hRt c14 hB2 hR0 hSZ
  generalize W.drewN nq = W' at hBq hSq qF qh qt q0 ⊢
  clear W
  have KEEP : Hid (∀ w3 : World, Below W'.heap.size W' w3 → w3.heap[k]? = some (.cells fc 102 (0, 0)) ∧ w3.heap[w2.heap.size]? = some (.cells #[.int .i64 h0, .int .i64 h1, .int .i64 h2, .int .i64 h3, .int .u64 (so : Int), .int .i64 (L : Int), .int .i64 h6, .int .i64 h7] 56 (0, 0)) ∧ w3.heap[w2.heap.size + 1]? = some (.cells #[.pointer (some ⟨k, 0, none⟩), .string ⟨#[]⟩, .int .i64 0, .int .i64 h7] 104 (0, 0)) ∧ w3.heap[w.heap.size]? = some (.cells #[.pointer none, .string ⟨#[]⟩, .int .i64 0, .int .i64 0] 104 (0, 0)) ∧ Below w.heap.size w w3 ∧ w3.cell? ⟨k, 14, none⟩ = some (.int .u64 L) ∧ w3.cell? ⟨w2.heap.size, 4, none⟩ = some (.int .u64 (so : Int))) := by
    intro w3 hb
    rw [hSq] at hb
    have r1 := (hb.block k (by omega)).trans qF
    have r2 := (hb.block w2.heap.size (by omega)).trans qh
    refine ⟨r1, r2, (hb.block _ (by omega)).trans qt, (hb.block _ (by omega)).trans q0, hBq.trans (hb.mono (by omega)), (cell_of_row _ _ _ _ _ _ r1).trans f14, cell_of_row _ _ 4 _ _ _ r2⟩
  have hLne : ¬ (L : Int) = 0 := by omega
  have hnl : ((n * L : Nat) : Int) = (n : Int) * (L : Int) := Int.natCast_mul n L
  have hwn : IntKind.i64.wrap (n : Int) = (n : Int) := by rw [IntKind.wrap_i64]; have := Nat.div_le_self b.size L; unfold maxLen at hm; omega
  have hwn2 : wrap64 (n : Int) = (n : Int) := by have h := hwn; rw [IntKind.wrap_i64] at h; unfold wrap64; exact h
  have hmw : IntKind.u64.wrap ((n : Int) * (L : Int)) = (n : Int) * (L : Int) := by rw [IntKind.wrap_u64]; unfold maxLen at hm; omega
  have HP : Hid (∀ wx, Calls Tryd.prog 52 #[.string b, .int .u64 (so : Int), .int .u64 ((n : Int) * (L : Int))] wx fun r w' => r = .returned (.string (b.extract so (so + n * L))) ∧ w' = wx) := fun wx => by
    have h := piece_ok b so (n * L) wx hin.1 hin.2 hm
    rw [hnl] at h
    exact h
  have hm2 : (b.size : Int) ≤ 9223372036854775807 := by unfold maxLen at hm; omega
  have hwb : IntKind.u64.wrap (b.size : Int) = (b.size : Int) := by rw [IntKind.wrap_u64]; omega
  have HCM : Hid (decide ((n : Int) ≤ IntKind.u64.wrap ((b.size : Int) / (L : Int))) = true) := by
    show decide _ = true
    have h1 : ((b.size : Int) / (L : Int)) = ((b.size / L : Nat) : Int) := (Int.natCast_ediv b.size L).symm
    have h2 : b.size / L ≤ b.size := Nat.div_le_self _ _
    have h3 : IntKind.u64.wrap ((b.size / L : Nat) : Int) = ((b.size / L : Nat) : Int) := by
      generalize b.size / L = q at h2
      rw [IntKind.wrap_u64]
      omega
    rw [h1, h3]
    exact decide_eq_true (Int.ofNat_le.2 hn)
  go_wp2_with (first
    | (refine wpList_load_row rfl _ _ rfl w2.heap.size rfl _ _ _ _ qh Tryd.underlying56 rfl (by kernel_rfl) ?_)
    | (go_at_call 51; refine (HC.out _ _ qF).mono ?_; rintro r w3 ⟨rfl, hb3⟩; obtain ⟨pF, ph, pt, p0, hB3, c14, g4⟩ := KEEP.out w3 hb3)
    | (go_at_call 47; refine (require_ok _ _ _ HCM.out).mono ?_; rintro r w4 ⟨rfl, hw⟩; subst w4))
  have t1 : w3.cell? ⟨w2.heap.size + 1, 1, none⟩ = some (.string ⟨#[]⟩) := cell_of_row _ _ 1 _ _ _ pt
  have y1 : w3.frozen? ⟨w2.heap.size + 1, 1, none⟩ = false := frozen_of_row _ _ 1 _ _ pt
  clear hb3 qF qh qt q0 KEEP HCM
  go_region_with (go_at_call 52; refine (HP.out _).mono ?_; rintro r w4 ⟨rfl, hw4⟩; subst w4)
  all_goals
    have u1 : ((w3.setCell ⟨w2.heap.size + 1, 1, none⟩ (.string (b.extract so (so + n * L)))).drew).heap[w2.heap.size + 1]? = some (.cells #[.pointer (some ⟨k, 0, none⟩), .string (b.extract so (so + n * L)), .int .i64 0, .int .i64 h7] 104 (0, 0)) := (heap_setCell_same w3 _ 1 _ _ _ pt).trans rfl
    have u0 : ((w3.setCell ⟨w2.heap.size + 1, 1, none⟩ (.string (b.extract so (so + n * L)))).drew).heap[w.heap.size]? = some (.cells #[.pointer none, .string ⟨#[]⟩, .int .i64 0, .int .i64 0] 104 (0, 0)) := (heap_setCell_other w3 _ _ _ (by simp; omega)).trans p0
    have uF : ((w3.setCell ⟨w2.heap.size + 1, 1, none⟩ (.string (b.extract so (so + n * L)))).drew).heap[k]? = some (.cells fc 102 (0, 0)) := (heap_setCell_other w3 _ _ _ (by simp; omega)).trans pF
    have uB : Below w.heap.size w ((w3.setCell ⟨w2.heap.size + 1, 1, none⟩ (.string (b.extract so (so + n * L)))).drew) := Below.drew (Below.setCell hB3 (by simp; omega) _)
    generalize ((w3.setCell ⟨w2.heap.size + 1, 1, none⟩ (.string (b.extract so (so + n * L)))).drew) = w5 at u1 u0 uF uB ⊢
    have t2 : w5.cell? ⟨w2.heap.size + 1, 2, none⟩ = some (.int .i64 0) := cell_of_row _ _ 2 _ _ _ u1
    have y2 : w5.frozen? ⟨w2.heap.size + 1, 2, none⟩ = false := frozen_of_row _ _ 2 _ _ u1
    have v1 : (w5.setCell ⟨w2.heap.size + 1, 2, none⟩ (.int .i64 n)).heap[w2.heap.size + 1]? = some (.cells #[.pointer (some ⟨k, 0, none⟩), .string (b.extract so (so + n * L)), .int .i64 n, .int .i64 h7] 104 (0, 0)) := (heap_setCell_same w5 _ 2 _ _ _ u1).trans rfl
    have v0 : (w5.setCell ⟨w2.heap.size + 1, 2, none⟩ (.int .i64 n)).heap[w.heap.size]? = some (.cells #[.pointer none, .string ⟨#[]⟩, .int .i64 0, .int .i64 0] 104 (0, 0)) := (heap_setCell_other w5 _ _ _ (by simp; omega)).trans u0
    have vF : (w5.setCell ⟨w2.heap.size + 1, 2, none⟩ (.int .i64 n)).heap[k]? = some (.cells fc 102 (0, 0)) := (heap_setCell_other w5 _ _ _ (by simp; omega)).trans uF
    have vB : Below w.heap.size w (w5.setCell ⟨w2.heap.size + 1, 2, none⟩ (.int .i64 n)) := Below.setCell uB (by simp; omega) _
    clear pF ph pt p0 hB3 c14 g4 t1 y1 u1 u0 uF uB HP HC
    go_wp2_with (first
      | (refine wpList_load_row rfl _ _ rfl (w2.heap.size + 1) rfl _ _ _ _ v1 Tryd.underlying104 rfl (by kernel_rfl) ?_)
      | (refine wpList_store_row rfl _ _ _ rfl w.heap.size #[.pointer (some ⟨k, 0, none⟩), .string (b.extract so (so + n * L)), .int .i64 n, .int .i64 h7] rfl rfl _ _ v0 rfl (by kernel_rfl) (by kernel_rfl) ?_))
    exact bodyPost_ret (results_cell_row rfl _ _ w.heap.size _ _ _ _ rfl (setRow_heap _ _ _ _ _ _ v0) Tryd.underlying104 rfl (by kernel_rfl)) rfl ⟨k, rfl, (setRow_other _ _ _ _ (by omega)).trans vF, below_setRow vB (Nat.le_refl _) _⟩
end Go.Proofs.YtkmehjikllilaaaDoor

-- elf: the table where there is none, or where the file is refused: contracts.
namespace Go.Proofs.YtkmehjikllilaaaDoor
open Go.ChangeShapes Go.WideShapes Go.ChangeAt Go.RowKit
set_option linter.unusedVariables false
set_option maxRecDepth 100000
theorem row_two {w w1 w2 : World} {Z : Array Value} {t : TypeId} {A B : Obj} (hb1 : Below (w.alloc (.cells Z t)).heap.size (w.alloc (.cells Z t)) w1) (hb2 : Below w1.heap.size w1 w2) : ((w2.alloc A).alloc B).heap[w.heap.size]? = some (.cells Z t (0, 0)) := by
  have hs1 := hb1.size
  rw [size_alloc] at hs1
  have hs2 := hb2.size
  exact (Below.heap_alloc _ _ _ (by rw [size_alloc]; omega)).trans ((Below.heap_alloc w2 _ _ (by omega)).trans ((hb2.block _ (by omega)).trans ((hb1.block _ (by rw [size_alloc]; omega)).trans (heap_alloc_new w _))))
set_option maxHeartbeats 1000000 in
theorem find_zero (b : ByteArray) (w : World) (hM : Magic w) (h0 h1 h2 h3 h5 h6 h7 : Int) (fc : Array Value)
    (hI : ∀ w : World, Magic w → Calls Tryd.prog 39 #[.string b] w fun r w' => ∃ k, r = .returned (.pointer (some ⟨k, 0, none⟩)) ∧ Below w.heap.size w w' ∧ w'.heap[k]? = some (.cells fc 102 (0, 0)))
    (hH : ∀ (w : World) (k : Nat), w.heap[k]? = some (.cells fc 102 (0, 0)) → Calls Tryd.prog 50 #[.pointer (some ⟨k, 0, none⟩)] w fun r w' => r = .returned (.agg #[.int .i64 h0, .int .i64 h1, .int .i64 h2, .int .i64 h3, .int .u64 0, .int .i64 h5, .int .i64 h6, .int .i64 h7]) ∧ Below w.heap.size w w') :
    Calls Tryd.prog 41 #[.string b] w fun r w' => ∃ k, r = .returned (.agg #[.pointer (some ⟨k, 0, none⟩), .string ⟨#[]⟩, .int .i64 0, .int .i64 h7]) ∧ w'.heap[k]? = some (.cells fc 102 (0, 0)) ∧ Below w.heap.size w w' := by
  have HI := Hid.mk' hI
  have HH := Hid.mk' hH
  have hM1 : Magic (w.alloc (.cells #[.pointer none, .string ⟨#[]⟩, .int .i64 0, .int .i64 0] 104)) := hM.kept (Below.alloc (Below.refl _ _) (Nat.le_refl _) _)
  clear hI hH
  go_enter Tryd.func41, Tryd.ntmps41
  go_wp2_with (first
    | (go_at_call 39; refine (HI.out _ hM1).mono ?_; rintro r w1 ⟨k, rfl, hb1, hF⟩)
    | (go_at_call 50; refine (HH.out _ _ hF).mono ?_; rintro r w2 ⟨rfl, hb2⟩; have v0 : ((w2.alloc (.cells #[.int .i64 h0, .int .i64 h1, .int .i64 h2, .int .i64 h3, .int .u64 0, .int .i64 h5, .int .i64 h6, .int .i64 h7] 56)).alloc (.cells #[.pointer (some ⟨k, 0, none⟩), .string ⟨#[]⟩, .int .i64 0, .int .i64 h7] 104)).heap[w.heap.size]? = some (.cells #[.pointer none, .string ⟨#[]⟩, .int .i64 0, .int .i64 0] 104 (0, 0)) := row_two hb1 hb2)
    | (refine wpList_store_row rfl _ _ _ rfl w.heap.size #[.pointer (some ⟨k, 0, none⟩), .string ⟨#[]⟩, .int .i64 0, .int .i64 h7] rfl rfl _ _ v0 rfl (by kernel_rfl) (by kernel_rfl) ?_))
  have hk : k < w1.heap.size := (Array.getElem?_eq_some_iff.1 hF).1
  have hk2 : k < w2.heap.size := Nat.lt_of_lt_of_le hk hb2.size
  have hF2 : w2.heap[k]? = some (.cells fc 102 (0, 0)) := (hb2.block k hk).trans hF
  have hFW : ((w2.alloc (.cells #[.int .i64 h0, .int .i64 h1, .int .i64 h2, .int .i64 h3, .int .u64 0, .int .i64 h5, .int .i64 h6, .int .i64 h7] 56)).alloc (.cells #[.pointer (some ⟨k, 0, none⟩), .string ⟨#[]⟩, .int .i64 0, .int .i64 h7] 104)).heap[k]? = some (.cells fc 102 (0, 0)) := (Below.heap_alloc _ _ k (by rw [size_alloc]; omega)).trans ((Below.heap_alloc w2 _ k hk2).trans hF2)
  have hs1 := hb1.size
  rw [size_alloc] at hs1
  have hkw : k ≠ w.heap.size := by
    intro e
    rw [e, (hb1.block w.heap.size (by rw [size_alloc]; omega)).trans (heap_alloc_new w _)] at hF
    cases hF
  have hb' : Below w.heap.size w w2 := ((Below.alloc (Below.refl w.heap.size w) (Nat.le_refl _) _).trans (hb1.mono (by rw [size_alloc]; exact Nat.le_succ _))).trans (hb2.mono (by omega))
  have vB : Below w.heap.size w ((w2.alloc (.cells #[.int .i64 h0, .int .i64 h1, .int .i64 h2, .int .i64 h3, .int .u64 0, .int .i64 h5, .int .i64 h6, .int .i64 h7] 56)).alloc (.cells #[.pointer (some ⟨k, 0, none⟩), .string ⟨#[]⟩, .int .i64 0, .int .i64 h7] 104)) := Below.alloc (Below.alloc hb' hb'.size _) (by rw [size_alloc]; have := hb'.size; omega) _
  exact bodyPost_ret (results_cell_row rfl _ _ w.heap.size _ _ _ _ rfl (setRow_heap _ _ _ _ _ _ v0) Tryd.underlying104 rfl (by kernel_rfl)) rfl ⟨k, rfl, (setRow_other _ _ _ _ (by omega)).trans hFW, below_setRow vB (Nat.le_refl _) _⟩
theorem find_refused (b : ByteArray) (e : Int) (w : World) (hM : Magic w)
    (hI : ∀ w : World, Magic w → Calls Tryd.prog 39 #[.string b] w fun r w' => r = .panicked (gives e) ∧ Below w.heap.size w w') :
    Calls Tryd.prog 41 #[.string b] w fun r w' => r = .panicked (gives e) ∧ Below w.heap.size w w' := by
  have HI := Hid.mk' hI
  have hM1 : Magic (w.alloc (.cells #[.pointer none, .string ⟨#[]⟩, .int .i64 0, .int .i64 0] 104)) := hM.kept (Below.alloc (Below.refl _ _) (Nat.le_refl _) _)
  clear hI
  go_enter Tryd.func41, Tryd.ntmps41
  go_wp2_with (first
    | (go_at_call 39; refine (HI.out _ hM1).mono ?_; rintro r w1 ⟨rfl, hb1⟩))
  exact ⟨rfl, rfl, (Below.alloc (Below.refl w.heap.size w) (Nat.le_refl _) _).trans (hb1.mono (by rw [size_alloc]; exact Nat.le_succ _))⟩
theorem find_headless (b : ByteArray) (e : Int) (w : World) (hM : Magic w) (fc : Array Value)
    (hI : ∀ w : World, Magic w → Calls Tryd.prog 39 #[.string b] w fun r w' => ∃ k, r = .returned (.pointer (some ⟨k, 0, none⟩)) ∧ Below w.heap.size w w' ∧ w'.heap[k]? = some (.cells fc 102 (0, 0)))
    (hH : ∀ (w : World) (k : Nat), w.heap[k]? = some (.cells fc 102 (0, 0)) → Calls Tryd.prog 50 #[.pointer (some ⟨k, 0, none⟩)] w fun r w' => r = .panicked (gives e) ∧ Below w.heap.size w w') :
    Calls Tryd.prog 41 #[.string b] w fun r w' => r = .panicked (gives e) ∧ Below w.heap.size w w' := by
  have HI := Hid.mk' hI
  have HH := Hid.mk' hH
  have hM1 : Magic (w.alloc (.cells #[.pointer none, .string ⟨#[]⟩, .int .i64 0, .int .i64 0] 104)) := hM.kept (Below.alloc (Below.refl _ _) (Nat.le_refl _) _)
  clear hI hH
  go_enter Tryd.func41, Tryd.ntmps41
  go_wp2_with (first
    | (go_at_call 39; refine (HI.out _ hM1).mono ?_; rintro r w1 ⟨k, rfl, hb1, hF⟩)
    | (go_at_call 50; refine (HH.out _ _ hF).mono ?_; rintro r w2 ⟨rfl, hb2⟩))
  have hs1 := hb1.size
  rw [size_alloc] at hs1
  exact ⟨rfl, rfl, ((Below.alloc (Below.refl w.heap.size w) (Nat.le_refl _) _).trans (hb1.mono (by rw [size_alloc]; exact Nat.le_succ _))).trans (hb2.mono (by omega))⟩
end Go.Proofs.YtkmehjikllilaaaDoor
