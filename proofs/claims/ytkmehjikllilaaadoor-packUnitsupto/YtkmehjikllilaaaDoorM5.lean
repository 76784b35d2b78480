import Derived.Test.YtkmehjikllilaaaDoorM4
import Derived.Test.YtkmehjikllilaaaDoorM1
import Derived.Test.YtkmehjikllilaaaDoorT64
import Derived.OwnWalk
import Derived.LoopTactic
import Derived.Test.YtkmehjikllilaaaDoorM2
import Derived.Test.YtkmehjikllilaaaDoorR2
import Derived.Test.YtkmehjikllilaaaDoorT2
import Derived.Test.YtkmehjikllilaaaDoorKQ

-- syms: opening a symbol table by the plain words, class 64: contract.
namespace Go.Proofs.YtkmehjikllilaaaDoor
open Go.ChangeShapes Go.WideShapes Go.ChangeAt Go.RowKit
set_option linter.unusedVariables false
set_option maxRecDepth 100000
/-- what open answers -/
def Opened64 (b : ByteArray) (k : Nat) (o : Int) (n : Nat) (s : Nat → Sec) (x : Sec) (w : World) (r : Ending) (w' : World) : Prop :=
  Kq k w w' ∧ ((∃ e, e ≠ 0 ∧ openOf b 64 n s x = .error e ∧ r = .returned (.int .i64 e)) ∨ (∃ t names, openOf b 64 n s x = .ok (t, names) ∧ r = .returned (.int .i64 0) ∧ w'.heap[k]? = some (.cells (tabCells col64 o t names) 72 (0, 0))))
theorem opened_64 (b t0 n0 : ByteArray) (k B n : Nat) (o : Int) (v : Value) (s : Nat → Sec) (x : Sec) (w : World) (hF : w.heap[k]? = some (.cells (tabCells col64 o t0 n0) 72 (0, 0))) (hS : SecsIn B w v n s) (hn : n ≤ 26214) (hB : SecB s) (hx : x.off < 18446744073709551616 ∧ x.sz < 18446744073709551616) (hb : b.size ≤ 1048576) :
    Calls Tryd.prog 23 #[.pointer (some ⟨k, 0, none⟩), .string b, v, .agg x.v] w (Opened64 b k o n s x w) := by
  have hm : b.size ≤ maxLen := by unfold maxLen; omega
  obtain ⟨x0, x1, x2, x3, x4, x5, x6, x7⟩ := x
  by_cases h7 : x7 = 24
  case neg =>
    refine (open_55a_64 b t0 n0 k o v x0 x1 x2 x3 x4 x5 x6 x7 w hF h7).mono fun r w' ⟨h1, h2⟩ => ⟨h2, Or.inl ⟨55, by decide, ?_, h1⟩⟩
    unfold openOf
    rw [if_neg]
    intro h
    exact h7 h.1
  subst h7
  by_cases h6 : x6 % 24 = 0
  case neg =>
    refine (open_55b_64 b t0 n0 k o v x0 x1 x2 x3 x4 x5 x6 w hF hx.2 h6).mono fun r w' ⟨h1, h2⟩ => ⟨h2, Or.inl ⟨55, by decide, ?_, h1⟩⟩
    unfold openOf
    rw [if_neg]
    intro h
    exact h6 h.2
  have hop : openOf b 64 n s ⟨x0, x1, x2, x3, x4, x5, x6, 24⟩ = match cont b ⟨x0, x1, x2, x3, x4, x5, x6, 24⟩ with
    | none => .error 54
    | some t => if x3 < n ∧ (s x3).ty = 3 then
        match cont b (s x3) with
        | none => .error 54
        | some names => .ok (t, names)
      else .error 60 := by
    unfold openOf
    exact if_pos ⟨rfl, h6⟩
  cases hc : cont b ⟨x0, x1, x2, x3, x4, x5, x6, 24⟩ with
  | none =>
    refine (open_54a_64 b t0 n0 k o v x0 x1 x2 x3 x4 x5 x6 w hF hx.2 h6 (fun w => pcont_no b _ hm hx hc w)).mono fun r w' ⟨h1, h2⟩ => ⟨h2, Or.inl ⟨54, by decide, ?_, h1⟩⟩
    rw [hop, hc]
  | some t =>
    rw [hc] at hop
    obtain ⟨ao, cp, rfl, hr⟩ := hS
    by_cases hl : x3 < n
    case neg =>
      refine (open_60a_64 b t0 n0 t k o n cp ao x0 x1 x2 x3 x4 x5 x6 w hF hx.2 h6 (by omega) (fun w => pcont_ok b t _ hm hc w)).mono fun r w' ⟨h1, h2⟩ => ⟨h2, Or.inl ⟨60, by decide, ?_, h1⟩⟩
      rw [hop]
      exact if_neg (fun h => hl h.1)
    obtain ⟨g, cur, rfl, _, hg, hcur⟩ := hr (by omega)
    have hgk : g ≠ k := by
      rintro rfl
      rw [hg] at hF
      simp only [Option.some.injEq, Obj.cells.injEq] at hF
      exact absurd hF.2.1 (by decide)
    have hy := hcur x3
    have hby := hB x3
    cases hsx : s x3 with
    | mk y0 y1 y2 y3 y4 y5 y6 y7 =>
      rw [hsx] at hy hby hop
      by_cases h3 : y1 = 3
      case neg =>
        refine (open_60b_64 b t0 n0 t k o n cp g cur y0 y1 y2 y3 y4 y5 y6 y7 x0 x1 x2 x3 x4 x5 x6 w hF hx.2 h6 hl hn hg hgk (fun m hm => hy m hl hm) h3 (fun w => pcont_ok b t _ hm hc w)).mono fun r w' ⟨h1, h2⟩ => ⟨h2, Or.inl ⟨60, by decide, ?_, h1⟩⟩
        rw [hop]
        exact if_neg (fun h => h3 h.2)
      subst h3
      cases hd : cont b ⟨y0, 3, y2, y3, y4, y5, y6, y7⟩ with
      | none =>
        refine (open_54b_64 b t0 n0 t k o n cp g cur y0 y2 y3 y4 y5 y6 y7 x0 x1 x2 x3 x4 x5 x6 w hF hx.2 h6 hl hn hg hgk (fun m hm => hy m hl hm) (fun w => pcont_ok b t _ hm hc w) (fun w => pcont_no b _ hm hby hd w)).mono fun r w' ⟨h1, h2⟩ => ⟨h2, Or.inl ⟨54, by decide, ?_, h1⟩⟩
        rw [hop, hd]
        exact if_pos ⟨hl, rfl⟩
      | some names =>
        refine (open_ok_64 b t0 n0 t names k o n cp g cur y0 y2 y3 y4 y5 y6 y7 x0 x1 x2 x3 x4 x5 x6 w hF hx.2 h6 hl hn hg hgk (fun m hm => hy m hl hm) (fun w => pcont_ok b t _ hm hc w) (fun w => pcont_ok b names _ hm hd w)).mono fun r w' ⟨h1, h2, h3⟩ => ⟨h2, Or.inr ⟨t, names, ?_, h1, h3⟩⟩
        rw [hop, hd]
        exact if_pos ⟨hl, rfl⟩
end Go.Proofs.YtkmehjikllilaaaDoor

-- syms: a symbol at its place in the table: contracts.
namespace Go.Proofs.YtkmehjikllilaaaDoor
open Go.ChangeShapes Go.WideShapes Go.ChangeAt Go.RowKit
set_option linter.unusedVariables false
set_option maxRecDepth 100000
theorem sym_64 (t names nm : ByteArray) (p k : Nat) (o : Int) (w : World) (hF : w.heap[k]? = some (.cells (tabCells col64 o t names) 72 (0, 0))) (hp : p + 24 ≤ t.size) (hm : names.size ≤ maxLen) (ho : o = 0 ∨ o = 1) (hN : nameOf names (num t p 4 o) = some nm) :
    Calls Tryd.prog 45 #[.pointer (some ⟨k, 0, none⟩), .string (t.extract p (p + 24))] w fun r w' => r = .returned (.tuple #[.agg (symV (symAt 64 o t p nm)).toArray, .int .i64 0]) ∧ Below w.heap.size w w' := by
  have e (a K : Nat) (h : p + a + K ≤ p + 24) : num (t.extract p (p + 24)) a K o = num t (p + a) K o := num_ext t p (p + 24) a K o h
  have i (a K : Nat) (h : p + a + K ≤ p + 24) : numI (t.extract p (p + 24)) (a : Int) (K : Int) o = ((num t (p + a) K o : Nat) : Int) := congrArg (Nat.cast : Nat → Int) (e a K h)
  refine (symbol_64 _ t names nm k o w hF (by rw [ByteArray.size_extract]; omega) hm ho (by rw [e 0 4 (by omega)]; exact hN)).mono fun r w' ⟨h1, h2⟩ => ⟨?_, h2⟩
  have e1 := e 4 1 (by omega)
  have e2 : numI (t.extract p (p + 24)) 5 1 o = ((num t (p + 5) 1 o : Nat) : Int) := i 5 1 (by omega)
  have e3 : numI (t.extract p (p + 24)) 6 2 o = ((num t (p + 6) 2 o : Nat) : Int) := i 6 2 (by omega)
  have e4 : numI (t.extract p (p + 24)) 8 8 o = ((num t (p + 8) 8 o : Nat) : Int) := i 8 8 (by omega)
  have e5 : numI (t.extract p (p + 24)) 16 8 o = ((num t (p + 16) 8 o : Nat) : Int) := i 16 8 (by omega)
  rw [h1, e1, e2, e3, e4, e5]
  unfold symAt
  rw [if_neg (by decide)]
  rfl
theorem sym_no_64 (t names : ByteArray) (p k : Nat) (o : Int) (w : World) (hF : w.heap[k]? = some (.cells (tabCells col64 o t names) 72 (0, 0))) (hp : p + 24 ≤ t.size) (hm : names.size ≤ maxLen) (ho : o = 0 ∨ o = 1) (hN : nameOf names (num t p 4 o) = none) :
    Calls Tryd.prog 45 #[.pointer (some ⟨k, 0, none⟩), .string (t.extract p (p + 24))] w fun r w' => r = .returned (.tuple #[.agg #[.string ⟨#[]⟩, .int .i64 0, .int .i64 0, .int .i64 0, .int .i64 0, .int .u64 0, .int .u64 0], .int .i64 56]) ∧ Below w.heap.size w w' := by
  have e (a K : Nat) (h : p + a + K ≤ p + 24) : num (t.extract p (p + 24)) a K o = num t (p + a) K o := num_ext t p (p + 24) a K o h
  exact symbol_no_64 _ t names k o w hF (by rw [ByteArray.size_extract]; omega) hm ho (by rw [e 0 4 (by omega)]; exact hN)
end Go.Proofs.YtkmehjikllilaaaDoor

-- syms: the symbols of an opened table behind a list, class 64: contract.
namespace Go.Proofs.YtkmehjikllilaaaDoor
open Go.ChangeShapes Go.WideShapes Go.ChangeAt Go.RowKit
set_option linter.unusedVariables false
set_option maxRecDepth 100000
theorem slice_p64 (b : ByteArray) (p n : Nat) (h : p + n ≤ b.size) (w : World) :
    (Instr.slice 9 (.string b) (some (.int .i64 (p : Int))) (some (.int .i64 ((p : Int) + (n : Int)))) none).run Tryd.prog w = .ok (.string (b.extract p (p + n))) w := by
  rw [run_slice_string w 9 b .i64 .i64 (p : Int) ((p : Int) + (n : Int)) Tryd.underlying9 (by omega) (by omega) (by omega)]
  rfl
/-- what appendTo answers -/
def Appended64 (o : Int) (t names : ByteArray) (B m : Nat) (xs : List Value) (w : World) (r : Ending) (w' : World) : Prop :=
  Below B w w' ∧ ((∃ l v, symsOf 64 o t names (t.size / 24) = some l ∧ r = .returned (.tuple #[v, .int .i64 0]) ∧ w'.ownsRow B 42 7 v (m + l.length) (xs ++ symsV l)) ∨
    (symsOf 64 o t names (t.size / 24) = none ∧ r = .returned (.tuple #[.slice none 0 0, .int .i64 56])))
set_option maxHeartbeats 2000000 in
theorem appendTo_64 (t names : ByteArray) (k m B n : Nat) (o : Int) (v : Value) (xs : List Value) (w : World) (hF : w.heap[k]? = some (.cells (tabCells col64 o t names) 72 (0, 0))) (hk : k < B) (hB : B ≤ w.heap.size) (hown : w.ownsRow B 42 7 v m xs) (hm : m ≤ 1718091776) (ht : t.size ≤ 1048576) (hnm : names.size ≤ 1048576) (ho : o = 0 ∨ o = 1) (hn : t.size = n * 24) :
    Calls Tryd.prog 24 #[.pointer (some ⟨k, 0, none⟩), v] w (Appended64 o t names B m xs w) := by
  have hdiv : t.size / 24 = n := by omega
  have hnN : n ≤ 65536 := by omega
  have hpp : ∀ j : Nat, j < n → j * 24 + 24 ≤ t.size := fun j hj => by omega
  have cell (i : Nat) (v : Value) (h : (tabCells col64 o t names)[i]? = some v) (w' : World) (hb : w'.heap[k]? = some (.cells (tabCells col64 o t names) 72 (0, 0))) : w'.cell? ⟨k, i, none⟩ = some v := by
    rw [cell_of_row _ _ _ _ _ _ hb]; exact h
  have c0 : w.cell? ⟨k, 0, none⟩ = some (.int .u64 24) := cell 0 _ rfl w hF
  have c14 : w.cell? ⟨k, 14, none⟩ = some (.string t) := cell 14 _ rfl w hF
  have HG := Hid.mk' (grow_c v m n B xs w hown hB (by omega))
  have HC := Hid.mk' cell
  have hszI : ((t.size : Nat) : Int) = (n : Int) * 24 := by omega
  have htd : Int.tdiv ((t.size : Nat) : Int) 24 = (n : Int) := by rw [Int.tdiv_eq_ediv_of_nonneg (by omega)]; omega
  have hed : ((t.size : Nat) : Int) / 24 = (n : Int) := by omega
  have hwn : IntKind.i64.wrap (n : Int) = (n : Int) := by rw [IntKind.wrap_i64]; omega
  have hxn : wrap64 (n : Int) = (n : Int) := by unfold wrap64; omega
  have hnmm : names.size ≤ maxLen := by unfold maxLen; omega
  have HSY : Hid (∀ (j : Nat) (wx : World) (nm : ByteArray), j < n → wx.heap[k]? = some (.cells (tabCells col64 o t names) 72 (0, 0)) → nameOf names (num t (j * 24) 4 o) = some nm → Calls Tryd.prog 45 #[.pointer (some ⟨k, 0, none⟩), .string (t.extract (j * 24) (j * 24 + 24))] wx fun r w' => r = .returned (.tuple #[.agg (symV (symAt 64 o t (j * 24) nm)).toArray, .int .i64 0]) ∧ Below wx.heap.size wx w') := fun j wx nm hj hF hN => sym_64 t names nm (j * 24) k o wx hF (hpp j hj) hnmm ho hN
  have HSN : Hid (∀ (j : Nat) (wx : World), j < n → wx.heap[k]? = some (.cells (tabCells col64 o t names) 72 (0, 0)) → nameOf names (num t (j * 24) 4 o) = none → Calls Tryd.prog 45 #[.pointer (some ⟨k, 0, none⟩), .string (t.extract (j * 24) (j * 24 + 24))] wx fun r w' => r = .returned (.tuple #[.agg #[.string ⟨#[]⟩, .int .i64 0, .int .i64 0, .int .i64 0, .int .i64 0, .int .u64 0, .int .u64 0], .int .i64 56]) ∧ Below wx.heap.size wx w') := fun j wx hj hF hN => sym_no_64 t names (j * 24) k o wx hF (hpp j hj) hnmm ho hN
  have HSL : Hid (∀ (j : Nat) (wx : World), j < n → (Instr.slice 9 (.string t) (some (.int .i64 (((j * 24 : Nat)) : Int))) (some (.int .i64 (((j * 24 : Nat) : Int) + 24))) none).run Tryd.prog wx = .ok (.string (t.extract (j * 24) (j * 24 + 24))) wx) := fun j wx hj => slice_p64 t (j * 24) 24 (hpp j hj) wx
  obtain ⟨i0, hi, hz0, hz1, hz2⟩ := info_parts' infoSym
  have HW := Hid.mk' (And.intro hnN (And.intro hm (And.intro hszI hB)))
  have HD := Hid.mk' (And.intro hdiv hn)
  clear hown cell hnmm ho hnm ht
  go_enter Tryd.func24, Tryd.ntmps24
  go_wp2_with (first
    | (go_at_call 44; refine (HG.out).mono ?_; rintro r w1 ⟨v1, rfl, hown1, hb1⟩))
  have hF1 : w1.heap[k]? = some (.cells (tabCells col64 o t names) 72 (0, 0)) := (hb1.block k hk).trans hF
  have hs1 : B ≤ w1.heap.size := Nat.le_trans HW.out.2.2.2 hb1.size
  clear c0 c14 HG hF hB hm hnN htd hed hwn hxn hszI hn hdiv hpp
  go_loopw [1, 7] (fun u a wx => ∃ (j : Nat) (l : List Sym), j ≤ n ∧ a = .int .i64 ((j * 24 : Nat) : Int) ∧ symsOf 64 o t names j = some l ∧ wx.ownsRow B 42 7 u (m + j) (xs ++ symsV l) ∧ wx.heap[k]? = some (.cells (tabCells col64 o t names) 72 (0, 0)) ∧ Below B w wx ∧ B ≤ wx.heap.size) (fun _ a _ => n * 24 - (intOf a).toNat)
  case atStart => exact ⟨0, [], Nat.zero_le _, by simp, rfl, by rw [show xs ++ symsV [] = xs from List.append_nil xs]; exact hown1, hF1, hb1, hs1⟩
  case round =>
    obtain ⟨j, l, hj, rfl, hl, hown, hF, hB, hlt⟩ := hrel
    have hll := symsOf_length _ _ _ _ _ _ hl
    have c0 : wr.cell? ⟨k, 0, none⟩ = some (.int .u64 24) := HC.out 0 _ rfl wr hF
    have c14 : wr.cell? ⟨k, 14, none⟩ = some (.string t) := HC.out 14 _ rfl wr hF
    have hn := HD.out.2
    by_cases hjn : j < n
    · have hjI : ((j * 24 : Nat) : Int) < ((t.size : Nat) : Int) := by omega
      have hjN : j * 24 < t.size := by omega
      have hj0 : (0 : Int) ≤ ((j * 24 : Nat) : Int) := Int.natCast_nonneg _
      have hwa : IntKind.i64.wrap (((j * 24 : Nat) : Int) + 24) = ((j * 24 : Nat) : Int) + 24 := by have := HW.out.1; rw [IntKind.wrap_i64]; omega
      have hxa : wrap64 (((j * 24 : Nat) : Int) + 24) = ((j * 24 : Nat) : Int) + 24 := by have := HW.out.1; unfold wrap64; omega
      have hsl := HSL.out j wr hjn
      have hc3 : m + j + 1 ≤ maxLen := by have := HW.out.1; have := HW.out.2.1; unfold maxLen; omega
      have hc4 : (m + j + 1) * 64 ≤ 140737488355328 := by have := HW.out.1; have := HW.out.2.1; omega
      clear hn
      generalize hP : j * 24 = P at hjI hj0 hwa hxa hsl hjN
      cases hN : nameOf names (num t (j * 24) 4 o) with
      | none =>
        have HS := HSN.out j wr hjn hF hN
        rw [hP] at HS
        have HS' := Hid.mk' HS
        have hnone : symsOf 64 o t names (t.size / 24) = none := by
          have h1 : symsOf 64 o t names (j + 1) = none := by
            have hsy : symLen 64 = 24 := rfl
            rw [symsOf, hl, hsy, hN]; rfl
          rw [HD.out.1, show n = j + 1 + (n - (j + 1)) by omega]
          exact symsOf_none h1 _
        have HNO := Hid.mk' hnone
        clear HS hN hl hown hnone hP hll
        go_wp2_with (first
          | (go_at_call 45; refine (HS'.out).mono ?_; rintro r w2 ⟨rfl, hb2⟩))
        go_ret2
        exact ⟨hB.trans (Below.alloc (hb2.mono hlt) (Nat.le_trans hlt hb2.size) _), Or.inr ⟨HNO.out, rfl⟩⟩
      | some nm =>
        have HS := HSY.out j wr nm hjn hF hN
        rw [hP] at HS
        have hl' : symsOf 64 o t names (j + 1) = some (l ++ [symAt 64 o t (j * 24) nm]) := by
          have hsy : symLen 64 = 24 := rfl
          rw [symsOf, hl, hsy, hN]; rfl
        rw [hP] at hl'
        have HL' := Hid.mk' hl'
        have HP := Hid.mk' hP
        clear hl' hN hl hP hll
        generalize symAt 64 o t P nm = x at HS HL'
        obtain ⟨xn, xb, xt, xo, xs', xv, xz⟩ := x
        have HS' : Hid (Calls Tryd.prog 45 #[.pointer (some ⟨k, 0, none⟩), .string (t.extract P (P + 24))] wr fun r w' => r = .returned (.tuple #[.agg #[.string xn, .int .i64 (xb : Int), .int .i64 (xt : Int), .int .i64 (xo : Int), .int .i64 (xs' : Int), .int .u64 (xv : Int), .int .u64 (xz : Int)], .int .i64 0]) ∧ Below wr.heap.size wr w') := HS
        clear HS
        go_wp2_with (first
          | (go_at_call 45; refine (HS'.out).mono ?_; rintro r w3 ⟨rfl, hb3⟩; have hOW := ((own_below hown hb3).alloc (.cells #[.string xn, .int .i64 (xb : Int), .int .i64 (xt : Int), .int .i64 (xo : Int), .int .i64 (xs' : Int), .int .u64 (xv : Int), .int .u64 (xz : Int)] 42)).alloc (.cells #[.string xn, .int .i64 (xb : Int), .int .i64 (xt : Int), .int .i64 (xo : Int), .int .i64 (xs' : Int), .int .u64 (xv : Int), .int .u64 (xz : Int)] 42))
          | (at_builtin; refine wpList_append_own _ rfl _ _ 45 rfl B 42 i0 (.agg #[.string ⟨#[]⟩, .int .i64 0, .int .i64 0, .int .i64 0, .int .i64 0, .int .u64 0, .int .u64 0]) 7 64 Tryd.underlying45 hi hz0 hz1 hz2 rfl (by decide) _ _ _ rfl hOW ⟨w3.heap.size + 1, 0, none⟩ 1 1 [.string xn, .int .i64 (xb : Int), .int .i64 (xt : Int), .int .i64 (xo : Int), .int .i64 (xs' : Int), .int .u64 (xv : Int), .int .u64 (xz : Int)] rfl rfl ?c1 (by intro u hu; simp at hu; rcases hu with rfl | rfl | rfl | rfl | rfl | rfl | rfl <;> rfl) ?c3 ?c4 ?c5 ?_))
        case c1 =>
          intro q u hu
          rw [Addr.add_mid, Nat.zero_add, cell_of_row _ _ _ _ _ _ (heap_alloc2_new w3 _ _)]
          simpa using hu
        case c3 => exact hc3
        case c4 => exact hc4
        case c5 => rw [size_alloc, size_alloc]; have := hb3.size; omega
        intro v' w5 hown' hgrow _
        have hs3 := hb3.size
        have hrow : ∀ q, u1.ownBlock = some q → B ≤ q := fun q hq => (hown.lt q hq).1
        have hbR : Below B wr w5 := Below.grown (Below.alloc (Below.alloc (hb3.mono hlt) (by omega) _) (by rw [size_alloc]; omega) _) hgrow (by rw [size_alloc, size_alloc]; omega) hrow
        have HALL : Hid (w5.ownsRow B 42 7 v' (m + (j + 1)) (xs ++ symsV (l ++ [⟨xn, xb, xt, xo, xs', xv, xz⟩])) ∧ w5.heap[k]? = some (.cells (tabCells col64 o t names) 72 (0, 0)) ∧ Below B w w5 ∧ B ≤ w5.heap.size) := ⟨by rw [symsV_append]; exact hown', (hbR.block _ hk).trans hF, hB.trans hbR, by have := hbR.size; omega⟩
        clear hown' hgrow hbR hrow hown hF hB hOW hb3 HS'
        go_wp2
        clear hwa hxa
        go_roundw
        case rel => exact ⟨j + 1, _, hjn, by refine congrArg (Value.int .i64) ?_; have hq := HP.out; omega, HL'.out, HALL.out⟩
        case measure => have hq := HP.out; have hjn' : j < n := hjn; clear HALL HL' HSY HSN HSL HC; simp only [intOf]; omega
    · obtain rfl : j = n := Nat.le_antisymm hj (Nat.not_lt.1 hjn)
      have hjI : ¬ ((j * 24 : Nat) : Int) < ((t.size : Nat) : Int) := by omega
      have hjN : ¬ (j * 24 < t.size) := by omega
      clear hn
      go_wp2
      go_ret2
      exact ⟨hB, Or.inl ⟨l, _, by rw [HD.out.1]; exact hl, rfl, by rw [hll]; exact hown⟩⟩
end Go.Proofs.YtkmehjikllilaaaDoor

-- syms.Table behind its set-up, class 64: contract.
namespace Go.Proofs.YtkmehjikllilaaaDoor
open Go.ChangeShapes Go.WideShapes Go.ChangeAt Go.RowKit
set_option linter.unusedVariables false
set_option maxRecDepth 100000
theorem secs_low_64 {B C g n cp : Nat} {w w' : World} {s : Nat → Sec} (h : SecsIn B w (.slice (some ⟨g, 0, none⟩) n cp) n s) (hg : g < C) (hb : Below C w w') : SecsIn B w' (.slice (some ⟨g, 0, none⟩) n cp) n s := by
  obtain ⟨ao, c, hv, hr⟩ := h
  refine ⟨ao, c, hv, fun hn => ?_⟩
  obtain ⟨g', cur, h1, h2, h3, h4⟩ := hr hn
  subst h1
  obtain rfl : g = g' := by
    have h := Value.slice.inj hv
    exact congrArg Addr.block (Option.some.inj h.1)
  exact ⟨g, cur, rfl, h2, (hb.block g hg).trans h3, h4⟩
set_option maxHeartbeats 4000000 in
theorem table_64 (b : ByteArray) (n : Nat) (s : Nat → Sec) (w : World) (hM : Magic w) (hb : b.size ≤ 1048576) (hE : identE b = 0) (hc : cls b = 64) (hn : n ≤ 26214) (hsb : SecB s) (hP : PSecs b n s 0) :
    Calls Tryd.prog 16 #[.string b] w fun r w' => ∃ v, r = .returned (.tuple #[v, .int .i64 (tabE b 64 (ord b) n s 0)]) ∧ w'.ownsRow w.heap.size 42 7 v (tabL b 64 (ord b) n s 0).length (symsV (tabL b 64 (ord b) n s 0)) ∧ Below w.heap.size w w' := by
  have hm : b.size ≤ maxLen := by unfold maxLen; omega
  have ho := ord_ok b hE
  have HI : Hid (∀ w : World, Magic w → Calls Tryd.prog 20 #[.string b] w fun r w' => r = .returned (.tuple #[.int .i64 64, .int .i64 (ord b), .int .i64 0]) ∧ Below w.heap.size w w') := fun w hM => by have h := ident_ok b w hM hm hE; rw [hc] at h; exact h
  have HP := Hid.mk' hP
  have HC : Hid (∀ w : World, Calls Tryd.prog 22 #[.int .i64 64] w fun r w' => r = .returned (.agg #[.int .u64 24, .int .i64 0, .int .i64 4, .int .i64 8, .int .i64 8, .int .i64 16, .int .i64 8, .int .i64 4, .int .i64 1, .int .i64 5, .int .i64 1, .int .i64 6, .int .i64 2]) ∧ Below w.heap.size w w') := columns_64
  generalize ord b = o at ho HI ⊢
  clear hE hc hP
  have HALL := Hid.mk' (And.intro hb (And.intro hn (And.intro hsb (And.intro hm ho))))
  clear hb hsb hm ho
  go_enter Tryd.func16, Tryd.ntmps16
  go_wp2_with (first
    | (go_at_call 20; refine (HI.out _ hM).mono ?_; rintro r w1 ⟨rfl, hb1⟩; have hM1 := hM.kept hb1)
    | (go_at_call 21; refine (HP.out _ hM1).mono ?_; rintro r w2 ⟨v, rfl, hS, hb2⟩; obtain ⟨ao, cp, rfl, hS0⟩ := hS)
    | (go_at_call 22; refine (HC.out _).mono ?_; rintro r w3 ⟨rfl, hb3⟩)
    | (refine wpList_store_row rfl _ _ _ rfl w3.heap.size (tabCells col64 o .empty .empty) rfl rfl _ _ (heap_alloc_new w3 _) rfl (by kernel_rfl) (by kernel_rfl) ?_))
  have hs1 := hb1.size
  have hs2 := hb2.size
  have hs3 := hb3.size
  have hWK : ((w3.alloc (.cells #[.int .u64 0, .int .i64 0, .int .i64 0, .int .i64 0, .int .i64 0, .int .i64 0, .int .i64 0, .int .i64 0, .int .i64 0, .int .i64 0, .int .i64 0, .int .i64 0, .int .i64 0, .int .i64 0, .string ⟨#[]⟩, .string ⟨#[]⟩] 72)).setRow w3.heap.size (tabCells col64 o .empty .empty)).heap[w3.heap.size]? = some (.cells (tabCells col64 o .empty .empty) 72 (0, 0)) := setRow_heap _ _ _ _ _ _ (heap_alloc_new w3 _)
  have hb23 : Below w2.heap.size w2 ((w3.alloc (.cells #[.int .u64 0, .int .i64 0, .int .i64 0, .int .i64 0, .int .i64 0, .int .i64 0, .int .i64 0, .int .i64 0, .int .i64 0, .int .i64 0, .int .i64 0, .int .i64 0, .int .i64 0, .int .i64 0, .string ⟨#[]⟩, .string ⟨#[]⟩] 72)).setRow w3.heap.size (tabCells col64 o .empty .empty)) := below_setRow (Below.alloc hb3 hs3 _) hs3 _
  have hWB : Below w.heap.size w ((w3.alloc (.cells #[.int .u64 0, .int .i64 0, .int .i64 0, .int .i64 0, .int .i64 0, .int .i64 0, .int .i64 0, .int .i64 0, .int .i64 0, .int .i64 0, .int .i64 0, .int .i64 0, .int .i64 0, .int .i64 0, .string ⟨#[]⟩, .string ⟨#[]⟩] 72)).setRow w3.heap.size (tabCells col64 o .empty .empty)) := (hb1.trans (hb2.mono hs1)).trans (hb23.mono (by omega))
  have hWS : SecsIn 0 ((w3.alloc (.cells #[.int .u64 0, .int .i64 0, .int .i64 0, .int .i64 0, .int .i64 0, .int .i64 0, .int .i64 0, .int .i64 0, .int .i64 0, .int .i64 0, .int .i64 0, .int .i64 0, .int .i64 0, .int .i64 0, .string ⟨#[]⟩, .string ⟨#[]⟩] 72)).setRow w3.heap.size (tabCells col64 o .empty .empty)) (.slice ao n cp) n s := SecsIn.kept ⟨ao, cp, rfl, fun h => by obtain ⟨g, cur, h1, _, h3, h4⟩ := hS0 h; exact ⟨g, cur, h1, Nat.zero_le _, h3, h4⟩⟩ hb23
  have hWZ : ((w3.alloc (.cells #[.int .u64 0, .int .i64 0, .int .i64 0, .int .i64 0, .int .i64 0, .int .i64 0, .int .i64 0, .int .i64 0, .int .i64 0, .int .i64 0, .int .i64 0, .int .i64 0, .int .i64 0, .int .i64 0, .string ⟨#[]⟩, .string ⟨#[]⟩] 72)).setRow w3.heap.size (tabCells col64 o .empty .empty)).heap.size = w3.heap.size + 1 := by rw [size_setRow, size_alloc]
  have hwK : w.heap.size ≤ w3.heap.size := by omega
  clear hb23 hb1 hb2 hb3 hS0 HI HP HC hM hM1 hs1 hs2 hs3
  generalize ((w3.alloc (.cells #[.int .u64 0, .int .i64 0, .int .i64 0, .int .i64 0, .int .i64 0, .int .i64 0, .int .i64 0, .int .i64 0, .int .i64 0, .int .i64 0, .int .i64 0, .int .i64 0, .int .i64 0, .int .i64 0, .string ⟨#[]⟩, .string ⟨#[]⟩] 72)).setRow w3.heap.size (tabCells col64 o .empty .empty)) = W at hWK hWB hWS hWZ ⊢
  generalize w3.heap.size = K at hWK hWZ hwK ⊢
  clear w3
  have hgK : ∀ g : Nat, ao = some ⟨g, 0, none⟩ → g < K + 1 ∨ n = 0 := by
    intro g hg
    obtain ⟨ao', cp', hv, hr⟩ := hWS
    obtain ⟨rfl, _, rfl⟩ : ao = ao' ∧ n = n ∧ cp = cp' := by simpa using hv
    by_cases h0 : n = 0
    · exact Or.inr h0
    · obtain ⟨g', cur, h1, _, h3, _⟩ := hr (by omega)
      rw [hg] at h1
      obtain rfl : g = g' := congrArg Addr.block (Option.some.inj h1)
      exact Or.inl (by rw [← hWZ]; exact (Array.getElem?_eq_some_iff.1 h3).1)
  have HGK := Hid.mk' hgK
  clear hgK
  go_loopw [8, 35] (fun u a wx => ∃ (i : Nat) (l : List Sym) (t0 n0 : ByteArray), i ≤ n ∧ a = .int .i64 i ∧ tabOf b 64 o n s i = .ok l ∧ wx.ownsRow (K + 1) 42 7 u l.length (symsV l) ∧ wx.heap[K]? = some (.cells (tabCells col64 o t0 n0) 72 (0, 0)) ∧ SecsIn 0 wx (.slice ao n cp) n s ∧ Below w.heap.size w wx ∧ K + 1 ≤ wx.heap.size) (fun _ a _ => n - (intOf a).toNat)
  case atStart => exact ⟨0, [], .empty, .empty, Nat.zero_le _, rfl, rfl, World.ownsRow_nil _ _ _ _, hWK, hWS, hWB, by omega⟩
  case round =>
    clear hWK hWS hWB hWZ W
    obtain ⟨i, l, t0, n0, hi, rfl, hl, hown, hR, hS, hB, hlt⟩ := hrel
    by_cases hin : i < n
    · obtain ⟨hb, hn', hsb, hm, ho⟩ := HALL.out
      obtain ⟨ao', cp', hv, hr⟩ := hS
      obtain ⟨rfl, _, rfl⟩ : ao = ao' ∧ n = n ∧ cp = cp' := by simpa using hv
      obtain ⟨g, cur, rfl, _, hg, hcur⟩ := hr (Nat.lt_of_le_of_lt (Nat.zero_le _) hin)
      have hS : SecsIn 0 wr (.slice (some ⟨g, 0, none⟩) n cp) n s := ⟨_, cp, rfl, fun _ => ⟨g, cur, rfl, Nat.zero_le _, hg, hcur⟩⟩
      have hxb := hsb i
      have hy := hcur i
      have hiI : (i : Int) < (n : Int) := Int.ofNat_lt.2 hin
      have hi0 : (0 : Int) ≤ (i : Int) := Int.natCast_nonneg _
      have hll := tab_length hb i l hl
      have hlm : l.length ≤ 1718091776 := by omega
      clear hr hcur hv hll
      cases hsx : s i with
      | mk x0 x1 x2 x3 x4 x5 x6 x7 =>
        rw [hsx] at hy hxb
        by_cases h2 : x1 = 2
        case neg =>
          have hnext := tab_at_not hl (by rw [hsx]; exact h2)
          have h2n : ((x1 : Int) != 2) = true := bne_iff_ne.2 (by omega)
          have a0 : wr.cell? ⟨g, i * 8, none⟩ = some (.int .i64 (x0 : Int)) := (cell_of_row _ _ _ _ _ _ hg).trans (hy 0 hin (by omega))
          have a1 : wr.cell? ⟨g, i * 8 + 1, none⟩ = some (.int .i64 (x1 : Int)) := (cell_of_row _ _ _ _ _ _ hg).trans (hy 1 hin (by omega))
          have a2 : wr.cell? ⟨g, i * 8 + 2, none⟩ = some (.int .u64 (x2 : Int)) := (cell_of_row _ _ _ _ _ _ hg).trans (hy 2 hin (by omega))
          have a3 : wr.cell? ⟨g, i * 8 + 3, none⟩ = some (.int .i64 (x3 : Int)) := (cell_of_row _ _ _ _ _ _ hg).trans (hy 3 hin (by omega))
          have a4 : wr.cell? ⟨g, i * 8 + 4, none⟩ = some (.int .i64 (x4 : Int)) := (cell_of_row _ _ _ _ _ _ hg).trans (hy 4 hin (by omega))
          have a5 : wr.cell? ⟨g, i * 8 + 5, none⟩ = some (.int .u64 (x5 : Int)) := (cell_of_row _ _ _ _ _ _ hg).trans (hy 5 hin (by omega))
          have a6 : wr.cell? ⟨g, i * 8 + 6, none⟩ = some (.int .u64 (x6 : Int)) := (cell_of_row _ _ _ _ _ _ hg).trans (hy 6 hin (by omega))
          have a7 : wr.cell? ⟨g, i * 8 + 7, none⟩ = some (.int .u64 (x7 : Int)) := (cell_of_row _ _ _ _ _ _ hg).trans (hy 7 hin (by omega))
          have HK : Hid ((wr.alloc (.cells #[.int .i64 (x0 : Int), .int .i64 (x1 : Int), .int .u64 (x2 : Int), .int .i64 (x3 : Int), .int .i64 (x4 : Int), .int .u64 (x5 : Int), .int .u64 (x6 : Int), .int .u64 (x7 : Int)] 60)).ownsRow (K + 1) 42 7 u8 l.length (symsV l) ∧ (wr.alloc (.cells #[.int .i64 (x0 : Int), .int .i64 (x1 : Int), .int .u64 (x2 : Int), .int .i64 (x3 : Int), .int .i64 (x4 : Int), .int .u64 (x5 : Int), .int .u64 (x6 : Int), .int .u64 (x7 : Int)] 60)).heap[K]? = some (.cells (tabCells col64 o t0 n0) 72 (0, 0)) ∧ SecsIn 0 (wr.alloc (.cells #[.int .i64 (x0 : Int), .int .i64 (x1 : Int), .int .u64 (x2 : Int), .int .i64 (x3 : Int), .int .i64 (x4 : Int), .int .u64 (x5 : Int), .int .u64 (x6 : Int), .int .u64 (x7 : Int)] 60)) (.slice (some ⟨g, 0, none⟩) n cp) n s ∧ Below w.heap.size w (wr.alloc (.cells #[.int .i64 (x0 : Int), .int .i64 (x1 : Int), .int .u64 (x2 : Int), .int .i64 (x3 : Int), .int .i64 (x4 : Int), .int .u64 (x5 : Int), .int .u64 (x6 : Int), .int .u64 (x7 : Int)] 60)) ∧ K + 1 ≤ (wr.alloc (.cells #[.int .i64 (x0 : Int), .int .i64 (x1 : Int), .int .u64 (x2 : Int), .int .i64 (x3 : Int), .int .i64 (x4 : Int), .int .u64 (x5 : Int), .int .u64 (x6 : Int), .int .u64 (x7 : Int)] 60)).heap.size) := ⟨hown.alloc _, (Below.heap_alloc wr _ K (by omega)).trans hR, hS.kept (Below.alloc (Below.refl _ _) (Nat.le_refl _) _), Below.alloc hB (by omega) _, by rw [size_alloc]; omega⟩
          have HNX := Hid.mk' hnext
          clear hnext hown hR hS hB hg hy hxb hl hsx h2 hb hm ho hsb hlm hn'
          go_wp2
          go_roundw
          case rel => exact ⟨i + 1, l, t0, n0, hin, by go_num, HNX.out, HK.out⟩
          case measure => clear HK HNX HALL; simp [intOf]; omega
        subst h2
        have h2s : (s i).ty = 2 := by rw [hsx]
        have a0 : wr.cell? ⟨g, i * 8, none⟩ = some (.int .i64 (x0 : Int)) := (cell_of_row _ _ _ _ _ _ hg).trans (hy 0 hin (by omega))
        have a1 : wr.cell? ⟨g, i * 8 + 1, none⟩ = some (.int .i64 2) := (cell_of_row _ _ _ _ _ _ hg).trans (hy 1 hin (by omega))
        have a2 : wr.cell? ⟨g, i * 8 + 2, none⟩ = some (.int .u64 (x2 : Int)) := (cell_of_row _ _ _ _ _ _ hg).trans (hy 2 hin (by omega))
        have a3 : wr.cell? ⟨g, i * 8 + 3, none⟩ = some (.int .i64 (x3 : Int)) := (cell_of_row _ _ _ _ _ _ hg).trans (hy 3 hin (by omega))
        have a4 : wr.cell? ⟨g, i * 8 + 4, none⟩ = some (.int .i64 (x4 : Int)) := (cell_of_row _ _ _ _ _ _ hg).trans (hy 4 hin (by omega))
        have a5 : wr.cell? ⟨g, i * 8 + 5, none⟩ = some (.int .u64 (x5 : Int)) := (cell_of_row _ _ _ _ _ _ hg).trans (hy 5 hin (by omega))
        have a6 : wr.cell? ⟨g, i * 8 + 6, none⟩ = some (.int .u64 (x6 : Int)) := (cell_of_row _ _ _ _ _ _ hg).trans (hy 6 hin (by omega))
        have a7 : wr.cell? ⟨g, i * 8 + 7, none⟩ = some (.int .u64 (x7 : Int)) := (cell_of_row _ _ _ _ _ _ hg).trans (hy 7 hin (by omega))
        have hbx : (wr.alloc (.cells #[.int .i64 (x0 : Int), .int .i64 2, .int .u64 (x2 : Int), .int .i64 (x3 : Int), .int .i64 (x4 : Int), .int .u64 (x5 : Int), .int .u64 (x6 : Int), .int .u64 (x7 : Int)] 60)).heap[wr.heap.size]? = some (.cells #[.int .i64 (x0 : Int), .int .i64 2, .int .u64 (x2 : Int), .int .i64 (x3 : Int), .int .i64 (x4 : Int), .int .u64 (x5 : Int), .int .u64 (x6 : Int), .int .u64 (x7 : Int)] 60 (0, 0)) := heap_alloc_new wr _
        have hRb : (wr.alloc (.cells #[.int .i64 (x0 : Int), .int .i64 2, .int .u64 (x2 : Int), .int .i64 (x3 : Int), .int .i64 (x4 : Int), .int .u64 (x5 : Int), .int .u64 (x6 : Int), .int .u64 (x7 : Int)] 60)).heap[K]? = some (.cells (tabCells col64 o t0 n0) 72 (0, 0)) := (Below.heap_alloc wr _ K (by omega)).trans hR
        have hSb : SecsIn 0 (wr.alloc (.cells #[.int .i64 (x0 : Int), .int .i64 2, .int .u64 (x2 : Int), .int .i64 (x3 : Int), .int .i64 (x4 : Int), .int .u64 (x5 : Int), .int .u64 (x6 : Int), .int .u64 (x7 : Int)] 60)) (.slice (some ⟨g, 0, none⟩) n cp) n s := hS.kept (Below.alloc (Below.refl _ _) (Nat.le_refl _) _)
        have hOb : (wr.alloc (.cells #[.int .i64 (x0 : Int), .int .i64 2, .int .u64 (x2 : Int), .int .i64 (x3 : Int), .int .i64 (x4 : Int), .int .u64 (x5 : Int), .int .u64 (x6 : Int), .int .u64 (x7 : Int)] 60)).ownsRow (K + 1) 42 7 u8 l.length (symsV l) := hown.alloc _
        have hBb : Below w.heap.size w (wr.alloc (.cells #[.int .i64 (x0 : Int), .int .i64 2, .int .u64 (x2 : Int), .int .i64 (x3 : Int), .int .i64 (x4 : Int), .int .u64 (x5 : Int), .int .u64 (x6 : Int), .int .u64 (x7 : Int)] 60)) := Below.alloc hB (by omega) _
        have hZb : (wr.alloc (.cells #[.int .i64 (x0 : Int), .int .i64 2, .int .u64 (x2 : Int), .int .i64 (x3 : Int), .int .i64 (x4 : Int), .int .u64 (x5 : Int), .int .u64 (x6 : Int), .int .u64 (x7 : Int)] 60)).heap.size = wr.heap.size + 1 := size_alloc _ _
        have HO := Hid.mk' (opened_64 b t0 n0 K 0 n o _ s ⟨x0, 2, x2, x3, x4, x5, x6, x7⟩ (wr.alloc (.cells #[.int .i64 (x0 : Int), .int .i64 2, .int .u64 (x2 : Int), .int .i64 (x3 : Int), .int .i64 (x4 : Int), .int .u64 (x5 : Int), .int .u64 (x6 : Int), .int .u64 (x7 : Int)] 60)) hRb hSb hn' hsb hxb hb)
        have hbK : Below w.heap.size w (wr.alloc (.cells #[.int .i64 (x0 : Int), .int .i64 2, .int .u64 (x2 : Int), .int .i64 (x3 : Int), .int .i64 (x4 : Int), .int .u64 (x5 : Int), .int .u64 (x6 : Int), .int .u64 (x7 : Int)] 60)) ∧ w.heap.size ≤ K ∧ K < (wr.alloc (.cells #[.int .i64 (x0 : Int), .int .i64 2, .int .u64 (x2 : Int), .int .i64 (x3 : Int), .int .i64 (x4 : Int), .int .u64 (x5 : Int), .int .u64 (x6 : Int), .int .u64 (x7 : Int)] 60)).heap.size := ⟨hBb, hwK, by omega⟩
        have hSc : ∀ w4 : World, Kq K (wr.alloc (.cells #[.int .i64 (x0 : Int), .int .i64 2, .int .u64 (x2 : Int), .int .i64 (x3 : Int), .int .i64 (x4 : Int), .int .u64 (x5 : Int), .int .u64 (x6 : Int), .int .u64 (x7 : Int)] 60)) w4 → SecsIn 0 w4 (.slice (some ⟨g, 0, none⟩) n cp) n s := fun w4 hq => secs_kq hq hSb hRb (by decide)
        have hgg : g < K + 1 := (HGK.out g rfl).resolve_right (by omega)
        clear hown hR hS hB hg hy hxb hm hRb hSb hBb
        cases hop : openOf b 64 n s ⟨x0, 2, x2, x3, x4, x5, x6, x7⟩ with
        | error e =>
          have hone : oneOf b 64 o n s (s i) = .error e := by rw [hsx]; exact one_err hop
          have hT := tab_err (tab_at_err hl hin h2s hone)
          have he0 := open_ne hop
          have HO' : Hid (e ≠ 0 ∧ Calls Tryd.prog 23 #[.pointer (some ⟨K, 0, none⟩), .string b, .slice (some ⟨g, 0, none⟩) n cp, .agg #[.int .i64 (x0 : Int), .int .i64 2, .int .u64 (x2 : Int), .int .i64 (x3 : Int), .int .i64 (x4 : Int), .int .u64 (x5 : Int), .int .u64 (x6 : Int), .int .u64 (x7 : Int)]] (wr.alloc (.cells #[.int .i64 (x0 : Int), .int .i64 2, .int .u64 (x2 : Int), .int .i64 (x3 : Int), .int .i64 (x4 : Int), .int .u64 (x5 : Int), .int .u64 (x6 : Int), .int .u64 (x7 : Int)] 60)) fun r w' => r = .returned (.int .i64 e) ∧ Kq K (wr.alloc (.cells #[.int .i64 (x0 : Int), .int .i64 2, .int .u64 (x2 : Int), .int .i64 (x3 : Int), .int .i64 (x4 : Int), .int .u64 (x5 : Int), .int .u64 (x6 : Int), .int .u64 (x7 : Int)] 60)) w') := ⟨he0, HO.out.mono fun r w' ⟨h1, h2⟩ => by
            rcases h2 with ⟨e', _, h3, h4⟩ | ⟨t, nm, h3, _⟩
            · rw [hop] at h3
              obtain rfl := Except.error.inj h3
              exact ⟨h4, h1⟩
            · rw [hop] at h3; cases h3⟩
          have he : (e != 0) = true := bne_iff_ne.2 HO'.out.1
          have HT := Hid.mk' hT
          have HBK := Hid.mk' hbK
          clear hT hone hop hl hsx hOb HO hsb hb ho hlm hn' hbK h2s he0 hSc hgg
          go_wp2_with (first
            | (refine wpList_load_row rfl _ _ rfl wr.heap.size rfl _ _ _ _ hbx Tryd.underlying60 rfl (by kernel_rfl) ?_)
            | (go_at_call 23; refine (HO'.out.2).mono ?_; rintro r w4 ⟨rfl, hq⟩))
          go_ret2
          rw [HT.out.1, HT.out.2]
          exact ⟨_, rfl, World.ownsRow_nil _ _ _ _, HBK.out.1.trans ((hq.below (Nat.le_refl K) (Nat.le_of_lt HBK.out.2.2)).mono HBK.out.2.1)⟩
        | ok tn =>
          obtain ⟨t, names⟩ := tn
          obtain ⟨hz1, hz2, hz3⟩ := open_size hop rfl hb
          have hzL : t.size = t.size / 24 * 24 := by
            have h3 : t.size % 24 = 0 := hz3
            omega
          have HO' : Hid (Calls Tryd.prog 23 #[.pointer (some ⟨K, 0, none⟩), .string b, .slice (some ⟨g, 0, none⟩) n cp, .agg #[.int .i64 (x0 : Int), .int .i64 2, .int .u64 (x2 : Int), .int .i64 (x3 : Int), .int .i64 (x4 : Int), .int .u64 (x5 : Int), .int .u64 (x6 : Int), .int .u64 (x7 : Int)]] (wr.alloc (.cells #[.int .i64 (x0 : Int), .int .i64 2, .int .u64 (x2 : Int), .int .i64 (x3 : Int), .int .i64 (x4 : Int), .int .u64 (x5 : Int), .int .u64 (x6 : Int), .int .u64 (x7 : Int)] 60)) fun r w' => r = .returned (.int .i64 0) ∧ Kq K (wr.alloc (.cells #[.int .i64 (x0 : Int), .int .i64 2, .int .u64 (x2 : Int), .int .i64 (x3 : Int), .int .i64 (x4 : Int), .int .u64 (x5 : Int), .int .u64 (x6 : Int), .int .u64 (x7 : Int)] 60)) w' ∧ w'.heap[K]? = some (.cells (tabCells col64 o t names) 72 (0, 0))) := HO.out.mono fun r w' ⟨h1, h2⟩ => by
            rcases h2 with ⟨e', _, h3, h4⟩ | ⟨t', nm', h3, h4, h5⟩
            · rw [hop] at h3; cases h3
            · rw [hop] at h3
              have h6 := Except.ok.inj h3
              obtain ⟨rfl, rfl⟩ := Prod.mk.inj h6
              exact ⟨h4, h1, h5⟩
          have HA : Hid (∀ w4 : World, Kq K (wr.alloc (.cells #[.int .i64 (x0 : Int), .int .i64 2, .int .u64 (x2 : Int), .int .i64 (x3 : Int), .int .i64 (x4 : Int), .int .u64 (x5 : Int), .int .u64 (x6 : Int), .int .u64 (x7 : Int)] 60)) w4 → w4.heap[K]? = some (.cells (tabCells col64 o t names) 72 (0, 0)) → Calls Tryd.prog 24 #[.pointer (some ⟨K, 0, none⟩), u8] w4 (Appended64 o t names (K + 1) l.length (symsV l) w4)) := fun w4 hq hr => appendTo_64 t names K l.length (K + 1) (t.size / 24) o u8 _ w4 hr (Nat.lt_succ_self K) (Array.getElem?_eq_some_iff.1 hr).1 (hq.own hOb (Nat.lt_succ_self K)) hlm hz1 hz2 ho hzL
          cases hsy : symsOf 64 o t names (t.size / 24) with
          | none =>
            have hone : oneOf b 64 o n s (s i) = .error 56 := by rw [hsx]; exact one_none hop hsy
            have hT := tab_err (tab_at_err hl hin h2s hone)
            have HA' : Hid (∀ w4 : World, Kq K (wr.alloc (.cells #[.int .i64 (x0 : Int), .int .i64 2, .int .u64 (x2 : Int), .int .i64 (x3 : Int), .int .i64 (x4 : Int), .int .u64 (x5 : Int), .int .u64 (x6 : Int), .int .u64 (x7 : Int)] 60)) w4 → w4.heap[K]? = some (.cells (tabCells col64 o t names) 72 (0, 0)) → Calls Tryd.prog 24 #[.pointer (some ⟨K, 0, none⟩), u8] w4 fun r w' => r = .returned (.tuple #[.slice none 0 0, .int .i64 56]) ∧ Below (K + 1) w4 w') := fun w4 hq hr => (HA.out w4 hq hr).mono fun r w' ⟨h1, h2⟩ => by
              rcases h2 with ⟨l', v', h3, _⟩ | ⟨_, h4⟩
              · rw [hsy] at h3; cases h3
              · exact ⟨h4, h1⟩
            have HT := Hid.mk' hT
            have HBK := Hid.mk' hbK
            clear hT hone hop hl hsx hOb HO HA hsb hb ho hlm hn' hbK h2s hz1 hz2 hz3 hzL hsy hSc hgg
            go_wp2_with (first
              | (refine wpList_load_row rfl _ _ rfl wr.heap.size rfl _ _ _ _ hbx Tryd.underlying60 rfl (by kernel_rfl) ?_)
              | (go_at_call 23; refine (HO'.out).mono ?_; rintro r w4 ⟨rfl, hq, hr4⟩; clear hbx)
              | (go_at_call 24; refine (HA'.out _ hq hr4).mono ?_; rintro r w5 ⟨rfl, hb5⟩))
            go_ret2
            rw [HT.out.1, HT.out.2]
            exact ⟨_, rfl, World.ownsRow_nil _ _ _ _, (HBK.out.1.trans ((hq.below (Nat.le_refl K) (Nat.le_of_lt HBK.out.2.2)).mono HBK.out.2.1)).trans (hb5.mono (by have := HBK.out.2.1; omega))⟩
          | some m =>
            have hone : oneOf b 64 o n s (s i) = .ok m := by rw [hsx]; exact one_some hop hsy
            have hnext := tab_at_ok hl h2s hone
            have HA' : Hid (∀ w4 : World, Kq K (wr.alloc (.cells #[.int .i64 (x0 : Int), .int .i64 2, .int .u64 (x2 : Int), .int .i64 (x3 : Int), .int .i64 (x4 : Int), .int .u64 (x5 : Int), .int .u64 (x6 : Int), .int .u64 (x7 : Int)] 60)) w4 → w4.heap[K]? = some (.cells (tabCells col64 o t names) 72 (0, 0)) → Calls Tryd.prog 24 #[.pointer (some ⟨K, 0, none⟩), u8] w4 fun r w' => ∃ v, r = .returned (.tuple #[v, .int .i64 0]) ∧ w'.ownsRow (K + 1) 42 7 v (l ++ m).length (symsV (l ++ m)) ∧ Below (K + 1) w4 w') := fun w4 hq hr => (HA.out w4 hq hr).mono fun r w' ⟨h1, h2⟩ => by
              rcases h2 with ⟨l', v', h3, h4, h5⟩ | ⟨h3, _⟩
              · rw [hsy] at h3
                obtain rfl := Option.some.inj h3
                exact ⟨v', h4, by rw [List.length_append, symsV_append]; exact h5, h1⟩
              · rw [hsy] at h3; cases h3
            have HNX := Hid.mk' hnext
            have HBK := Hid.mk' (And.intro hbK (And.intro hSc hgg))
            clear hnext hone hop hl hsx hOb HO HA hsb hb ho hlm hn' hbK h2s hz1 hz2 hz3 hzL hsy hSc hgg
            go_wp2_with (first
              | (refine wpList_load_row rfl _ _ rfl wr.heap.size rfl _ _ _ _ hbx Tryd.underlying60 rfl (by kernel_rfl) ?_)
              | (go_at_call 23; refine (HO'.out).mono ?_; rintro r w4 ⟨rfl, hq, hr4⟩; clear hbx)
              | (go_at_call 24; refine (HA'.out _ hq hr4).mono ?_; rintro r w5 ⟨v5, rfl, ho5, hb5⟩))
            obtain ⟨⟨hB1, hK1, hK2⟩, hSc, hgg⟩ := HBK.out
            have HF : Hid (w5.ownsRow (K + 1) 42 7 v5 (l ++ m).length (symsV (l ++ m)) ∧ w5.heap[K]? = some (.cells (tabCells col64 o t names) 72 (0, 0)) ∧ SecsIn 0 w5 (.slice (some ⟨g, 0, none⟩) n cp) n s ∧ Below w.heap.size w w5 ∧ K + 1 ≤ w5.heap.size) := ⟨ho5, (hb5.block K (Nat.lt_succ_self K)).trans hr4, secs_low_64 (hSc w4 hq) hgg hb5, (hB1.trans ((hq.below (Nat.le_refl K) (Nat.le_of_lt hK2)).mono hK1)).trans (hb5.mono (by omega)), Nat.le_trans (Nat.le_trans hK2 hq.size) hb5.size⟩
            clear hB1 hK1 hK2 hSc hgg ho5 hr4 hb5 hq HBK
            go_roundw
            case rel => exact ⟨i + 1, l ++ m, t, names, hin, by go_num, HNX.out, HF.out⟩
            case measure => clear HF HNX HALL HA' HO'; simp [intOf]; omega
    · obtain rfl : i = n := Nat.le_antisymm hi (Nat.not_lt.1 hin)
      have HT := Hid.mk' (tab_ok hl)
      have hiI : ¬ (i : Int) < (i : Int) := Int.lt_irrefl _
      go_wp2
      go_ret2
      rw [HT.out.1, HT.out.2]
      exact ⟨_, rfl, own_base hown (by omega), hB⟩
end Go.Proofs.YtkmehjikllilaaaDoor

-- The document's number, of symbol tables: contracts.
namespace Go.Proofs.YtkmehjikllilaaaDoor
open Go.ChangeShapes Go.WideShapes Go.ChangeAt Go.RowKit
set_option linter.unusedVariables false
set_option maxRecDepth 100000
theorem dNumber_big (b : ByteArray) (p n : Nat) (w : World) (h : p + n ≤ b.size) (hn : n ≤ 8) (hm : b.size ≤ maxLen) :
    Calls Tryd.prog 46 #[.string b, .int .i64 p, .int .i64 n, .int .i64 1] w fun r w' => r = .returned (.int .u64 (num b p n 1)) ∧ w' = w := by
  unfold maxLen at hm
  go_enter Tryd.func46, Tryd.ntmps46
  go_wp2
  go_loopw [9, 10] (fun v i wx => ∃ k : Nat, k ≤ n ∧ i = .int .i64 k ∧ v = .int .u64 (pre b p n k 1) ∧ wx = w) (fun _ i _ => n - (intOf i).toNat)
  case atStart => exact ⟨0, Nat.zero_le _, rfl, by rw [pre_zero]; rfl, rfl⟩
  case round =>
    obtain ⟨k, hk, rfl, rfl, rfl⟩ := hrel
    by_cases hlt : k < n
    · have hV : pre b p n k 1 < 72057594037927936 := Nat.lt_of_lt_of_le (pre_lt b p n k 1) (pow7 k (by omega))
      have HN := Hid.mk' (pre_big b p n k (by omega))
      have HB := Hid.mk' (byt_lt b (p + k))
      have hidx : ∀ w : World, (Instr.index 9 (.string b) (.int .i64 ((p : Int) + (k : Int)))).run Tryd.prog w = .ok (.int .u8 (byt b (p + k))) w := idx_byt' b (p + k) (by omega)
      generalize pre b p n k 1 = V at hV HN
      generalize byt b (p + k) = y at hidx HN HB
      have hk3 : (k : Int) < (n : Int) := by omega
      go_wp2
      go_roundw
      case rel =>
        refine ⟨k + 1, by omega, by go_num, int_eq' ?_, trivial⟩
        have h1 := HN.out
        have h2 := HB.out
        simp only [IntKind.wrap_u64]
        omega
      case measure => simp [intOf]; omega
    · obtain rfl : k = n := by omega
      go_wp2
      go_ret
      exact ⟨by rw [pre_all b p k 1 h]; rfl, rfl⟩
theorem dNumber_little (b : ByteArray) (p n : Nat) (w : World) (h : p + n ≤ b.size) (hn : n ≤ 8) (hm : b.size ≤ maxLen) :
    Calls Tryd.prog 46 #[.string b, .int .i64 p, .int .i64 n, .int .i64 0] w fun r w' => r = .returned (.int .u64 (num b p n 0)) ∧ w' = w := by
  unfold maxLen at hm
  go_enter Tryd.func46, Tryd.ntmps46
  go_wp2
  go_loopw [9, 10] (fun v i wx => ∃ k : Nat, k ≤ n ∧ i = .int .i64 k ∧ v = .int .u64 (pre b p n k 0) ∧ wx = w) (fun _ i _ => n - (intOf i).toNat)
  case atStart => exact ⟨0, Nat.zero_le _, rfl, by rw [pre_zero]; rfl, rfl⟩
  case round =>
    obtain ⟨k, hk, rfl, rfl, rfl⟩ := hrel
    by_cases hlt : k < n
    · have hV : pre b p n k 0 < 72057594037927936 := Nat.lt_of_lt_of_le (pre_lt b p n k 0) (pow7 k (by omega))
      have HN := Hid.mk' (pre_little b p n k hlt h)
      have HB := Hid.mk' (byt_lt b (p + n - 1 - k))
      have hidx : ∀ w : World, (Instr.index 9 (.string b) (.int .i64 ((p : Int) + (n : Int) - 1 - (k : Int)))).run Tryd.prog w = .ok (.int .u8 (byt b (p + n - 1 - k))) w := fun w => by
        have h1 := idx_byt' b (p + n - 1 - k) (by omega) w
        rw [show ((p + n - 1 - k : Nat) : Int) = (p : Int) + n - 1 - k by omega] at h1
        exact h1
      generalize pre b p n k 0 = V at hV HN
      generalize byt b (p + n - 1 - k) = y at hidx HN HB
      have hk3 : (k : Int) < (n : Int) := by omega
      go_wp2
      go_roundw
      case rel =>
        refine ⟨k + 1, by omega, by go_num, int_eq' ?_, trivial⟩
        have h1 := HN.out
        have h2 := HB.out
        simp only [IntKind.wrap_u64]
        omega
      case measure => simp [intOf]; omega
    · obtain rfl : k = n := by omega
      go_wp2
      go_ret
      exact ⟨by rw [pre_all b p k 0 h]; rfl, rfl⟩
theorem dNumber_c (b : ByteArray) (p n : Nat) (o : Int) (w : World) (ho : o = 0 ∨ o = 1) (h : p + n ≤ b.size) (hn : n ≤ 8) (hm : b.size ≤ maxLen) :
    Calls Tryd.prog 46 #[.string b, .int .i64 p, .int .i64 n, .int .i64 o] w fun r w' => r = .returned (.int .u64 (num b p n o)) ∧ w' = w := by
  rcases ho with rfl | rfl
  · exact dNumber_little b p n w h hn hm
  · exact dNumber_big b p n w h hn hm
theorem num_one (b : ByteArray) (p : Nat) (o : Int) (h : p < b.size) (ho : o = 0 ∨ o = 1) : num b p 1 o = byt b p := by
  rw [← pre_all b p 1 o (by omega)]
  rcases ho with rfl | rfl
  · rw [pre_little b p 1 0 (by omega) (by omega), pre_zero]
    show 0 * 256 + byt b p = byt b p
    omega
  · rw [pre_big b p 1 0 (by omega), pre_zero]
    show 0 * 256 + byt b p = byt b p
    omega
theorem entrySize_32 (w : World) : Calls Tryd.prog 31 #[.int .i64 32] w fun r w' => r = .returned (.int .i64 16) ∧ w' = w := by
  go_enter Tryd.func31, Tryd.ntmps31
  go_wp2
  go_ret
  exact ⟨rfl, rfl⟩
theorem entrySize_64 (w : World) : Calls Tryd.prog 31 #[.int .i64 64] w fun r w' => r = .returned (.int .i64 24) ∧ w' = w := by
  go_enter Tryd.func31, Tryd.ntmps31
  go_wp2
  go_ret
  exact ⟨rfl, rfl⟩
end Go.Proofs.YtkmehjikllilaaaDoor

-- The document's entries of symbol tables: contracts.
namespace Go.Proofs.YtkmehjikllilaaaDoor
open Go.ChangeShapes Go.WideShapes Go.ChangeAt Go.RowKit
set_option linter.unusedVariables false
set_option maxRecDepth 100000
set_option maxHeartbeats 2000000 in
theorem dEntry_32 (t : ByteArray) (p : Nat) (o : Int) (w : World) (hs : p + 16 ≤ t.size) (hm : t.size ≤ maxLen) (ho : o = 0 ∨ o = 1) :
    Calls Tryd.prog 34 #[.string t, .int .i64 p, .int .i64 o] w fun r w' => r = .returned (.agg #[.int .i64 ((num t p 4 o : Nat) : Int), .string ⟨#[]⟩, .int .i64 ((num t (p + 12) 1 o / 16 : Nat) : Int), .int .i64 ((num t (p + 12) 1 o % 16 : Nat) : Int), .int .i64 ((num t (p + 13) 1 o : Nat) : Int), .int .i64 ((num t (p + 14) 2 o : Nat) : Int), .int .u64 ((num t (p + 4) 4 o : Nat) : Int), .int .u64 ((num t (p + 8) 4 o : Nat) : Int)]) ∧ Below w.heap.size w w' := by
  have HN : Hid (∀ (w : World) (q n : Int), ((p : Int) ≤ q ∧ 0 ≤ n ∧ n ≤ 8 ∧ q + n ≤ (p : Int) + 16) → Calls Tryd.prog 46 #[.string t, .int .i64 q, .int .i64 n, .int .i64 o] w fun r w' => r = .returned (.int .u64 (numI t q n o)) ∧ w' = w) := by
    intro w q n hc
    obtain ⟨A, rfl⟩ := Int.eq_ofNat_of_zero_le (show 0 ≤ q by omega)
    obtain ⟨N, rfl⟩ := Int.eq_ofNat_of_zero_le hc.2.1
    exact dNumber_c t A N o w ho (by omega) (by omega) hm
  have hp2 : (p : Int) + 16 ≤ 9223372036854775807 := by unfold maxLen at hm; omega
  have e1 := num_one t (p + 12) o (by omega) ho
  have e2 := num_one t (p + 13) o (by omega) ho
  have i1 : ∀ w : World, (Instr.index 9 (.string t) (.int .i64 ((p : Int) + 12))).run Tryd.prog w = .ok (.int .u8 ((num t (p + 12) 1 o : Nat) : Int)) w := fun w => by rw [e1]; exact idx_byt' t (p + 12) (by omega) w
  have i2 : ∀ w : World, (Instr.index 9 (.string t) (.int .i64 ((p : Int) + 13))).run Tryd.prog w = .ok (.int .u8 ((num t (p + 13) 1 o : Nat) : Int)) w := fun w => by rw [e2]; exact idx_byt' t (p + 13) (by omega) w
  have hz := num_lt1 t (p + 12) o
  have hy := num_lt1 t (p + 13) o
  have HZ := Hid.mk' hz
  have hb0 : (0 : Int) ≤ numI t (p : Int) 4 o := Int.natCast_nonneg _
  have hb1 : numI t (p : Int) 4 o ≤ 4294967295 := Int.ofNat_le.2 (Nat.le_of_lt_succ (num_lt4 t _ o))
  have hc0 : (0 : Int) ≤ numI t ((p : Int) + 14) 2 o := Int.natCast_nonneg _
  have hc1 : numI t ((p : Int) + 14) 2 o ≤ 65535 := Int.ofNat_le.2 (Nat.le_of_lt_succ (num_lt2 t _ o))
  generalize num t (p + 12) 1 o = z at i1 hz HZ e1 ⊢
  generalize num t (p + 13) 1 o = y at i2 hy e2 ⊢
  have hz0 : (0 : Int) ≤ (z : Int) := Int.natCast_nonneg _
  have hz1 : (z : Int) ≤ 255 := Int.ofNat_le.2 (Nat.le_of_lt_succ hz)
  have hy0 : (0 : Int) ≤ (y : Int) := Int.natCast_nonneg _
  have hy1 : (y : Int) ≤ 255 := Int.ofNat_le.2 (Nat.le_of_lt_succ hy)
  clear hs hm ho hz hy e1 e2
  go_enter Tryd.func34, Tryd.ntmps34
  go_wp2_with (first
    | (go_at_call 46; refine (HN.out _ _ _ (by omega)).mono ?_; rintro e w1 ⟨rfl, hw⟩; subst w1)
    | (refine wpList_store_row rfl _ _ _ rfl w.heap.size _ rfl rfl _ _ (heap_alloc_new w _) rfl (by kernel_rfl) (by kernel_rfl) ?_))
  exact bodyPost_ret (results_cell_row rfl _ _ w.heap.size _ _ _ _ rfl (setRow_heap _ _ _ _ _ _ (heap_alloc_new w _)) Tryd.underlying87 rfl (by kernel_rfl)) rfl ⟨rfl, below_setRow (Below.alloc (Below.refl _ _) (Nat.le_refl _) _) (Nat.le_refl _) _⟩
set_option maxHeartbeats 2000000 in
theorem dEntry_64 (t : ByteArray) (p : Nat) (o : Int) (w : World) (hs : p + 24 ≤ t.size) (hm : t.size ≤ maxLen) (ho : o = 0 ∨ o = 1) :
    Calls Tryd.prog 35 #[.string t, .int .i64 p, .int .i64 o] w fun r w' => r = .returned (.agg #[.int .i64 ((num t p 4 o : Nat) : Int), .string ⟨#[]⟩, .int .i64 ((num t (p + 4) 1 o / 16 : Nat) : Int), .int .i64 ((num t (p + 4) 1 o % 16 : Nat) : Int), .int .i64 ((num t (p + 5) 1 o : Nat) : Int), .int .i64 ((num t (p + 6) 2 o : Nat) : Int), .int .u64 ((num t (p + 8) 8 o : Nat) : Int), .int .u64 ((num t (p + 16) 8 o : Nat) : Int)]) ∧ Below w.heap.size w w' := by
  have HN : Hid (∀ (w : World) (q n : Int), ((p : Int) ≤ q ∧ 0 ≤ n ∧ n ≤ 8 ∧ q + n ≤ (p : Int) + 24) → Calls Tryd.prog 46 #[.string t, .int .i64 q, .int .i64 n, .int .i64 o] w fun r w' => r = .returned (.int .u64 (numI t q n o)) ∧ w' = w) := by
    intro w q n hc
    obtain ⟨A, rfl⟩ := Int.eq_ofNat_of_zero_le (show 0 ≤ q by omega)
    obtain ⟨N, rfl⟩ := Int.eq_ofNat_of_zero_le hc.2.1
    exact dNumber_c t A N o w ho (by omega) (by omega) hm
  have hp2 : (p : Int) + 24 ≤ 9223372036854775807 := by unfold maxLen at hm; omega
  have e1 := num_one t (p + 4) o (by omega) ho
  have e2 := num_one t (p + 5) o (by omega) ho
  have i1 : ∀ w : World, (Instr.index 9 (.string t) (.int .i64 ((p : Int) + 4))).run Tryd.prog w = .ok (.int .u8 ((num t (p + 4) 1 o : Nat) : Int)) w := fun w => by rw [e1]; exact idx_byt' t (p + 4) (by omega) w
  have i2 : ∀ w : World, (Instr.index 9 (.string t) (.int .i64 ((p : Int) + 5))).run Tryd.prog w = .ok (.int .u8 ((num t (p + 5) 1 o : Nat) : Int)) w := fun w => by rw [e2]; exact idx_byt' t (p + 5) (by omega) w
  have hz := num_lt1 t (p + 4) o
  have hy := num_lt1 t (p + 5) o
  have HZ := Hid.mk' hz
  have hb0 : (0 : Int) ≤ numI t (p : Int) 4 o := Int.natCast_nonneg _
  have hb1 : numI t (p : Int) 4 o ≤ 4294967295 := Int.ofNat_le.2 (Nat.le_of_lt_succ (num_lt4 t _ o))
  have hc0 : (0 : Int) ≤ numI t ((p : Int) + 6) 2 o := Int.natCast_nonneg _
  have hc1 : numI t ((p : Int) + 6) 2 o ≤ 65535 := Int.ofNat_le.2 (Nat.le_of_lt_succ (num_lt2 t _ o))
  generalize num t (p + 4) 1 o = z at i1 hz HZ e1 ⊢
  generalize num t (p + 5) 1 o = y at i2 hy e2 ⊢
  have hz0 : (0 : Int) ≤ (z : Int) := Int.natCast_nonneg _
  have hz1 : (z : Int) ≤ 255 := Int.ofNat_le.2 (Nat.le_of_lt_succ hz)
  have hy0 : (0 : Int) ≤ (y : Int) := Int.natCast_nonneg _
  have hy1 : (y : Int) ≤ 255 := Int.ofNat_le.2 (Nat.le_of_lt_succ hy)
  clear hs hm ho hz hy e1 e2
  go_enter Tryd.func35, Tryd.ntmps35
  go_wp2_with (first
    | (go_at_call 46; refine (HN.out _ _ _ (by omega)).mono ?_; rintro e w1 ⟨rfl, hw⟩; subst w1)
    | (refine wpList_store_row rfl _ _ _ rfl w.heap.size _ rfl rfl _ _ (heap_alloc_new w _) rfl (by kernel_rfl) (by kernel_rfl) ?_))
  exact bodyPost_ret (results_cell_row rfl _ _ w.heap.size _ _ _ _ rfl (setRow_heap _ _ _ _ _ _ (heap_alloc_new w _)) Tryd.underlying87 rfl (by kernel_rfl)) rfl ⟨rfl, below_setRow (Below.alloc (Below.refl _ _) (Nat.le_refl _) _) (Nat.le_refl _) _⟩
end Go.Proofs.YtkmehjikllilaaaDoor

-- The document's strings: contracts.
namespace Go.Proofs.YtkmehjikllilaaaDoor
open Go.ChangeShapes Go.WideShapes Go.ChangeAt Go.RowKit
set_option linter.unusedVariables false
set_option maxRecDepth 100000
theorem strings_60a (b : ByteArray) (ao : Option Addr) (n cp x0 x1 x2 x3 x4 x5 x6 x7 : Nat) (w : World) (hli : n ≤ x3) :
    Calls Tryd.prog 33 #[.string b, .slice ao n cp, .agg #[.int .i64 (x0 : Int), .int .i64 (x1 : Int), .int .u64 (x2 : Int), .int .i64 (x3 : Int), .int .i64 (x4 : Int), .int .u64 (x5 : Int), .int .u64 (x6 : Int), .int .u64 (x7 : Int)]] w fun r w' => r = .returned (.tuple #[.string .empty, .int .i64 60]) ∧ Below w.heap.size w w' := by
  have hge : (n : Int) ≤ (x3 : Int) := Int.ofNat_le.2 hli
  clear hli
  go_enter Tryd.func33, Tryd.ntmps33
  go_wp2
  go_ret2
  exact ⟨rfl, Below.alloc (Below.refl _ _) (Nat.le_refl _) _⟩
set_option maxHeartbeats 1000000 in
theorem strings_60b (b : ByteArray) (n cp g : Nat) (cur : Array Value) (x0 x1 x2 x3 x4 x5 x6 x7 : Nat) (y0 y1 y2 y3 y4 y5 y6 y7 : Nat) (w : World) (hli : x3 < n) (hn : n ≤ 26214) (hg : w.heap[g]? = some (.cells cur 60 (0, 0))) (hy : ∀ m, m < 8 → cur[x3 * 8 + m]? = (#[.int .i64 (y0 : Int), .int .i64 (y1 : Int), .int .u64 (y2 : Int), .int .i64 (y3 : Int), .int .i64 (y4 : Int), .int .u64 (y5 : Int), .int .u64 (y6 : Int), .int .u64 (y7 : Int)] : Array Value)[m]?) (h3 : y1 ≠ 3) :
    Calls Tryd.prog 33 #[.string b, .slice (some ⟨g, 0, none⟩) n cp, .agg #[.int .i64 (x0 : Int), .int .i64 (x1 : Int), .int .u64 (x2 : Int), .int .i64 (x3 : Int), .int .i64 (x4 : Int), .int .u64 (x5 : Int), .int .u64 (x6 : Int), .int .u64 (x7 : Int)]] w fun r w' => r = .returned (.tuple #[.string .empty, .int .i64 60]) ∧ Below w.heap.size w w' := by
  have hge : ¬ (n : Int) ≤ (x3 : Int) := Int.not_le.2 (Int.ofNat_lt.2 hli)
  have hlt : (x3 : Int) < (n : Int) := Int.ofNat_lt.2 hli
  have hl0 : (0 : Int) ≤ (x3 : Int) := Int.natCast_nonneg _
  have hgb : (w.alloc (.cells #[.int .i64 (x0 : Int), .int .i64 (x1 : Int), .int .u64 (x2 : Int), .int .i64 (x3 : Int), .int .i64 (x4 : Int), .int .u64 (x5 : Int), .int .u64 (x6 : Int), .int .u64 (x7 : Int)] 60)).heap[g]? = some (.cells cur 60 (0, 0)) := (Below.heap_alloc w _ g (Array.getElem?_eq_some_iff.1 hg).1).trans hg
  have h3n : ((y1 : Int) != 3) = true := bne_iff_ne.2 (by omega)
  have a0 : (w.alloc (.cells #[.int .i64 (x0 : Int), .int .i64 (x1 : Int), .int .u64 (x2 : Int), .int .i64 (x3 : Int), .int .i64 (x4 : Int), .int .u64 (x5 : Int), .int .u64 (x6 : Int), .int .u64 (x7 : Int)] 60)).cell? ⟨g, x3 * 8, none⟩ = some (.int .i64 (y0 : Int)) := (cell_of_row _ _ _ _ _ _ hgb).trans (hy 0 (by omega))
  have a1 : (w.alloc (.cells #[.int .i64 (x0 : Int), .int .i64 (x1 : Int), .int .u64 (x2 : Int), .int .i64 (x3 : Int), .int .i64 (x4 : Int), .int .u64 (x5 : Int), .int .u64 (x6 : Int), .int .u64 (x7 : Int)] 60)).cell? ⟨g, x3 * 8 + 1, none⟩ = some (.int .i64 (y1 : Int)) := (cell_of_row _ _ _ _ _ _ hgb).trans (hy 1 (by omega))
  have a2 : (w.alloc (.cells #[.int .i64 (x0 : Int), .int .i64 (x1 : Int), .int .u64 (x2 : Int), .int .i64 (x3 : Int), .int .i64 (x4 : Int), .int .u64 (x5 : Int), .int .u64 (x6 : Int), .int .u64 (x7 : Int)] 60)).cell? ⟨g, x3 * 8 + 2, none⟩ = some (.int .u64 (y2 : Int)) := (cell_of_row _ _ _ _ _ _ hgb).trans (hy 2 (by omega))
  have a3 : (w.alloc (.cells #[.int .i64 (x0 : Int), .int .i64 (x1 : Int), .int .u64 (x2 : Int), .int .i64 (x3 : Int), .int .i64 (x4 : Int), .int .u64 (x5 : Int), .int .u64 (x6 : Int), .int .u64 (x7 : Int)] 60)).cell? ⟨g, x3 * 8 + 3, none⟩ = some (.int .i64 (y3 : Int)) := (cell_of_row _ _ _ _ _ _ hgb).trans (hy 3 (by omega))
  have a4 : (w.alloc (.cells #[.int .i64 (x0 : Int), .int .i64 (x1 : Int), .int .u64 (x2 : Int), .int .i64 (x3 : Int), .int .i64 (x4 : Int), .int .u64 (x5 : Int), .int .u64 (x6 : Int), .int .u64 (x7 : Int)] 60)).cell? ⟨g, x3 * 8 + 4, none⟩ = some (.int .i64 (y4 : Int)) := (cell_of_row _ _ _ _ _ _ hgb).trans (hy 4 (by omega))
  have a5 : (w.alloc (.cells #[.int .i64 (x0 : Int), .int .i64 (x1 : Int), .int .u64 (x2 : Int), .int .i64 (x3 : Int), .int .i64 (x4 : Int), .int .u64 (x5 : Int), .int .u64 (x6 : Int), .int .u64 (x7 : Int)] 60)).cell? ⟨g, x3 * 8 + 5, none⟩ = some (.int .u64 (y5 : Int)) := (cell_of_row _ _ _ _ _ _ hgb).trans (hy 5 (by omega))
  have a6 : (w.alloc (.cells #[.int .i64 (x0 : Int), .int .i64 (x1 : Int), .int .u64 (x2 : Int), .int .i64 (x3 : Int), .int .i64 (x4 : Int), .int .u64 (x5 : Int), .int .u64 (x6 : Int), .int .u64 (x7 : Int)] 60)).cell? ⟨g, x3 * 8 + 6, none⟩ = some (.int .u64 (y6 : Int)) := (cell_of_row _ _ _ _ _ _ hgb).trans (hy 6 (by omega))
  have a7 : (w.alloc (.cells #[.int .i64 (x0 : Int), .int .i64 (x1 : Int), .int .u64 (x2 : Int), .int .i64 (x3 : Int), .int .i64 (x4 : Int), .int .u64 (x5 : Int), .int .u64 (x6 : Int), .int .u64 (x7 : Int)] 60)).cell? ⟨g, x3 * 8 + 7, none⟩ = some (.int .u64 (y7 : Int)) := (cell_of_row _ _ _ _ _ _ hgb).trans (hy 7 (by omega))
  clear hg hgb hy hli hn h3
  go_enter Tryd.func33, Tryd.ntmps33
  go_wp2
  go_ret2
  exact ⟨rfl, Below.alloc (Below.alloc (Below.refl _ _) (Nat.le_refl _) _) (by rw [size_alloc]; exact Nat.le_succ _) _⟩
set_option maxHeartbeats 1000000 in
theorem strings_54 (b : ByteArray) (n cp g : Nat) (cur : Array Value) (x0 x1 x2 x3 x4 x5 x6 x7 : Nat) (y0 y2 y3 y4 y5 y6 y7 : Nat) (w : World) (hli : x3 < n) (hn : n ≤ 26214) (hg : w.heap[g]? = some (.cells cur 60 (0, 0))) (hy : ∀ m, m < 8 → cur[x3 * 8 + m]? = (#[.int .i64 (y0 : Int), .int .i64 3, .int .u64 (y2 : Int), .int .i64 (y3 : Int), .int .i64 (y4 : Int), .int .u64 (y5 : Int), .int .u64 (y6 : Int), .int .u64 (y7 : Int)] : Array Value)[m]?)
    (hD : ∀ w : World, Calls Tryd.prog 32 #[.string b, .agg #[.int .i64 (y0 : Int), .int .i64 3, .int .u64 (y2 : Int), .int .i64 (y3 : Int), .int .i64 (y4 : Int), .int .u64 (y5 : Int), .int .u64 (y6 : Int), .int .u64 (y7 : Int)]] w fun r w' => r = .returned (.tuple #[.string .empty, .int .i64 54]) ∧ Below w.heap.size w w') :
    Calls Tryd.prog 33 #[.string b, .slice (some ⟨g, 0, none⟩) n cp, .agg #[.int .i64 (x0 : Int), .int .i64 (x1 : Int), .int .u64 (x2 : Int), .int .i64 (x3 : Int), .int .i64 (x4 : Int), .int .u64 (x5 : Int), .int .u64 (x6 : Int), .int .u64 (x7 : Int)]] w fun r w' => r = .returned (.tuple #[.string .empty, .int .i64 54]) ∧ Below w.heap.size w w' := by
  have hge : ¬ (n : Int) ≤ (x3 : Int) := Int.not_le.2 (Int.ofNat_lt.2 hli)
  have hlt : (x3 : Int) < (n : Int) := Int.ofNat_lt.2 hli
  have hl0 : (0 : Int) ≤ (x3 : Int) := Int.natCast_nonneg _
  have hgb : (w.alloc (.cells #[.int .i64 (x0 : Int), .int .i64 (x1 : Int), .int .u64 (x2 : Int), .int .i64 (x3 : Int), .int .i64 (x4 : Int), .int .u64 (x5 : Int), .int .u64 (x6 : Int), .int .u64 (x7 : Int)] 60)).heap[g]? = some (.cells cur 60 (0, 0)) := (Below.heap_alloc w _ g (Array.getElem?_eq_some_iff.1 hg).1).trans hg
  have a0 : (w.alloc (.cells #[.int .i64 (x0 : Int), .int .i64 (x1 : Int), .int .u64 (x2 : Int), .int .i64 (x3 : Int), .int .i64 (x4 : Int), .int .u64 (x5 : Int), .int .u64 (x6 : Int), .int .u64 (x7 : Int)] 60)).cell? ⟨g, x3 * 8, none⟩ = some (.int .i64 (y0 : Int)) := (cell_of_row _ _ _ _ _ _ hgb).trans (hy 0 (by omega))
  have a1 : (w.alloc (.cells #[.int .i64 (x0 : Int), .int .i64 (x1 : Int), .int .u64 (x2 : Int), .int .i64 (x3 : Int), .int .i64 (x4 : Int), .int .u64 (x5 : Int), .int .u64 (x6 : Int), .int .u64 (x7 : Int)] 60)).cell? ⟨g, x3 * 8 + 1, none⟩ = some (.int .i64 3) := (cell_of_row _ _ _ _ _ _ hgb).trans (hy 1 (by omega))
  have a2 : (w.alloc (.cells #[.int .i64 (x0 : Int), .int .i64 (x1 : Int), .int .u64 (x2 : Int), .int .i64 (x3 : Int), .int .i64 (x4 : Int), .int .u64 (x5 : Int), .int .u64 (x6 : Int), .int .u64 (x7 : Int)] 60)).cell? ⟨g, x3 * 8 + 2, none⟩ = some (.int .u64 (y2 : Int)) := (cell_of_row _ _ _ _ _ _ hgb).trans (hy 2 (by omega))
  have a3 : (w.alloc (.cells #[.int .i64 (x0 : Int), .int .i64 (x1 : Int), .int .u64 (x2 : Int), .int .i64 (x3 : Int), .int .i64 (x4 : Int), .int .u64 (x5 : Int), .int .u64 (x6 : Int), .int .u64 (x7 : Int)] 60)).cell? ⟨g, x3 * 8 + 3, none⟩ = some (.int .i64 (y3 : Int)) := (cell_of_row _ _ _ _ _ _ hgb).trans (hy 3 (by omega))
  have a4 : (w.alloc (.cells #[.int .i64 (x0 : Int), .int .i64 (x1 : Int), .int .u64 (x2 : Int), .int .i64 (x3 : Int), .int .i64 (x4 : Int), .int .u64 (x5 : Int), .int .u64 (x6 : Int), .int .u64 (x7 : Int)] 60)).cell? ⟨g, x3 * 8 + 4, none⟩ = some (.int .i64 (y4 : Int)) := (cell_of_row _ _ _ _ _ _ hgb).trans (hy 4 (by omega))
  have a5 : (w.alloc (.cells #[.int .i64 (x0 : Int), .int .i64 (x1 : Int), .int .u64 (x2 : Int), .int .i64 (x3 : Int), .int .i64 (x4 : Int), .int .u64 (x5 : Int), .int .u64 (x6 : Int), .int .u64 (x7 : Int)] 60)).cell? ⟨g, x3 * 8 + 5, none⟩ = some (.int .u64 (y5 : Int)) := (cell_of_row _ _ _ _ _ _ hgb).trans (hy 5 (by omega))
  have a6 : (w.alloc (.cells #[.int .i64 (x0 : Int), .int .i64 (x1 : Int), .int .u64 (x2 : Int), .int .i64 (x3 : Int), .int .i64 (x4 : Int), .int .u64 (x5 : Int), .int .u64 (x6 : Int), .int .u64 (x7 : Int)] 60)).cell? ⟨g, x3 * 8 + 6, none⟩ = some (.int .u64 (y6 : Int)) := (cell_of_row _ _ _ _ _ _ hgb).trans (hy 6 (by omega))
  have a7 : (w.alloc (.cells #[.int .i64 (x0 : Int), .int .i64 (x1 : Int), .int .u64 (x2 : Int), .int .i64 (x3 : Int), .int .i64 (x4 : Int), .int .u64 (x5 : Int), .int .u64 (x6 : Int), .int .u64 (x7 : Int)] 60)).cell? ⟨g, x3 * 8 + 7, none⟩ = some (.int .u64 (y7 : Int)) := (cell_of_row _ _ _ _ _ _ hgb).trans (hy 7 (by omega))
  have HD := Hid.mk' hD
  clear hg hgb hy hli hn hD
  go_enter Tryd.func33, Tryd.ntmps33
  go_wp2_with (first
    | (refine wpList_load_row rfl _ _ rfl (w.heap.size + 1) rfl _ _ _ _ (heap_alloc2_new w _ _) Tryd.underlying60 rfl (by kernel_rfl) ?_)
    | (go_at_call 32; refine (HD.out _).mono ?_; rintro r w1 ⟨rfl, hb1⟩))
  go_ret2
  exact ⟨rfl, (Below.alloc (Below.alloc (Below.refl _ _) (Nat.le_refl _) _) (by rw [size_alloc]; exact Nat.le_succ _) _).trans (hb1.mono (by rw [size_alloc, size_alloc]; omega))⟩
set_option maxHeartbeats 1000000 in
theorem strings_ok (b names : ByteArray) (n cp g : Nat) (cur : Array Value) (x0 x1 x2 x3 x4 x5 x6 x7 : Nat) (y0 y2 y3 y4 y5 y6 y7 : Nat) (w : World) (hli : x3 < n) (hn : n ≤ 26214) (hg : w.heap[g]? = some (.cells cur 60 (0, 0))) (hy : ∀ m, m < 8 → cur[x3 * 8 + m]? = (#[.int .i64 (y0 : Int), .int .i64 3, .int .u64 (y2 : Int), .int .i64 (y3 : Int), .int .i64 (y4 : Int), .int .u64 (y5 : Int), .int .u64 (y6 : Int), .int .u64 (y7 : Int)] : Array Value)[m]?)
    (hD : ∀ w : World, Calls Tryd.prog 32 #[.string b, .agg #[.int .i64 (y0 : Int), .int .i64 3, .int .u64 (y2 : Int), .int .i64 (y3 : Int), .int .i64 (y4 : Int), .int .u64 (y5 : Int), .int .u64 (y6 : Int), .int .u64 (y7 : Int)]] w fun r w' => r = .returned (.tuple #[.string names, .int .i64 0]) ∧ Below w.heap.size w w') :
    Calls Tryd.prog 33 #[.string b, .slice (some ⟨g, 0, none⟩) n cp, .agg #[.int .i64 (x0 : Int), .int .i64 (x1 : Int), .int .u64 (x2 : Int), .int .i64 (x3 : Int), .int .i64 (x4 : Int), .int .u64 (x5 : Int), .int .u64 (x6 : Int), .int .u64 (x7 : Int)]] w fun r w' => r = .returned (.tuple #[.string names, .int .i64 0]) ∧ Below w.heap.size w w' := by
  have hge : ¬ (n : Int) ≤ (x3 : Int) := Int.not_le.2 (Int.ofNat_lt.2 hli)
  have hlt : (x3 : Int) < (n : Int) := Int.ofNat_lt.2 hli
  have hl0 : (0 : Int) ≤ (x3 : Int) := Int.natCast_nonneg _
  have hgb : (w.alloc (.cells #[.int .i64 (x0 : Int), .int .i64 (x1 : Int), .int .u64 (x2 : Int), .int .i64 (x3 : Int), .int .i64 (x4 : Int), .int .u64 (x5 : Int), .int .u64 (x6 : Int), .int .u64 (x7 : Int)] 60)).heap[g]? = some (.cells cur 60 (0, 0)) := (Below.heap_alloc w _ g (Array.getElem?_eq_some_iff.1 hg).1).trans hg
  have a0 : (w.alloc (.cells #[.int .i64 (x0 : Int), .int .i64 (x1 : Int), .int .u64 (x2 : Int), .int .i64 (x3 : Int), .int .i64 (x4 : Int), .int .u64 (x5 : Int), .int .u64 (x6 : Int), .int .u64 (x7 : Int)] 60)).cell? ⟨g, x3 * 8, none⟩ = some (.int .i64 (y0 : Int)) := (cell_of_row _ _ _ _ _ _ hgb).trans (hy 0 (by omega))
  have a1 : (w.alloc (.cells #[.int .i64 (x0 : Int), .int .i64 (x1 : Int), .int .u64 (x2 : Int), .int .i64 (x3 : Int), .int .i64 (x4 : Int), .int .u64 (x5 : Int), .int .u64 (x6 : Int), .int .u64 (x7 : Int)] 60)).cell? ⟨g, x3 * 8 + 1, none⟩ = some (.int .i64 3) := (cell_of_row _ _ _ _ _ _ hgb).trans (hy 1 (by omega))
  have a2 : (w.alloc (.cells #[.int .i64 (x0 : Int), .int .i64 (x1 : Int), .int .u64 (x2 : Int), .int .i64 (x3 : Int), .int .i64 (x4 : Int), .int .u64 (x5 : Int), .int .u64 (x6 : Int), .int .u64 (x7 : Int)] 60)).cell? ⟨g, x3 * 8 + 2, none⟩ = some (.int .u64 (y2 : Int)) := (cell_of_row _ _ _ _ _ _ hgb).trans (hy 2 (by omega))
  have a3 : (w.alloc (.cells #[.int .i64 (x0 : Int), .int .i64 (x1 : Int), .int .u64 (x2 : Int), .int .i64 (x3 : Int), .int .i64 (x4 : Int), .int .u64 (x5 : Int), .int .u64 (x6 : Int), .int .u64 (x7 : Int)] 60)).cell? ⟨g, x3 * 8 + 3, none⟩ = some (.int .i64 (y3 : Int)) := (cell_of_row _ _ _ _ _ _ hgb).trans (hy 3 (by omega))
  have a4 : (w.alloc (.cells #[.int .i64 (x0 : Int), .int .i64 (x1 : Int), .int .u64 (x2 : Int), .int .i64 (x3 : Int), .int .i64 (x4 : Int), .int .u64 (x5 : Int), .int .u64 (x6 : Int), .int .u64 (x7 : Int)] 60)).cell? ⟨g, x3 * 8 + 4, none⟩ = some (.int .i64 (y4 : Int)) := (cell_of_row _ _ _ _ _ _ hgb).trans (hy 4 (by omega))
  have a5 : (w.alloc (.cells #[.int .i64 (x0 : Int), .int .i64 (x1 : Int), .int .u64 (x2 : Int), .int .i64 (x3 : Int), .int .i64 (x4 : Int), .int .u64 (x5 : Int), .int .u64 (x6 : Int), .int .u64 (x7 : Int)] 60)).cell? ⟨g, x3 * 8 + 5, none⟩ = some (.int .u64 (y5 : Int)) := (cell_of_row _ _ _ _ _ _ hgb).trans (hy 5 (by omega))
  have a6 : (w.alloc (.cells #[.int .i64 (x0 : Int), .int .i64 (x1 : Int), .int .u64 (x2 : Int), .int .i64 (x3 : Int), .int .i64 (x4 : Int), .int .u64 (x5 : Int), .int .u64 (x6 : Int), .int .u64 (x7 : Int)] 60)).cell? ⟨g, x3 * 8 + 6, none⟩ = some (.int .u64 (y6 : Int)) := (cell_of_row _ _ _ _ _ _ hgb).trans (hy 6 (by omega))
  have a7 : (w.alloc (.cells #[.int .i64 (x0 : Int), .int .i64 (x1 : Int), .int .u64 (x2 : Int), .int .i64 (x3 : Int), .int .i64 (x4 : Int), .int .u64 (x5 : Int), .int .u64 (x6 : Int), .int .u64 (x7 : Int)] 60)).cell? ⟨g, x3 * 8 + 7, none⟩ = some (.int .u64 (y7 : Int)) := (cell_of_row _ _ _ _ _ _ hgb).trans (hy 7 (by omega))
  have HD := Hid.mk' hD
  clear hg hgb hy hli hn hD
  go_enter Tryd.func33, Tryd.ntmps33
  go_wp2_with (first
    | (refine wpList_load_row rfl _ _ rfl (w.heap.size + 1) rfl _ _ _ _ (heap_alloc2_new w _ _) Tryd.underlying60 rfl (by kernel_rfl) ?_)
    | (go_at_call 32; refine (HD.out _).mono ?_; rintro r w1 ⟨rfl, hb1⟩))
  go_ret2
  exact ⟨rfl, (Below.alloc (Below.alloc (Below.refl _ _) (Nat.le_refl _) _) (by rw [size_alloc]; exact Nat.le_succ _) _).trans (hb1.mono (by rw [size_alloc, size_alloc]; omega))⟩
/-- what strings answers -/
def strsOf (b : ByteArray) (n : Nat) (s : Nat → Sec) (x : Sec) : Except Int ByteArray :=
  if x.li < n ∧ (s x.li).ty = 3 then (match cont b (s x.li) with | none => .error 54 | some names => .ok names) else .error 60
theorem strings_c (b : ByteArray) (B n : Nat) (v : Value) (s : Nat → Sec) (x : Sec) (w : World) (hS : SecsIn B w v n s) (hn : n ≤ 26214) (hB : SecB s) (hm : b.size ≤ maxLen) :
    Calls Tryd.prog 33 #[.string b, v, .agg x.v] w fun r w' => Below w.heap.size w w' ∧ ((∃ e, strsOf b n s x = .error e ∧ r = .returned (.tuple #[.string .empty, .int .i64 e])) ∨ (∃ t, strsOf b n s x = .ok t ∧ r = .returned (.tuple #[.string t, .int .i64 0]))) := by
  obtain ⟨x0, x1, x2, x3, x4, x5, x6, x7⟩ := x
  obtain ⟨ao, cp, rfl, hr⟩ := hS
  by_cases hl : x3 < n
  case neg =>
    refine (strings_60a b ao n cp x0 x1 x2 x3 x4 x5 x6 x7 w (by omega)).mono fun r w' ⟨h1, h2⟩ => ⟨h2, Or.inl ⟨60, ?_, h1⟩⟩
    unfold strsOf
    exact if_neg (fun h => hl h.1)
  obtain ⟨g, cur, rfl, _, hg, hcur⟩ := hr (by omega)
  have hy := hcur x3
  have hby := hB x3
  cases hsx : s x3 with
  | mk y0 y1 y2 y3 y4 y5 y6 y7 =>
    rw [hsx] at hy hby
    have hst : strsOf b n s ⟨x0, x1, x2, x3, x4, x5, x6, x7⟩ = if x3 < n ∧ y1 = 3 then (match cont b ⟨y0, y1, y2, y3, y4, y5, y6, y7⟩ with | none => .error 54 | some names => .ok names) else .error 60 := by
      unfold strsOf
      simp only [hsx]
    by_cases h3 : y1 = 3
    case neg =>
      refine (strings_60b b n cp g cur x0 x1 x2 x3 x4 x5 x6 x7 y0 y1 y2 y3 y4 y5 y6 y7 w hl hn hg (fun m hm => hy m hl hm) h3).mono fun r w' ⟨h1, h2⟩ => ⟨h2, Or.inl ⟨60, ?_, h1⟩⟩
      rw [hst]
      exact if_neg (fun h => h3 h.2)
    subst h3
    rw [if_pos ⟨hl, rfl⟩] at hst
    cases hd : cont b ⟨y0, 3, y2, y3, y4, y5, y6, y7⟩ with
    | none =>
      refine (strings_54 b n cp g cur x0 x1 x2 x3 x4 x5 x6 x7 y0 y2 y3 y4 y5 y6 y7 w hl hn hg (fun m hm => hy m hl hm) (fun w => dcont_no b _ hm hby hd w)).mono fun r w' ⟨h1, h2⟩ => ⟨h2, Or.inl ⟨54, ?_, h1⟩⟩
      rw [hst, hd]
    | some names =>
      refine (strings_ok b names n cp g cur x0 x1 x2 x3 x4 x5 x6 x7 y0 y2 y3 y4 y5 y6 y7 w hl hn hg (fun m hm => hy m hl hm) (fun w => dcont_ok b names _ hm hd w)).mono fun r w' ⟨h1, h2⟩ => ⟨h2, Or.inr ⟨names, ?_, h1⟩⟩
      rw [hst, hd]
end Go.Proofs.YtkmehjikllilaaaDoor
