import Derived.Test.YtaeigacinefhnabDoorM5
import Derived.Test.YtaeigacinefhnabDoorRS
import Derived.OwnWalk
import Derived.LoopTactic

-- syms: the symbols of an opened table behind a list, class 32: contract.
namespace Go.Proofs.YtaeigacinefhnabDoor
open Go.ChangeShapes Go.WideShapes Go.ChangeAt Go.RowKit
set_option linter.unusedVariables false
set_option maxRecDepth 100000
theorem slice_p32 (b : ByteArray) (p n : Nat) (h : p + n ≤ b.size) (w : World) :
    (Instr.slice 9 (.string b) (some (.int .i64 (p : Int))) (some (.int .i64 ((p : Int) + (n : Int)))) none).run Tryd.prog w = .ok (.string (b.extract p (p + n))) w := by
  rw [run_slice_string w 9 b .i64 .i64 (p : Int) ((p : Int) + (n : Int)) Tryd.underlying9 (by omega) (by omega) (by omega)]
  rfl
/-- what appendTo answers -/
def Appended32 (o : Int) (t names : ByteArray) (B m : Nat) (xs : List Value) (w : World) (r : Ending) (w' : World) : Prop :=
  Below B w w' ∧ ((∃ l v, symsOf 32 o t names (t.size / 16) = some l ∧ r = .returned (.tuple #[v, .int .i64 0]) ∧ w'.ownsRow B 61 7 v (m + l.length) (xs ++ symsV l)) ∨
    (symsOf 32 o t names (t.size / 16) = none ∧ r = .returned (.tuple #[.slice none 0 0, .int .i64 56])))
set_option maxHeartbeats 2000000 in
theorem appendTo_32 (t names : ByteArray) (k m B n : Nat) (o : Int) (v : Value) (xs : List Value) (w : World) (hF : w.heap[k]? = some (.cells (tabCells col32 o t names) 75 (0, 0))) (hk : k < B) (hB : B ≤ w.heap.size) (hown : w.ownsRow B 61 7 v m xs) (hm : m ≤ 1718091776) (ht : t.size ≤ 1048576) (hnm : names.size ≤ 1048576) (ho : o = 0 ∨ o = 1) (hn : t.size = n * 16) :
    Calls Tryd.prog 37 #[.pointer (some ⟨k, 0, none⟩), v] w (Appended32 o t names B m xs w) := by
  have hdiv : t.size / 16 = n := by omega
  have hnN : n ≤ 65536 := by omega
  have hpp : ∀ j : Nat, j < n → j * 16 + 16 ≤ t.size := fun j hj => by omega
  have cell (i : Nat) (v : Value) (h : (tabCells col32 o t names)[i]? = some v) (w' : World) (hb : w'.heap[k]? = some (.cells (tabCells col32 o t names) 75 (0, 0))) : w'.cell? ⟨k, i, none⟩ = some v := by
    rw [cell_of_row _ _ _ _ _ _ hb]; exact h
  have c0 : w.cell? ⟨k, 0, none⟩ = some (.int .u64 16) := cell 0 _ rfl w hF
  have c14 : w.cell? ⟨k, 14, none⟩ = some (.string t) := cell 14 _ rfl w hF
  have HG := Hid.mk' (grow_c v m n B xs w hown hB (by omega))
  have HC := Hid.mk' cell
  have hszI : ((t.size : Nat) : Int) = (n : Int) * 16 := by omega
  have htd : Int.tdiv ((t.size : Nat) : Int) 16 = (n : Int) := by rw [Int.tdiv_eq_ediv_of_nonneg (by omega)]; omega
  have hed : ((t.size : Nat) : Int) / 16 = (n : Int) := by omega
  have hwn : IntKind.i64.wrap (n : Int) = (n : Int) := by rw [IntKind.wrap_i64]; omega
  have hxn : wrap64 (n : Int) = (n : Int) := by unfold wrap64; omega
  have hnmm : names.size ≤ maxLen := by unfold maxLen; omega
  have HSY : Hid (∀ (j : Nat) (wx : World) (nm : ByteArray), j < n → wx.heap[k]? = some (.cells (tabCells col32 o t names) 75 (0, 0)) → nameOf names (num t (j * 16) 4 o) = some nm → Calls Tryd.prog 60 #[.pointer (some ⟨k, 0, none⟩), .string (t.extract (j * 16) (j * 16 + 16))] wx fun r w' => r = .returned (.tuple #[.agg (symV (symAt 32 o t (j * 16) nm)).toArray, .int .i64 0]) ∧ Below wx.heap.size wx w') := fun j wx nm hj hF hN => sym_32 t names nm (j * 16) k o wx hF (hpp j hj) hnmm ho hN
  have HSN : Hid (∀ (j : Nat) (wx : World), j < n → wx.heap[k]? = some (.cells (tabCells col32 o t names) 75 (0, 0)) → nameOf names (num t (j * 16) 4 o) = none → Calls Tryd.prog 60 #[.pointer (some ⟨k, 0, none⟩), .string (t.extract (j * 16) (j * 16 + 16))] wx fun r w' => r = .returned (.tuple #[.agg #[.string ⟨#[]⟩, .int .i64 0, .int .i64 0, .int .i64 0, .int .i64 0, .int .u64 0, .int .u64 0], .int .i64 56]) ∧ Below wx.heap.size wx w') := fun j wx hj hF hN => sym_no_32 t names (j * 16) k o wx hF (hpp j hj) hnmm ho hN
  have HSL : Hid (∀ (j : Nat) (wx : World), j < n → (Instr.slice 9 (.string t) (some (.int .i64 (((j * 16 : Nat)) : Int))) (some (.int .i64 (((j * 16 : Nat) : Int) + 16))) none).run Tryd.prog wx = .ok (.string (t.extract (j * 16) (j * 16 + 16))) wx) := fun j wx hj => slice_p32 t (j * 16) 16 (hpp j hj) wx
  obtain ⟨i0, hi, hz0, hz1, hz2⟩ := info_parts' infoSym
  have HW := Hid.mk' (And.intro hnN (And.intro hm (And.intro hszI hB)))
  have HD := Hid.mk' (And.intro hdiv hn)
  clear hown cell hnmm ho hnm ht
  go_enter Tryd.func37, Tryd.ntmps37
  go_wp2_with (first
    | (go_at_call 59; refine (HG.out).mono ?_; rintro r w1 ⟨v1, rfl, hown1, hb1⟩))
  have hF1 : w1.heap[k]? = some (.cells (tabCells col32 o t names) 75 (0, 0)) := (hb1.block k hk).trans hF
  have hs1 : B ≤ w1.heap.size := Nat.le_trans HW.out.2.2.2 hb1.size
  clear c0 c14 HG hF hB hm hnN htd hed hwn hxn hszI hn hdiv hpp
  go_loopw [1, 7] (fun u a wx => ∃ (j : Nat) (l : List Sym), j ≤ n ∧ a = .int .i64 ((j * 16 : Nat) : Int) ∧ symsOf 32 o t names j = some l ∧ wx.ownsRow B 61 7 u (m + j) (xs ++ symsV l) ∧ wx.heap[k]? = some (.cells (tabCells col32 o t names) 75 (0, 0)) ∧ Below B w wx ∧ B ≤ wx.heap.size) (fun _ a _ => n * 16 - (intOf a).toNat)
  case atStart => exact ⟨0, [], Nat.zero_le _, by simp, rfl, by rw [show xs ++ symsV [] = xs from List.append_nil xs]; exact hown1, hF1, hb1, hs1⟩
  case round =>
    obtain ⟨j, l, hj, rfl, hl, hown, hF, hB, hlt⟩ := hrel
    have hll := symsOf_length _ _ _ _ _ _ hl
    have c0 : wr.cell? ⟨k, 0, none⟩ = some (.int .u64 16) := HC.out 0 _ rfl wr hF
    have c14 : wr.cell? ⟨k, 14, none⟩ = some (.string t) := HC.out 14 _ rfl wr hF
    have hn := HD.out.2
    by_cases hjn : j < n
    · have hjI : ((j * 16 : Nat) : Int) < ((t.size : Nat) : Int) := by omega
      have hjN : j * 16 < t.size := by omega
      have hj0 : (0 : Int) ≤ ((j * 16 : Nat) : Int) := Int.natCast_nonneg _
      have hwa : IntKind.i64.wrap (((j * 16 : Nat) : Int) + 16) = ((j * 16 : Nat) : Int) + 16 := by have := HW.out.1; rw [IntKind.wrap_i64]; omega
      have hxa : wrap64 (((j * 16 : Nat) : Int) + 16) = ((j * 16 : Nat) : Int) + 16 := by have := HW.out.1; unfold wrap64; omega
      have hsl := HSL.out j wr hjn
      have hc3 : m + j + 1 ≤ maxLen := by have := HW.out.1; have := HW.out.2.1; unfold maxLen; omega
      have hc4 : (m + j + 1) * 64 ≤ 140737488355328 := by have := HW.out.1; have := HW.out.2.1; omega
      clear hn
      generalize hP : j * 16 = P at hjI hj0 hwa hxa hsl hjN
      cases hN : nameOf names (num t (j * 16) 4 o) with
      | none =>
        have HS := HSN.out j wr hjn hF hN
        rw [hP] at HS
        have HS' := Hid.mk' HS
        have hnone : symsOf 32 o t names (t.size / 16) = none := by
          have h1 : symsOf 32 o t names (j + 1) = none := by
            have hsy : symLen 32 = 16 := rfl
            rw [symsOf, hl, hsy, hN]; rfl
          rw [HD.out.1, show n = j + 1 + (n - (j + 1)) by omega]
          exact symsOf_none h1 _
        have HNO := Hid.mk' hnone
        clear HS hN hl hown hnone hP hll
        go_wp2_with (first
          | (go_at_call 60; refine (HS'.out).mono ?_; rintro r w2 ⟨rfl, hb2⟩))
        go_ret2
        exact ⟨hB.trans (Below.alloc (hb2.mono hlt) (Nat.le_trans hlt hb2.size) _), Or.inr ⟨HNO.out, rfl⟩⟩
      | some nm =>
        have HS := HSY.out j wr nm hjn hF hN
        rw [hP] at HS
        have hl' : symsOf 32 o t names (j + 1) = some (l ++ [symAt 32 o t (j * 16) nm]) := by
          have hsy : symLen 32 = 16 := rfl
          rw [symsOf, hl, hsy, hN]; rfl
        rw [hP] at hl'
        have HL' := Hid.mk' hl'
        have HP := Hid.mk' hP
        clear hl' hN hl hP hll
        generalize symAt 32 o t P nm = x at HS HL'
        obtain ⟨xn, xb, xt, xo, xs', xv, xz⟩ := x
        have HS' : Hid (Calls Tryd.prog 60 #[.pointer (some ⟨k, 0, none⟩), .string (t.extract P (P + 16))] wr fun r w' => r = .returned (.tuple #[.agg #[.string xn, .int .i64 (xb : Int), .int .i64 (xt : Int), .int .i64 (xo : Int), .int .i64 (xs' : Int), .int .u64 (xv : Int), .int .u64 (xz : Int)], .int .i64 0]) ∧ Below wr.heap.size wr w') := HS
        clear HS
        go_wp2_with (first
          | (go_at_call 60; refine (HS'.out).mono ?_; rintro r w3 ⟨rfl, hb3⟩; have hOW := ((own_below hown hb3).alloc (.cells #[.string xn, .int .i64 (xb : Int), .int .i64 (xt : Int), .int .i64 (xo : Int), .int .i64 (xs' : Int), .int .u64 (xv : Int), .int .u64 (xz : Int)] 61)).alloc (.cells #[.string xn, .int .i64 (xb : Int), .int .i64 (xt : Int), .int .i64 (xo : Int), .int .i64 (xs' : Int), .int .u64 (xv : Int), .int .u64 (xz : Int)] 61))
          | (at_builtin; refine wpList_append_own _ rfl _ _ 27 rfl B 61 i0 (.agg #[.string ⟨#[]⟩, .int .i64 0, .int .i64 0, .int .i64 0, .int .i64 0, .int .u64 0, .int .u64 0]) 7 64 Tryd.underlying27 hi hz0 hz1 hz2 rfl (by decide) _ _ _ rfl hOW ⟨w3.heap.size + 1, 0, none⟩ 1 1 [.string xn, .int .i64 (xb : Int), .int .i64 (xt : Int), .int .i64 (xo : Int), .int .i64 (xs' : Int), .int .u64 (xv : Int), .int .u64 (xz : Int)] rfl rfl ?c1 (by intro u hu; simp at hu; rcases hu with rfl | rfl | rfl | rfl | rfl | rfl | rfl <;> rfl) ?c3 ?c4 ?c5 ?_))
        case c1 =>
          intro q u hu
          rw [Addr.add_mid, Nat.zero_add, cell_of_row _ _ _ _ _ _ (heap_alloc2_new w3 _ _)]
          simpa using hu
        case c3 => exact hc3
        case c4 => exact hc4
        case c5 => rw [size_alloc, size_alloc]; have := hb3.size; omega
        intro v' w5 hown' hgrow _
        have hs3 := hb3.size
        have hrow : ∀ q, u1.ownBlock = some q → B ≤ q := fun q hq => (hown.lt q hq).1
        have hbR : Below B wr w5 := Below.grown (Below.alloc (Below.alloc (hb3.mono hlt) (by omega) _) (by rw [size_alloc]; omega) _) hgrow (by rw [size_alloc, size_alloc]; omega) hrow
        have HALL : Hid (w5.ownsRow B 61 7 v' (m + (j + 1)) (xs ++ symsV (l ++ [⟨xn, xb, xt, xo, xs', xv, xz⟩])) ∧ w5.heap[k]? = some (.cells (tabCells col32 o t names) 75 (0, 0)) ∧ Below B w w5 ∧ B ≤ w5.heap.size) := ⟨by rw [symsV_append]; exact hown', (hbR.block _ hk).trans hF, hB.trans hbR, by have := hbR.size; omega⟩
        clear hown' hgrow hbR hrow hown hF hB hOW hb3 HS'
        go_wp2
        clear hwa hxa
        go_roundw
        case rel => exact ⟨j + 1, _, hjn, by refine congrArg (Value.int .i64) ?_; have hq := HP.out; omega, HL'.out, HALL.out⟩
        case measure => have hq := HP.out; have hjn' : j < n := hjn; clear HALL HL' HSY HSN HSL HC; simp only [intOf]; omega
    · obtain rfl : j = n := Nat.le_antisymm hj (Nat.not_lt.1 hjn)
      have hjI : ¬ ((j * 16 : Nat) : Int) < ((t.size : Nat) : Int) := by omega
      have hjN : ¬ (j * 16 < t.size) := by omega
      clear hn
      go_wp2
      go_ret2
      exact ⟨hB, Or.inl ⟨l, _, by rw [HD.out.1]; exact hl, rfl, by rw [hll]; exact hown⟩⟩
end Go.Proofs.YtaeigacinefhnabDoor

-- syms: the symbols of an opened table behind a list, class 64: contract.
namespace Go.Proofs.YtaeigacinefhnabDoor
open Go.ChangeShapes Go.WideShapes Go.ChangeAt Go.RowKit
set_option linter.unusedVariables false
set_option maxRecDepth 100000
theorem slice_p64 (b : ByteArray) (p n : Nat) (h : p + n ≤ b.size) (w : World) :
    (Instr.slice 9 (.string b) (some (.int .i64 (p : Int))) (some (.int .i64 ((p : Int) + (n : Int)))) none).run Tryd.prog w = .ok (.string (b.extract p (p + n))) w := by
  rw [run_slice_string w 9 b .i64 .i64 (p : Int) ((p : Int) + (n : Int)) Tryd.underlying9 (by omega) (by omega) (by omega)]
  rfl
/-- what appendTo answers -/
def Appended64 (o : Int) (t names : ByteArray) (B m : Nat) (xs : List Value) (w : World) (r : Ending) (w' : World) : Prop :=
  Below B w w' ∧ ((∃ l v, symsOf 64 o t names (t.size / 24) = some l ∧ r = .returned (.tuple #[v, .int .i64 0]) ∧ w'.ownsRow B 61 7 v (m + l.length) (xs ++ symsV l)) ∨
    (symsOf 64 o t names (t.size / 24) = none ∧ r = .returned (.tuple #[.slice none 0 0, .int .i64 56])))
set_option maxHeartbeats 2000000 in
theorem appendTo_64 (t names : ByteArray) (k m B n : Nat) (o : Int) (v : Value) (xs : List Value) (w : World) (hF : w.heap[k]? = some (.cells (tabCells col64 o t names) 75 (0, 0))) (hk : k < B) (hB : B ≤ w.heap.size) (hown : w.ownsRow B 61 7 v m xs) (hm : m ≤ 1718091776) (ht : t.size ≤ 1048576) (hnm : names.size ≤ 1048576) (ho : o = 0 ∨ o = 1) (hn : t.size = n * 24) :
    Calls Tryd.prog 37 #[.pointer (some ⟨k, 0, none⟩), v] w (Appended64 o t names B m xs w) := by
  have hdiv : t.size / 24 = n := by omega
  have hnN : n ≤ 65536 := by omega
  have hpp : ∀ j : Nat, j < n → j * 24 + 24 ≤ t.size := fun j hj => by omega
  have cell (i : Nat) (v : Value) (h : (tabCells col64 o t names)[i]? = some v) (w' : World) (hb : w'.heap[k]? = some (.cells (tabCells col64 o t names) 75 (0, 0))) : w'.cell? ⟨k, i, none⟩ = some v := by
    rw [cell_of_row _ _ _ _ _ _ hb]; exact h
  have c0 : w.cell? ⟨k, 0, none⟩ = some (.int .u64 24) := cell 0 _ rfl w hF
  have c14 : w.cell? ⟨k, 14, none⟩ = some (.string t) := cell 14 _ rfl w hF
  have HG := Hid.mk' (grow_c v m n B xs w hown hB (by omega))
  have HC := Hid.mk' cell
  have hszI : ((t.size : Nat) : Int) = (n : Int) * 24 := by omega
  have htd : Int.tdiv ((t.size : Nat) : Int) 24 = (n : Int) := by rw [Int.tdiv_eq_ediv_of_nonneg (by omega)]; omega
  have hed : ((t.size : Nat) : Int) / 24 = (n : Int) := by omega
  have hwn : IntKind.i64.wrap (n : Int) = (n : Int) := by rw [IntKind.wrap_i64]; omega
  have hxn : wrap64 (n : Int) = (n : Int) := by unfold wrap64; omega
  have hnmm : names.size ≤ maxLen := by unfold maxLen; omega
  have HSY : Hid (∀ (j : Nat) (wx : World) (nm : ByteArray), j < n → wx.heap[k]? = some (.cells (tabCells col64 o t names) 75 (0, 0)) → nameOf names (num t (j * 24) 4 o) = some nm → Calls Tryd.prog 60 #[.pointer (some ⟨k, 0, none⟩), .string (t.extract (j * 24) (j * 24 + 24))] wx fun r w' => r = .returned (.tuple #[.agg (symV (symAt 64 o t (j * 24) nm)).toArray, .int .i64 0]) ∧ Below wx.heap.size wx w') := fun j wx nm hj hF hN => sym_64 t names nm (j * 24) k o wx hF (hpp j hj) hnmm ho hN
  have HSN : Hid (∀ (j : Nat) (wx : World), j < n → wx.heap[k]? = some (.cells (tabCells col64 o t names) 75 (0, 0)) → nameOf names (num t (j * 24) 4 o) = none → Calls Tryd.prog 60 #[.pointer (some ⟨k, 0, none⟩), .string (t.extract (j * 24) (j * 24 + 24))] wx fun r w' => r = .returned (.tuple #[.agg #[.string ⟨#[]⟩, .int .i64 0, .int .i64 0, .int .i64 0, .int .i64 0, .int .u64 0, .int .u64 0], .int .i64 56]) ∧ Below wx.heap.size wx w') := fun j wx hj hF hN => sym_no_64 t names (j * 24) k o wx hF (hpp j hj) hnmm ho hN
  have HSL : Hid (∀ (j : Nat) (wx : World), j < n → (Instr.slice 9 (.string t) (some (.int .i64 (((j * 24 : Nat)) : Int))) (some (.int .i64 (((j * 24 : Nat) : Int) + 24))) none).run Tryd.prog wx = .ok (.string (t.extract (j * 24) (j * 24 + 24))) wx) := fun j wx hj => slice_p64 t (j * 24) 24 (hpp j hj) wx
  obtain ⟨i0, hi, hz0, hz1, hz2⟩ := info_parts' infoSym
  have HW := Hid.mk' (And.intro hnN (And.intro hm (And.intro hszI hB)))
  have HD := Hid.mk' (And.intro hdiv hn)
  clear hown cell hnmm ho hnm ht
  go_enter Tryd.func37, Tryd.ntmps37
  go_wp2_with (first
    | (go_at_call 59; refine (HG.out).mono ?_; rintro r w1 ⟨v1, rfl, hown1, hb1⟩))
  have hF1 : w1.heap[k]? = some (.cells (tabCells col64 o t names) 75 (0, 0)) := (hb1.block k hk).trans hF
  have hs1 : B ≤ w1.heap.size := Nat.le_trans HW.out.2.2.2 hb1.size
  clear c0 c14 HG hF hB hm hnN htd hed hwn hxn hszI hn hdiv hpp
  go_loopw [1, 7] (fun u a wx => ∃ (j : Nat) (l : List Sym), j ≤ n ∧ a = .int .i64 ((j * 24 : Nat) : Int) ∧ symsOf 64 o t names j = some l ∧ wx.ownsRow B 61 7 u (m + j) (xs ++ symsV l) ∧ wx.heap[k]? = some (.cells (tabCells col64 o t names) 75 (0, 0)) ∧ Below B w wx ∧ B ≤ wx.heap.size) (fun _ a _ => n * 24 - (intOf a).toNat)
  case atStart => exact ⟨0, [], Nat.zero_le _, by simp, rfl, by rw [show xs ++ symsV [] = xs from List.append_nil xs]; exact hown1, hF1, hb1, hs1⟩
  case round =>
    obtain ⟨j, l, hj, rfl, hl, hown, hF, hB, hlt⟩ := hrel
    have hll := symsOf_length _ _ _ _ _ _ hl
    have c0 : wr.cell? ⟨k, 0, none⟩ = some (.int .u64 24) := HC.out 0 _ rfl wr hF
    have c14 : wr.cell? ⟨k, 14, none⟩ = some (.string t) := HC.out 14 _ rfl wr hF
    have hn := HD.out.2
    by_cases hjn : j < n
    · have hjI : ((j * 24 : Nat) : Int) < ((t.size : Nat) : Int) := by omega
      have hjN : j * 24 < t.size := by omega
      have hj0 : (0 : Int) ≤ ((j * 24 : Nat) : Int) := Int.natCast_nonneg _
      have hwa : IntKind.i64.wrap (((j * 24 : Nat) : Int) + 24) = ((j * 24 : Nat) : Int) + 24 := by have := HW.out.1; rw [IntKind.wrap_i64]; omega
      have hxa : wrap64 (((j * 24 : Nat) : Int) + 24) = ((j * 24 : Nat) : Int) + 24 := by have := HW.out.1; unfold wrap64; omega
      have hsl := HSL.out j wr hjn
      have hc3 : m + j + 1 ≤ maxLen := by have := HW.out.1; have := HW.out.2.1; unfold maxLen; omega
      have hc4 : (m + j + 1) * 64 ≤ 140737488355328 := by have := HW.out.1; have := HW.out.2.1; omega
      clear hn
      generalize hP : j * 24 = P at hjI hj0 hwa hxa hsl hjN
      cases hN : nameOf names (num t (j * 24) 4 o) with
      | none =>
        have HS := HSN.out j wr hjn hF hN
        rw [hP] at HS
        have HS' := Hid.mk' HS
        have hnone : symsOf 64 o t names (t.size / 24) = none := by
          have h1 : symsOf 64 o t names (j + 1) = none := by
            have hsy : symLen 64 = 24 := rfl
            rw [symsOf, hl, hsy, hN]; rfl
          rw [HD.out.1, show n = j + 1 + (n - (j + 1)) by omega]
          exact symsOf_none h1 _
        have HNO := Hid.mk' hnone
        clear HS hN hl hown hnone hP hll
        go_wp2_with (first
          | (go_at_call 60; refine (HS'.out).mono ?_; rintro r w2 ⟨rfl, hb2⟩))
        go_ret2
        exact ⟨hB.trans (Below.alloc (hb2.mono hlt) (Nat.le_trans hlt hb2.size) _), Or.inr ⟨HNO.out, rfl⟩⟩
      | some nm =>
        have HS := HSY.out j wr nm hjn hF hN
        rw [hP] at HS
        have hl' : symsOf 64 o t names (j + 1) = some (l ++ [symAt 64 o t (j * 24) nm]) := by
          have hsy : symLen 64 = 24 := rfl
          rw [symsOf, hl, hsy, hN]; rfl
        rw [hP] at hl'
        have HL' := Hid.mk' hl'
        have HP := Hid.mk' hP
        clear hl' hN hl hP hll
        generalize symAt 64 o t P nm = x at HS HL'
        obtain ⟨xn, xb, xt, xo, xs', xv, xz⟩ := x
        have HS' : Hid (Calls Tryd.prog 60 #[.pointer (some ⟨k, 0, none⟩), .string (t.extract P (P + 24))] wr fun r w' => r = .returned (.tuple #[.agg #[.string xn, .int .i64 (xb : Int), .int .i64 (xt : Int), .int .i64 (xo : Int), .int .i64 (xs' : Int), .int .u64 (xv : Int), .int .u64 (xz : Int)], .int .i64 0]) ∧ Below wr.heap.size wr w') := HS
        clear HS
        go_wp2_with (first
          | (go_at_call 60; refine (HS'.out).mono ?_; rintro r w3 ⟨rfl, hb3⟩; have hOW := ((own_below hown hb3).alloc (.cells #[.string xn, .int .i64 (xb : Int), .int .i64 (xt : Int), .int .i64 (xo : Int), .int .i64 (xs' : Int), .int .u64 (xv : Int), .int .u64 (xz : Int)] 61)).alloc (.cells #[.string xn, .int .i64 (xb : Int), .int .i64 (xt : Int), .int .i64 (xo : Int), .int .i64 (xs' : Int), .int .u64 (xv : Int), .int .u64 (xz : Int)] 61))
          | (at_builtin; refine wpList_append_own _ rfl _ _ 27 rfl B 61 i0 (.agg #[.string ⟨#[]⟩, .int .i64 0, .int .i64 0, .int .i64 0, .int .i64 0, .int .u64 0, .int .u64 0]) 7 64 Tryd.underlying27 hi hz0 hz1 hz2 rfl (by decide) _ _ _ rfl hOW ⟨w3.heap.size + 1, 0, none⟩ 1 1 [.string xn, .int .i64 (xb : Int), .int .i64 (xt : Int), .int .i64 (xo : Int), .int .i64 (xs' : Int), .int .u64 (xv : Int), .int .u64 (xz : Int)] rfl rfl ?c1 (by intro u hu; simp at hu; rcases hu with rfl | rfl | rfl | rfl | rfl | rfl | rfl <;> rfl) ?c3 ?c4 ?c5 ?_))
        case c1 =>
          intro q u hu
          rw [Addr.add_mid, Nat.zero_add, cell_of_row _ _ _ _ _ _ (heap_alloc2_new w3 _ _)]
          simpa using hu
        case c3 => exact hc3
        case c4 => exact hc4
        case c5 => rw [size_alloc, size_alloc]; have := hb3.size; omega
        intro v' w5 hown' hgrow _
        have hs3 := hb3.size
        have hrow : ∀ q, u1.ownBlock = some q → B ≤ q := fun q hq => (hown.lt q hq).1
        have hbR : Below B wr w5 := Below.grown (Below.alloc (Below.alloc (hb3.mono hlt) (by omega) _) (by rw [size_alloc]; omega) _) hgrow (by rw [size_alloc, size_alloc]; omega) hrow
        have HALL : Hid (w5.ownsRow B 61 7 v' (m + (j + 1)) (xs ++ symsV (l ++ [⟨xn, xb, xt, xo, xs', xv, xz⟩])) ∧ w5.heap[k]? = some (.cells (tabCells col64 o t names) 75 (0, 0)) ∧ Below B w w5 ∧ B ≤ w5.heap.size) := ⟨by rw [symsV_append]; exact hown', (hbR.block _ hk).trans hF, hB.trans hbR, by have := hbR.size; omega⟩
        clear hown' hgrow hbR hrow hown hF hB hOW hb3 HS'
        go_wp2
        clear hwa hxa
        go_roundw
        case rel => exact ⟨j + 1, _, hjn, by refine congrArg (Value.int .i64) ?_; have hq := HP.out; omega, HL'.out, HALL.out⟩
        case measure => have hq := HP.out; have hjn' : j < n := hjn; clear HALL HL' HSY HSN HSL HC; simp only [intOf]; omega
    · obtain rfl : j = n := Nat.le_antisymm hj (Nat.not_lt.1 hjn)
      have hjI : ¬ ((j * 24 : Nat) : Int) < ((t.size : Nat) : Int) := by omega
      have hjN : ¬ (j * 24 < t.size) := by omega
      clear hn
      go_wp2
      go_ret2
      exact ⟨hB, Or.inl ⟨l, _, by rw [HD.out.1]; exact hl, rfl, by rw [hll]; exact hown⟩⟩
end Go.Proofs.YtaeigacinefhnabDoor
