import Derived.Test.YtkmehjikllilaaaDoorN2
import Derived.Test.YtkmehjikllilaaaDoorC2
import Derived.LoopTactic
import Derived.Deep.QuietTactic
import Derived.BigQuiet
import Derived.OwnWalk
import Derived.Test.YtkmehjikllilaaaDoorM7
import Derived.Test.YtkmehjikllilaaaDoorKQ
import Derived.KernelRfl
import Derived.WalkKit
import Derived.ProofKit
import Derived.Below
import Derived.Laws.CopyRow
import Derived.Laws.Tables
import Derived.Laws.AppendOwn
import Derived.Laws.NewBlocks
import Derived.Maps.AppendAt
import Derived.Lib.AppendStr
import Derived.Deep.MidRow
import Derived.Laws.StructEq
import Derived.Laws.Cover2
import Derived.Deep.CutRange
import Derived.Deep.RegionHeld3
import Derived.Deep.Draws
import Derived.Deep.RegionLaw
import Derived.Laws.AppendOwnNone
import Derived.WalkSmall
import Derived.Test.YtkmehjikllilaaaDoorRows
import Derived.Deep.Slices
import Derived.ChangeSlices

-- The statement's sameNames: contract.
namespace Go.Proofs.YtkmehjikllilaaaDoor
open Go.ChangeShapes Go.WideShapes Go.ChangeAt Go.RowKit
set_option linter.unusedVariables false
set_option maxRecDepth 100000
theorem own_names {w : World} {B : Nat} {v : Value} {k : List ByteArray} (h : w.ownsRow B 9 1 v k.length (k.map .string)) : ∃ ao c, v = .slice ao k.length c ∧ (0 < k.length → ∃ g, ao = some ⟨g, 0, none⟩ ∧ ∀ i x, k[i]? = some x → w.cell? ⟨g, i, none⟩ = some (.string x)) := by
  rcases h.2 with ⟨hv, hn⟩ | ⟨g, cap, cur, hv, hb, hg, h1, h2, h3, h4⟩
  · rw [hn]
    exact ⟨none, 0, hv, fun h => absurd h (Nat.lt_irrefl _)⟩
  · refine ⟨_, _, hv, fun _ => ⟨g, rfl, fun i x hx => ?_⟩⟩
    have hi := (List.getElem?_eq_some_iff.1 hx).1
    have h5 : (k.map Value.string)[i]? = some (.string x) := by rw [List.getElem?_map, hx]; rfl
    rw [cell_of_row _ _ _ _ _ _ hg, ← h5, ← h4, List.getElem?_take, if_pos (by omega), Array.getElem?_toList]
end Go.Proofs.YtkmehjikllilaaaDoor

-- The document's Globals and Needs: contracts.
namespace Go.Proofs.YtkmehjikllilaaaDoor
open Go.ChangeShapes Go.WideShapes Go.ChangeAt Go.RowKit
set_option linter.unusedVariables false
set_option maxRecDepth 100000
set_option maxHeartbeats 2000000 in
theorem dGlobals_c (b : ByteArray) (l : List Sym) (e : Int) (hT : DTab b l e) (hne : e ≠ 0 → l = []) (hl : l.length ≤ 1717960704) (w : World) :
    Calls Tryd.prog 9 #[.string b] w fun r w' => ∃ v, r = .returned v ∧ w'.ownsRow w.heap.size 9 1 v ((l.filter offB).map Sym.name).length (((l.filter offB).map Sym.name).map .string) ∧ Below w.heap.size w w' := by
  have HT := Hid.mk' (hT w)
  clear hT
  by_cases he : e = 0
  case neg =>
    have hen : (e != 0) = true := bne_iff_ne.2 he
    obtain rfl := hne he
    clear hne
    go_enter Tryd.func9, Tryd.ntmps9
    go_wp2_with (first | (go_at_call 14; refine (HT.out).mono ?_; rintro r w1 ⟨v1, rfl, hs1, hb1⟩))
    go_ret
    exact ⟨_, rfl, World.ownsRow_nil _ _ _ _, hb1⟩
  subst he
  clear hne
  obtain ⟨i0, hi, hz0, hz1, hz2⟩ := info_parts' infoStr
  go_enter Tryd.func9, Tryd.ntmps9
  go_wp2_with (first | (go_at_call 14; refine (HT.out).mono ?_; rintro r w1 ⟨v1, rfl, hs1, hb1⟩; obtain ⟨ao, cp, rfl, hA⟩ := own_syms hs1))
  have HA := Hid.mk' hA
  have HB1 := Hid.mk' hb1
  have hsz := hb1.size
  obtain ⟨n, hln⟩ : ∃ n, l.length = n := ⟨_, rfl⟩
  have HLN := Hid.mk' hln
  rw [hln] at hl ⊢
  clear hA hs1 hb1 HT hln
  go_loopw [5, 6] (fun u a wx => ∃ i : Nat, i ≤ n ∧ a = .int .i64 i ∧ wx.ownsRow w1.heap.size 9 1 u (((l.take i).filter offB).map Sym.name).length ((((l.take i).filter offB).map Sym.name).map .string) ∧ Below w1.heap.size w1 wx) (fun _ a _ => n - (intOf a).toNat)
  case atStart => exact ⟨0, Nat.zero_le _, rfl, World.ownsRow_nil _ _ _ _, Below.refl _ _⟩
  case round =>
    obtain ⟨i, hin', rfl, hown, hK⟩ := hrel
    by_cases hin : i < n
    · have hlt : i < l.length := by rw [HLN.out]; exact hin
      have hx : l[i]? = some l[i] := List.getElem?_eq_getElem hlt
      obtain ⟨g, rfl, hgw, hg⟩ := HA.out (by rw [HLN.out]; omega)
      have hkl : (((l.take i).filter offB).map Sym.name).length ≤ 1717960704 := by
        rw [List.length_map]
        refine Nat.le_trans (List.length_filter_le _ _) ?_
        rw [List.length_take, HLN.out]
        omega
      have hts := take_step l offB i _ hx
      generalize l[i] = x at hx hts
      obtain ⟨xn, xb, xt, xo, xs, xv, xz⟩ := x
      generalize (((l.take i).filter offB).map Sym.name) = k at hown hkl hts
      have hgB : g < w1.heap.size := lt_of_cell ((hg i 0 _ hx (by omega)).trans rfl)
      have cw (m : Nat) : wr.cell? ⟨g, m, none⟩ = w1.cell? ⟨g, m, none⟩ := hK.cell hgB
      have a0 : wr.cell? ⟨g, i * 7, none⟩ = some (.string xn) := by rw [cw]; exact hg i 0 _ hx (by omega)
      have a1 : wr.cell? ⟨g, i * 7 + 1, none⟩ = some (.int .i64 (xb : Int)) := by rw [cw]; exact hg i 1 _ hx (by omega)
      have a2 : wr.cell? ⟨g, i * 7 + 2, none⟩ = some (.int .i64 (xt : Int)) := by rw [cw]; exact hg i 2 _ hx (by omega)
      have a3 : wr.cell? ⟨g, i * 7 + 3, none⟩ = some (.int .i64 (xo : Int)) := by rw [cw]; exact hg i 3 _ hx (by omega)
      have a4 : wr.cell? ⟨g, i * 7 + 4, none⟩ = some (.int .i64 (xs : Int)) := by rw [cw]; exact hg i 4 _ hx (by omega)
      have a5 : wr.cell? ⟨g, i * 7 + 5, none⟩ = some (.int .u64 (xv : Int)) := by rw [cw]; exact hg i 5 _ hx (by omega)
      have a6 : wr.cell? ⟨g, i * 7 + 6, none⟩ = some (.int .u64 (xz : Int)) := by rw [cw]; exact hg i 6 _ hx (by omega)
      have hiI : (i : Int) < (n : Int) := Int.ofNat_lt.2 hin
      have hi0 : (0 : Int) ≤ (i : Int) := Int.natCast_nonneg _
      have HP : Hid (∀ w : World, Calls Tryd.prog 15 #[.agg #[.string xn, .int .i64 (xb : Int), .int .i64 (xt : Int), .int .i64 (xo : Int), .int .i64 (xs : Int), .int .u64 (xv : Int), .int .u64 (xz : Int)]] w fun r w' => r = .returned (.bool (offB ⟨xn, xb, xt, xo, xs, xv, xz⟩)) ∧ Below w.heap.size w w') := fun w => told_c xn xb xt xo xs xv xz w
      cases hp : offB ⟨xn, xb, xt, xo, xs, xv, xz⟩ with
      | false =>
        rw [hp] at HP hts
        rw [if_neg (by decide)] at hts
        have HO := Hid.mk' (And.intro hown (And.intro hK hts))
        clear hg hx cw hgB hgw hkl hts hown hK hlt
        go_wp2_with (first
          | (go_at_call 15; refine (HP.out _).mono ?_; rintro r w4 ⟨rfl, hb4⟩))
        go_roundw
        case rel =>
          obtain ⟨hown, hK, hts⟩ := HO.out
          exact ⟨i + 1, hin, by go_num, by rw [hts]; exact own_below hown hb4, hK.trans (hb4.mono hK.size)⟩
        case measure => clear HO HA HB1; simp [intOf]; omega
      | true =>
        rw [hp] at HP hts
        rw [if_pos rfl] at hts
        have HO := Hid.mk' (And.intro hown (And.intro hK hts))
        have hc3 : k.length + 1 ≤ maxLen := by unfold maxLen; omega
        have hc4 : (k.length + 1) * 16 ≤ 140737488355328 := by omega
        have hgr : g < wr.heap.size := Nat.lt_of_lt_of_le hgB hK.size
        clear hg hx cw hgB hgw hkl hts hlt
        go_wp2_with fail
        go_at_call 15
        refine (HP.out _).mono ?_
        rintro r w4 ⟨rfl, hb4⟩
        have q0 : w4.cell? ⟨g, i * 7, none⟩ = some (.string xn) := (hb4.cell hgr).trans a0
        have hOW := (own_below hown hb4).alloc (.cells #[.string xn] 9)
        have hB4 : w1.heap.size ≤ w4.heap.size := Nat.le_trans hK.size hb4.size
        clear hown hK
        go_wp2_with (first
          | (at_builtin; refine wpList_append_own _ rfl _ _ 34 rfl w1.heap.size 9 i0 (.string ⟨#[]⟩) 1 16 Tryd.underlying34 hi hz0 hz1 hz2 rfl (by decide) _ _ _ rfl hOW ⟨w4.heap.size, 0, none⟩ 1 1 [.string xn] rfl rfl ?c1 (by intro u hu; simp at hu; subst hu; rfl) ?c3 ?c4 ?c5 ?_))
        case c1 =>
          intro q u hu
          rw [Addr.add_mid, Nat.zero_add, cell_of_row _ _ _ _ _ _ (heap_alloc_new w4 _)]
          simpa using hu
        case c3 => exact hc3
        case c4 => exact hc4
        case c5 => rw [size_alloc]; exact Nat.le_succ_of_le hB4
        intro v' w5 hown5 hgrow _
        obtain ⟨hown, hK, hts⟩ := HO.out
        have hrow : ∀ q, u5.ownBlock = some q → w1.heap.size ≤ q := fun q hq => (hown.lt q hq).1
        have hbR : Below w1.heap.size w4 w5 := Below.grown (Below.alloc (Below.refl _ _) hB4 _) hgrow (by rw [size_alloc]; omega) hrow
        have HF : Hid (w5.ownsRow w1.heap.size 9 1 v' (((l.take (i + 1)).filter offB).map Sym.name).length ((((l.take (i + 1)).filter offB).map Sym.name).map .string) ∧ Below w1.heap.size w1 w5) := ⟨by rw [hts, List.length_append, List.map_append]; exact hown5, (hK.trans (hb4.mono hK.size)).trans hbR⟩
        clear hown hK hts hrow hbR hown5 hgrow hOW HO
        go_wp2
        go_roundw
        case rel => exact ⟨i + 1, hin, by go_num, HF.out⟩
        case measure => clear HF HA HB1; simp [intOf]; omega
    · obtain rfl : i = n := Nat.le_antisymm hin' (Nat.not_lt.1 hin)
      have hiI : ¬ (i : Int) < (i : Int) := Int.lt_irrefl _
      have HF := Hid.mk' (And.intro hown hK)
      clear hown hK
      go_wp2
      go_ret
      obtain ⟨hown, hK⟩ := HF.out
      rw [← HLN.out, List.take_length] at hown
      refine ⟨u5, rfl, ?_, HB1.out.trans (hK.mono hsz)⟩
      have hfin := own_base hown hsz
      rw [List.length_map, List.map_map] at hfin
      exact hfin
end Go.Proofs.YtkmehjikllilaaaDoor

-- One block turns; stores into a part of a row; rows of one's own beside them.
namespace Go.Proofs.YtkmehjikllilaaaDoor
open Go.ChangeShapes Go.WideShapes Go.ChangeAt Go.RowKit
set_option linter.unusedVariables false
set_option maxRecDepth 100000

theorem Kq.row (w : World) (g : Nat) (cs : Array Value) : Kq g w (w.setRow g cs) :=
  ⟨rfl, rfl, rfl, by rw [setRow_size]; exact Nat.le_refl _, fun j h _ => setRow_other w g j cs h⟩
theorem Kq.keeps {k j : Nat} {w W : World} {o : Obj} (h : Kq k w W) (hj : j ≠ k) (ho : w.heap[j]? = some o) : W.heap[j]? = some o := (h.block j hj (Array.getElem?_eq_some_iff.1 ho).1).trans ho
theorem Kq.belowN {k n : Nat} {a w W : World} (h : Kq k w W) (hb : Below n a w) (hk : n ≤ k) (hn : n ≤ a.heap.size) : Below n a W := hb.trans (h.below hk (Nat.le_trans hn hb.size))
def putAt (old : Array Value) (off : Nat) (v : Array Value) : Array Value := (old.toList.take off ++ v.toList ++ old.toList.drop (off + v.size)).toArray
theorem wpList_store_kz {P : Program} {ops : Array Oper} {rest : List Oper} {o : Oper} {a : Act} {w : World} {Q : Exit → Act → World → Prop} (hgd : o.guard = none) (hd : o.dst = none) (ty : TypeId) (x y : Operand) (ho : o.op = .store ty x y)
    (g off : Nat) (v : Value) (hx : a.eval x = .pointer (some ⟨g, off, none⟩)) (hy : a.eval y = v)
    (t : TypeId) (old new : Array Value) (hg : w.heap[g]? = some (.cells old t (0, 0))) (hi : (P.info? ty).map (·.size) = some v.cells.size)
    (hfit : Nat.ble (off + v.cells.size) old.size = true) (h1 : v.cells.toList.all (·.oneCell') = true) (hnew : putAt old off v.cells = new)
    (h : ∀ W : World, W.heap[g]? = some (.cells new t (0, 0)) → Kq g w W → wpList P ops Q rest a W) : wpList P ops Q (o :: rest) a w := by
  subst hy
  have hst : (storeVar ty ⟨g, off, none⟩ (a.eval y)).run P w = .ok () (w.setRow g new) := by
    have := run_storeCells_at (P := P) g off t (a.eval y).cells.toList 0 old w hg (by simpa using Nat.le_of_ble_eq_true hfit) (fun v hv => (List.all_eq_true.1 h1) v hv)
    cases hq : P.info? ty with
    | none => simp [hq] at hi
    | some i =>
      have hs : (a.eval y).cells.size = i.size := by simp [hq] at hi; omega
      simp only [Nat.add_zero, Array.length_toList] at this
      unfold putAt at hnew
      rw [hnew] at this
      simp [storeVar, sizeOf, typeInfo, hq, hs, this]
  refine wpList_plain hgd fun _ hK => ?_
  unfold Oper.wp execOp
  simp only [ho, hx, Instr.storeAt, Instr.sureAddr, Sem.run_bind, Sem.run_pure, Result.andThen_ok, hst]
  refine hK _ _ ?_
  rw [hd]
  exact h _ (setRow_heap w g old new t (0, 0) hg) (Kq.row w g new)
theorem bupK {w w' : World} (h : Below w.heap.size w w') (o : Obj) : Below w.heap.size w (w'.alloc o) := h.alloc h.size o
theorem hupK {w : World} {b : Nat} {x : Obj} (h : w.heap[b]? = some x) (o : Obj) : (w.alloc o).heap[b]? = some x := (Below.heap_alloc w o b (Array.getElem?_eq_some_iff.1 h).1).trans h
theorem hkeepK {w w' : World} {b : Nat} {x : Obj} (hb : Below w.heap.size w w') (h : w.heap[b]? = some x) : w'.heap[b]? = some x := (hb.block b (Array.getElem?_eq_some_iff.1 h).1).trans h
theorem bel3K {w a b : World} (h : Below w.heap.size w a) (k : Below a.heap.size a b) : Below w.heap.size w b := h.trans (k.mono h.size)
theorem heap_new2K (w : World) (o o' : Obj) : ((w.alloc o).alloc o').heap[w.heap.size + 1]? = some o' := by
  have h := heap_alloc_new (w.alloc o) o'
  rwa [World.size_alloc] at h
theorem heap_new3K (w : World) (o o' o'' : Obj) : (((w.alloc o).alloc o').alloc o'').heap[w.heap.size + 1 + 1]? = some o'' := by
  have h := heap_alloc_new ((w.alloc o).alloc o') o''
  rw [World.size_alloc, World.size_alloc] at h
  exact h
theorem cell_rowK {w : World} {k : Nat} {cs : Array Value} {t : TypeId} (h : w.heap[k]? = some (.cells cs t (0, 0))) (i : Nat) (v : Value) (hv : cs[i]? = some v) : w.cell? ⟨k, i, none⟩ = some v := by
  simp [World.cell?, h, hv]
theorem hidK {p : Prop} (h : p) : Hid p := h
theorem own_onK {n₀ : Nat} {W W' : World} {e : TypeId} {size k : Nat} {v : Value} {xs : List Value} (h : W.ownsRow n₀ e size v k xs) (hb : Below W.heap.size W W') : W'.ownsRow n₀ e size v k xs := by
  refine ⟨h.1, ?_⟩
  rcases h.2 with q | ⟨g, cap, cur, q1, q2, q3, q4⟩
  · exact .inl q
  · exact .inr ⟨g, cap, cur, q1, q2, (hb.block g (Array.getElem?_eq_some_iff.1 q3).1).trans q3, q4⟩
theorem own_upK {n₀ : Nat} {W : World} {e : TypeId} {size k : Nat} {v : Value} {xs : List Value} (h : W.ownsRow n₀ e size v k xs) (o : Obj) : (W.alloc o).ownsRow n₀ e size v k xs := own_onK h (bupK (Below.refl _ _) o)
theorem own_kqK {n₀ B : Nat} {W W' : World} {e t : TypeId} {size k : Nat} {v : Value} {xs : List Value} {cs : Array Value} (h : W.ownsRow n₀ e size v k xs) (hq : Kq B W W') (hB : W.heap[B]? = some (.cells cs t (0, 0))) (hte : t ≠ e) : W'.ownsRow n₀ e size v k xs := by
  refine ⟨h.1, ?_⟩
  rcases h.2 with q | ⟨g, cap, cur, q1, q2, q3, q4⟩
  · exact .inl q
  · refine .inr ⟨g, cap, cur, q1, q2, hq.keeps ?_ q3, q4⟩
    intro e'
    subst e'
    rw [q3] at hB
    injection hB with hB
    injection hB with _ hB _
    exact hte hB.symm
/-- a row of another block lies on through an append -/
theorem own_ne {n₀ : Nat} {W W' : World} {e : TypeId} {size k : Nat} {v v' : Value} {xs : List Value} (h : W.ownsRow n₀ e size v k xs) (hne : ∀ g, v.ownBlock = some g → v'.ownBlock ≠ some g) (hg : W.grownBy W' v'.ownBlock) : W'.ownsRow n₀ e size v k xs := by
  refine ⟨h.1, ?_⟩
  rcases h.2 with q | ⟨g, cap, cur, q1, q2, q3, q4⟩
  · exact .inl q
  · refine .inr ⟨g, cap, cur, q1, q2, (hg.block g (Array.getElem?_eq_some_iff.1 q3).1 ?_).trans q3, q4⟩
    subst q1
    exact fun e' => hne g rfl e'.symm
theorem own_ty {n₀ : Nat} {W : World} {e t : TypeId} {size k size' k' : Nat} {v v' : Value} {xs ys : List Value} (h : W.ownsRow n₀ e size v k xs) (h' : W.ownsRow n₀ t size' v' k' ys) (hte : t ≠ e) : ∀ g, v.ownBlock = some g → v'.ownBlock ≠ some g := by
  intro g h1 h2
  rcases h.2 with ⟨rfl, _⟩ | ⟨g1, cap, cur, rfl, _, q3, _⟩
  · simp [Value.ownBlock] at h1
  · rcases h'.2 with ⟨rfl, _⟩ | ⟨g2, cap', cur', rfl, _, q3', _⟩
    · simp [Value.ownBlock] at h2
    · have a1 : g1 = g := by simpa [Value.ownBlock] using h1
      have a2 : g2 = g := by simpa [Value.ownBlock] using h2
      rw [a1] at q3; rw [a2, q3] at q3'
      injection q3' with q3'
      injection q3' with _ q3' _
      exact hte q3'.symm
theorem own_ltK {n₀ : Nat} {W : World} {e : TypeId} {size k : Nat} {v : Value} {xs : List Value} (h : W.ownsRow n₀ e size v k xs) : ∀ g, v.ownBlock = some g → g < W.heap.size := by
  intro g h1
  rcases h.2 with ⟨rfl, _⟩ | ⟨g1, cap, cur, rfl, _, q3, _⟩
  · simp [Value.ownBlock] at h1
  · have a1 : g1 = g := by simpa [Value.ownBlock] using h1
    rw [← a1]; exact (Array.getElem?_eq_some_iff.1 q3).1
theorem row_ne {n₀ B : Nat} {W W' : World} {e t : TypeId} {size k : Nat} {v : Value} {xs : List Value} {cs : Array Value} (hB : W.heap[B]? = some (.cells cs t (0, 0))) (h : W.ownsRow n₀ e size v k xs) (hte : t ≠ e) (hg : W.grownBy W' v.ownBlock) : W'.heap[B]? = some (.cells cs t (0, 0)) := by
  refine (hg.block B (Array.getElem?_eq_some_iff.1 hB).1 ?_).trans hB
  intro eq
  rcases h.2 with ⟨rfl, _⟩ | ⟨g, cap, cur, rfl, _, hgb, _⟩
  · simp [Value.ownBlock] at eq
  · have e' : B = g := by simpa [Value.ownBlock] using eq
    subst e'
    rw [hB] at hgb
    injection hgb with hgb
    injection hgb with _ hgb _
    exact hte hgb
theorem below_grow {n₀ : Nat} {A W W' : World} {e : TypeId} {size k : Nat} {v : Value} {xs : List Value} (hb : Below n₀ A W) (hg : W.grownBy W' v.ownBlock) (ho : W.ownsRow n₀ e size v k xs) (hn : n₀ ≤ A.heap.size) : Below n₀ A W' :=
  hb.trans ((Below.refl _ _).grown hg (Nat.le_trans hn hb.size) (fun q hq => (ho.lt q hq).1))
theorem new_rowK (w : World) (cs : Array Value) (t : TypeId) (l : List Value) (hl : cs.toList = l) : ∀ j u, l[j]? = some u → (w.alloc (.cells cs t)).cell? (Addr.add ⟨w.heap.size, 0, none⟩ j) = some u := by
  intro j u hu
  rw [Addr.add_mid, Nat.zero_add]
  refine cell_rowK (heap_alloc_new w _) j u ?_
  rw [← hl] at hu
  simpa using hu
end Go.Proofs.YtkmehjikllilaaaDoor

-- The statement's sameNames: contract.
namespace Go.Proofs.YtkmehjikllilaaaDoor
open Go.ChangeShapes Go.WideShapes Go.ChangeAt Go.RowKit
set_option linter.unusedVariables false
set_option maxRecDepth 100000
theorem own_namesT {w : World} {B : Nat} {v : Value} {k : List ByteArray} (h : w.ownsRow B 9 1 v k.length (k.map .string)) : ∃ ao c, v = .slice ao k.length c ∧ (0 < k.length → ∃ g, ao = some ⟨g, 0, none⟩ ∧ ∀ i x, k[i]? = some x → w.cell? ⟨g, i, none⟩ = some (.string x)) := by
  rcases h.2 with ⟨hv, hn⟩ | ⟨g, cap, cur, hv, hb, hg, h1, h2, h3, h4⟩
  · rw [hn]
    exact ⟨none, 0, hv, fun h => absurd h (Nat.lt_irrefl _)⟩
  · refine ⟨_, _, hv, fun _ => ⟨g, rfl, fun i x hx => ?_⟩⟩
    have hi := (List.getElem?_eq_some_iff.1 hx).1
    have h5 : (k.map Value.string)[i]? = some (.string x) := by rw [List.getElem?_map, hx]; rfl
    rw [cell_of_row _ _ _ _ _ _ hg, ← h5, ← h4, List.getElem?_take, if_pos (by omega), Array.getElem?_toList]
set_option maxHeartbeats 1000000 in
theorem sameTxt (B C : Nat) (a b : Value) (k : List ByteArray) (w : World) (hn : k.length ≤ 281474976710656) (ha : w.ownsRow B 9 1 a k.length (k.map .string)) (hb : w.ownsRow C 9 1 b k.length (k.map .string)) :
    Calls Tryd.prog 10 #[a, b] w fun r w' => r = .returned (.bool true) ∧ Dr w w' := by
  obtain ⟨ao, ac, rfl, hA⟩ := own_namesT ha
  obtain ⟨bo, bc, rfl, hB⟩ := own_namesT hb
  have HA := Hid.mk' hA
  have HB := Hid.mk' hB
  clear hA hB ha hb
  obtain ⟨n, hln⟩ : ∃ n, k.length = n := ⟨_, rfl⟩
  have HLN := Hid.mk' hln
  rw [hln] at hn ⊢
  clear hln
  go_enter Tryd.func10, Tryd.ntmps10
  go_wp2
  go_loopw [5] (fun i wx => ∃ j : Nat, j ≤ n ∧ i = .int .i64 j ∧ Dr w wx) (fun i _ => n - (intOf i).toNat)
  case atStart => exact ⟨0, Nat.zero_le _, rfl, Dr.refl _⟩
  case round =>
    obtain ⟨j, hj, rfl, hD⟩ := hrel
    by_cases hjn : j < n
    · have hlt : j < k.length := by rw [HLN.out]; exact hjn
      have hx : k[j]? = some k[j] := List.getElem?_eq_getElem hlt
      obtain ⟨g, rfl, hg⟩ := HA.out (by rw [HLN.out]; omega)
      obtain ⟨h, rfl, hh⟩ := HB.out (by rw [HLN.out]; omega)
      generalize k[j] = x at hx
      have cw (q m : Nat) : wr.cell? ⟨q, m, none⟩ = w.cell? ⟨q, m, none⟩ := by obtain ⟨d, rfl⟩ := hD; rfl
      have a0 : wr.cell? ⟨g, j, none⟩ = some (.string x) := by rw [cw]; exact hg j x hx
      have b0 : wr.cell? ⟨h, j, none⟩ = some (.string x) := by rw [cw]; exact hh j x hx
      have hjI : (j : Int) < (n : Int) := by omega
      have hj0 : (0 : Int) ≤ (j : Int) := by omega
      clear hg hh cw hx HA HB HLN
      go_wp2_with fail
      go_quiet (fail)
      go_wp2
      go_roundw
      case rel => exact ⟨j + 1, by omega, by go_num, hD.more _⟩
      case measure => simp [intOf]; omega
    · obtain rfl : j = n := by omega
      go_wp2
      go_ret
      exact ⟨rfl, hD⟩
end Go.Proofs.YtkmehjikllilaaaDoor

-- Members and units in memory.
namespace Go.Proofs.YtkmehjikllilaaaDoor
open Go.ChangeShapes Go.WideShapes Go.ChangeAt Go.RowKit
set_option linter.unusedVariables false
set_option maxRecDepth 100000
/-- a member -/
structure Mx where
  d : Int
  u : Int
  g : Int
  m : Int
  n : ByteArray
  s : Int
  dt : ByteArray
def mxL (x : Mx) : List Value := [.int .i64 x.d, .int .i64 x.u, .int .i64 x.g, .int .i64 x.m, .string x.n, .int .i64 x.s, .string x.dt]
def mxsV (l : List Mx) : List Value := l.flatMap mxL
def MxAt (w : World) (b o : Nat) (x : Mx) : Prop := w.cell? ⟨b, o, none⟩ = some (.int .i64 x.d) ∧ w.cell? ⟨b, o + 1, none⟩ = some (.int .i64 x.u) ∧ w.cell? ⟨b, o + 2, none⟩ = some (.int .i64 x.g) ∧ w.cell? ⟨b, o + 3, none⟩ = some (.int .i64 x.m) ∧ w.cell? ⟨b, o + 4, none⟩ = some (.string x.n) ∧ w.cell? ⟨b, o + 5, none⟩ = some (.int .i64 x.s) ∧ w.cell? ⟨b, o + 6, none⟩ = some (.string x.dt)
theorem cell_onU {w w' : World} {p : Addr} {v : Value} (h : w.cell? p = some v) (hb : Below w.heap.size w w') : w'.cell? p = some v := (hb.cell (p := p) (World.block_lt_of_cell? _ _ h)).trans h
theorem MxAt.on {w w' : World} {b o : Nat} {x : Mx} (h : MxAt w b o x) (hb : Below w.heap.size w w') : MxAt w' b o x := by
  obtain ⟨h0, h1, h2, h3, h4, h5, h6⟩ := h
  exact ⟨cell_onU h0 hb, cell_onU h1 hb, cell_onU h2 hb, cell_onU h3 hb, cell_onU h4 hb, cell_onU h5 hb, cell_onU h6 hb⟩
/-- a slice of members reads as a list -/
def RowM (w : World) (v : Value) (L : List Mx) : Prop :=
  (L = [] ∧ ∃ ao c, v = .slice ao 0 c) ∨ ∃ b off cap, v = .slice (some ⟨b, off, none⟩) L.length cap ∧ ∀ j x, L[j]? = some x → MxAt w b (off + j * 7) x
theorem RowM.on {w w' : World} {v : Value} {L : List Mx} (h : RowM w v L) (hb : Below w.heap.size w w') : RowM w' v L := by
  rcases h with h | ⟨b, off, cap, rfl, hc⟩
  · exact .inl h
  · exact .inr ⟨b, off, cap, rfl, fun j x hj => (hc j x hj).on hb⟩
theorem RowM.form {w : World} {v : Value} {L : List Mx} (h : RowM w v L) : ∃ ao cap, v = .slice ao L.length cap := by
  rcases h with ⟨rfl, ao, c, rfl⟩ | ⟨b, off, cap, rfl, _⟩
  · exact ⟨ao, c, rfl⟩
  · exact ⟨_, _, rfl⟩
theorem RowM.at {w : World} {v : Value} {L : List Mx} {k : Nat} {x : Mx} (h : RowM w v L) (hx : L[k]? = some x) : ∃ b off cap, v = .slice (some ⟨b, off, none⟩) L.length cap ∧ MxAt w b (off + k * 7) x := by
  rcases h with ⟨rfl, _⟩ | ⟨b, off, cap, rfl, hc⟩
  · simp at hx
  · exact ⟨b, off, cap, rfl, hc k x hx⟩
/-- a unit -/
structure Un where
  n : ByteArray
  s : Int
  k : List ByteArray
def UnAt (w : World) (b o : Nat) (x : Un) : Prop := w.cell? ⟨b, o, none⟩ = some (.string x.n) ∧ w.cell? ⟨b, o + 1, none⟩ = some (.int .i64 x.s) ∧ ∃ y B, w.cell? ⟨b, o + 2, none⟩ = some y ∧ w.ownsRow B 9 1 y x.k.length (x.k.map .string)
def RowUn (w : World) (v : Value) (L : List Un) : Prop :=
  (L = [] ∧ ∃ ao c, v = .slice ao 0 c) ∨ ∃ b off cap, v = .slice (some ⟨b, off, none⟩) L.length cap ∧ ∀ j x, L[j]? = some x → UnAt w b (off + j * 3) x
theorem UnAt.on {w w' : World} {b o : Nat} {x : Un} (h : UnAt w b o x) (hb : Below w.heap.size w w') : UnAt w' b o x := by
  obtain ⟨h0, h1, y, B, h2, h3⟩ := h
  exact ⟨cell_onU h0 hb, cell_onU h1 hb, y, B, cell_onU h2 hb, own_onK h3 hb⟩
theorem RowUn.on {w w' : World} {v : Value} {L : List Un} (h : RowUn w v L) (hb : Below w.heap.size w w') : RowUn w' v L := by
  rcases h with h | ⟨b, off, cap, rfl, hc⟩
  · exact .inl h
  · exact .inr ⟨b, off, cap, rfl, fun j x hj => (hc j x hj).on hb⟩
theorem RowUn.form {w : World} {v : Value} {L : List Un} (h : RowUn w v L) : ∃ ao cap, v = .slice ao L.length cap := by
  rcases h with ⟨rfl, ao, c, rfl⟩ | ⟨b, off, cap, rfl, _⟩
  · exact ⟨ao, c, rfl⟩
  · exact ⟨_, _, rfl⟩
theorem RowUn.at {w : World} {v : Value} {L : List Un} {k : Nat} {x : Un} (h : RowUn w v L) (hx : L[k]? = some x) : ∃ b off cap, v = .slice (some ⟨b, off, none⟩) L.length cap ∧ UnAt w b (off + k * 3) x := by
  rcases h with ⟨rfl, _⟩ | ⟨b, off, cap, rfl, hc⟩
  · simp at hx
  · exact ⟨b, off, cap, rfl, hc k x hx⟩
theorem eqMeta12 (a b c d : Int) (w : World) : (Op.equalIn 9999 24 (.agg #[.int .i64 a, .int .i64 b, .int .i64 c, .int .i64 d]) (.agg #[.int .i64 a, .int .i64 b, .int .i64 c, .int .i64 d])).run Tryd.prog w = .ok true w := by
  have u3 := Tryd.underlying3
  have a3 := Tryd.isAgg3
  have z3 := Tryd.sizeOf3
  have hS : Tryd.prog.underlying 24 = some (.struct (Tryd.prog.fieldsOf 24)) := by kernel_rfl
  rw [show (9999 : Nat) = 9998 + 1 from rfl, run_equalIn_agg w 9998 24 _ _ hS (by kernel_rfl)]
  simp only [Program.fieldsOf, Tryd.underlying24]
  go_simp
theorem eqMx (a b c d : Int) (n : ByteArray) (s : Int) (dt : ByteArray) (w : World) : (Op.equalIn 10000 26 (.agg #[.int .i64 a, .int .i64 b, .int .i64 c, .int .i64 d, .string n, .int .i64 s, .string dt]) (.agg #[.int .i64 a, .int .i64 b, .int .i64 c, .int .i64 d, .string n, .int .i64 s, .string dt])).run Tryd.prog w = .ok true w := by
  have u3 := Tryd.underlying3
  have a3 := Tryd.isAgg3
  have z3 := Tryd.sizeOf3
  have u9 := Tryd.underlying9
  have a9 := Tryd.isAgg9
  have z9 := Tryd.sizeOf9
  have uM := Tryd.underlying24
  have aM := Tryd.isAgg24
  have zM := Tryd.sizeOf24
  have hM := eqMeta12 a b c d
  have hS : Tryd.prog.underlying 26 = some (.struct (Tryd.prog.fieldsOf 26)) := by kernel_rfl
  rw [show (10000 : Nat) = 9999 + 1 from rfl, run_equalIn_agg w 9999 26 _ _ hS (by kernel_rfl)]
  simp only [Program.fieldsOf, Tryd.underlying26]
  go_simp
theorem eqSp (n : ByteArray) (s : Int) (w : World) : (Op.equalIn 10000 33 (.agg #[.string n, .int .i64 s]) (.agg #[.string n, .int .i64 s])).run Tryd.prog w = .ok true w := by
  have u3 := Tryd.underlying3
  have a3 := Tryd.isAgg3
  have z3 := Tryd.sizeOf3
  have u9 := Tryd.underlying9
  have a9 := Tryd.isAgg9
  have z9 := Tryd.sizeOf9
  have hS : Tryd.prog.underlying 33 = some (.struct (Tryd.prog.fieldsOf 33)) := by kernel_rfl
  rw [show (10000 : Nat) = 9999 + 1 from rfl, run_equalIn_agg w 9999 33 _ _ hS (by kernel_rfl)]
  simp only [Program.fieldsOf, Tryd.underlying33]
  go_simp
set_option maxHeartbeats 4000000 in
theorem members12_c (v1 v2 : Value) (l : List Mx) (w : World) (h1 : RowM w v1 l) (h2 : RowM w v2 l) (hn : l.length < 4294967296) :
    Calls Tryd.prog 6 #[v1, v2] w fun e w' => e = .returned (.bool true) ∧ ∃ m, w' = w.drewN m := by
  obtain ⟨a1, c1, q1⟩ := h1.form
  obtain ⟨a2, c2, q2⟩ := h2.form
  obtain ⟨n, hnn⟩ : ∃ n, n = l.length := ⟨_, rfl⟩
  have HN := hidK hnn
  have HQ1 := hidK h1
  have HQ2 := hidK h2
  subst q1
  subst q2
  rw [← hnn] at hn ⊢ HQ1 HQ2
  clear h1 h2 hnn
  go_enter Tryd.func6, Tryd.ntmps6
  go_wp2
  go_loopw [5] (fun i wx => ∃ k : Nat, i = .int .i64 k ∧ k ≤ n ∧ ∃ m, wx = w.drewN m) (fun i _ => n - (intOf i).toNat)
  case atStart => exact ⟨0, rfl, Nat.zero_le _, 0, rfl⟩
  case round =>
    obtain ⟨k, rfl, hkn, m, rfl⟩ := hrel
    by_cases hk : k < n
    · have kI : (k : Int) < (n : Int) := by omega
      have k0 : (0 : Int) ≤ (k : Int) := by omega
      have hkl : k < l.length := by have := HN.out; omega
      obtain ⟨⟨dd, uu, gg, mm, nn, zz, dt⟩, hx⟩ : ∃ x, l[k]? = some x := ⟨_, List.getElem?_eq_getElem hkl⟩
      obtain ⟨b1, o1, p1, e1, c11⟩ := HQ1.out.at hx
      obtain ⟨b2, o2, p2, e2, c21⟩ := HQ2.out.at hx
      injection e1 with e1 e1b e1c
      injection e2 with e2 e2b e2c
      subst e1
      subst e2
      obtain ⟨d0, d1, d2, d3, d4, d5, d6⟩ := c11
      obtain ⟨f0, f1, f2, f3, f4, f5, f6⟩ := c21
      have hE := eqMx dd uu gg mm nn zz dt
      clear hx HQ1 HQ2 hkl e1b e1c e2b e2c
      go_wp2_with fail
      go_quiet (fail)
      go_wp2
      go_roundw
      case rel => exact ⟨k + 1, by go_num, by omega, m + nq, rfl⟩
      case measure => simp [intOf]; omega
    · obtain rfl : k = n := by omega
      clear HQ1 HQ2
      go_wp2
      go_ret
      exact ⟨rfl, m, rfl⟩
end Go.Proofs.YtkmehjikllilaaaDoor

-- pack.Units: a contract.
namespace Go.Proofs.YtkmehjikllilaaaDoor
open Go.ChangeShapes Go.WideShapes Go.ChangeAt Go.RowKit
set_option linter.unusedVariables false
set_option maxRecDepth 100000
theorem infoU : (Tryd.prog.info? 37).map (fun i => (i.zero, i.size, i.bytes)) = some (some (.agg #[.string ⟨#[]⟩, .int .i64 0, .slice none 0 0]), 3, 48) := by kernel_rfl
theorem mk_units (n : Nat) (hn : n ≤ 67108864) (W : World) : (Instr.makeSlice 27 (.int .i64 n) (.int .i64 n)).run Tryd.prog W = .ok (.slice (some ⟨W.heap.size, 0, none⟩) n n) (W.alloc (.cells (madeCells #[.string ⟨#[]⟩, .int .i64 0, .slice none 0 0] (n * 3)) 37)) := by
  obtain ⟨i0, hi, hz0, hz1, hz2⟩ := info_parts' infoU
  rw [run_make W 27 37 i0 _ Tryd.underlying27 hi hz0 .i64 .i64 n n (by omega) (by omega) (by rw [hz2]; omega) (by omega), hz1, Int.toNat_natCast]
  rfl
/-- units half made: the first k of them stand in the row of block U -/
def UnitsUp (G : ByteArray → List ByteArray) (L : List Mx) (U n k : Nat) (wx : World) : Prop :=
  ∃ row : Array Value, wx.heap[U]? = some (.cells row 37 (0, 0)) ∧ row.size = n * 3 ∧ ∀ j x, j < k → L[j]? = some x → row[j * 3]? = some (.string x.n) ∧ row[j * 3 + 1]? = some (.int .i64 x.s) ∧ ∃ y, row[j * 3 + 2]? = some y ∧ wx.ownsRow (U + 1) 9 1 y (G x.dt).length ((G x.dt).map .string)
def unOf (G : ByteArray → List ByteArray) (x : Mx) : Un := ⟨x.n, x.s, G x.dt⟩
theorem UnitsUp.on {G : ByteArray → List ByteArray} {L : List Mx} {U n k : Nat} {wx w' : World} (h : UnitsUp G L U n k wx) (hb : Below wx.heap.size wx w') : UnitsUp G L U n k w' := by
  obtain ⟨row, h1, h2, h3⟩ := h
  refine ⟨row, hkeepK hb h1, h2, fun j x hj hx => ?_⟩
  obtain ⟨q1, q2, y, q3, q4⟩ := h3 j x hj hx
  exact ⟨q1, q2, y, q3, own_onK q4 hb⟩
theorem UnitsUp.done {G : ByteArray → List ByteArray} {L : List Mx} {U n : Nat} {wx : World} (h : UnitsUp G L U n n wx) (hn : L.length = n) : RowUn wx (.slice (some ⟨U, 0, none⟩) n n) (L.map (unOf G)) := by
  obtain ⟨row, h1, h2, h3⟩ := h
  refine .inr ⟨U, 0, n, by rw [List.length_map, hn], fun j x hj => ?_⟩
  rw [List.getElem?_map] at hj
  cases hx : L[j]? with
  | none => rw [hx] at hj; cases hj
  | some m =>
    rw [hx] at hj
    injection hj with hj
    subst hj
    obtain ⟨q1, q2, y, q3, q4⟩ := h3 j m (by have := (List.getElem?_eq_some_iff.1 hx).1; omega) hx
    rw [Nat.zero_add]
    exact ⟨cell_rowK h1 _ _ q1, cell_rowK h1 _ _ q2, y, _, cell_rowK h1 _ _ q3, q4⟩
/-- one unit more -/
theorem UnitsUp.put {G : ByteArray → List ByteArray} {L : List Mx} {U n k : Nat} {wx W : World} {row : Array Value} {x : Mx} {y : Value} (hr : wx.heap[U]? = some (.cells row 37 (0, 0))) (hs : row.size = n * 3) (hk : k < n) (hx : L[k]? = some x)
    (h3 : ∀ j x, j < k → L[j]? = some x → row[j * 3]? = some (.string x.n) ∧ row[j * 3 + 1]? = some (.int .i64 x.s) ∧ ∃ y, row[j * 3 + 2]? = some y ∧ wx.ownsRow (U + 1) 9 1 y (G x.dt).length ((G x.dt).map .string))
    (hy : wx.ownsRow (U + 1) 9 1 y (G x.dt).length ((G x.dt).map .string)) {row' : Array Value} (hW : W.heap[U]? = some (.cells row' 37 (0, 0))) (hs' : row'.size = row.size) (hg : ∀ j, row'[j]? = if j = k * 3 then some (.string x.n) else if j = k * 3 + 1 then some (.int .i64 x.s) else if j = k * 3 + 2 then some y else row[j]?) (hq : Kq U wx W) : UnitsUp G L U n (k + 1) W := by
  have hkp : ∀ {v : Value} {m : Nat} {xs : List Value}, wx.ownsRow (U + 1) 9 1 v m xs → W.ownsRow (U + 1) 9 1 v m xs := by
    intro v m xs h
    refine ⟨h.1, ?_⟩
    rcases h.2 with q | ⟨g, cap, cur, q1, q2, q3, q4⟩
    · exact .inl q
    · exact .inr ⟨g, cap, cur, q1, q2, hq.keeps (by omega) q3, q4⟩
  refine ⟨_, hW, hs'.trans hs, fun j z hj hz => ?_⟩
  rw [hg, hg, hg]
  by_cases e : j = k
  · subst e
    rw [hx] at hz; injection hz with hz; subst hz
    rw [if_pos rfl, if_neg (by omega), if_pos rfl, if_neg (by omega), if_neg (by omega), if_pos rfl]
    exact ⟨rfl, rfl, y, rfl, hkp hy⟩
  · obtain ⟨q1, q2, y', q3, q4⟩ := h3 j z (by omega) hz
    rw [if_neg (by omega), if_neg (by omega), if_neg (by omega), if_neg (by omega), if_neg (by omega), if_neg (by omega), if_neg (by omega), if_neg (by omega), if_neg (by omega)]
    exact ⟨q1, q2, y', q3, hkp q4⟩
theorem UnitsUp.put3 {G : ByteArray → List ByteArray} {L : List Mx} {U n k : Nat} {wx : World} {x : Mx} {y : Value} (h : UnitsUp G L U n k wx) (hk : k < n) (hx : L[k]? = some x) (hy : wx.ownsRow (U + 1) 9 1 y (G x.dt).length ((G x.dt).map .string)) : UnitsUp G L U n (k + 1) (((wx.setCell ⟨U, k * 3, none⟩ (.string x.n)).setCell ⟨U, k * 3 + 1, none⟩ (.int .i64 x.s)).setCell ⟨U, k * 3 + 2, none⟩ y) := by
  obtain ⟨row, h1, h2, h3⟩ := h
  refine UnitsUp.put h1 h2 hk hx h3 hy (set_row _ (set_row _ (set_row _ h1))) (by simp) (fun j => ?_) ?_
  · simp only [Array.getElem?_setIfInBounds, Array.size_setIfInBounds]
    by_cases e1 : j = k * 3 + 2
    · subst e1; rw [if_pos rfl, if_pos (by omega), if_neg (by omega), if_neg (by omega), if_pos rfl]
    · rw [if_neg (fun e => e1 e.symm)]
      by_cases e2 : j = k * 3 + 1
      · subst e2; rw [if_pos rfl, if_pos (by omega), if_neg (by omega), if_pos rfl]
      · rw [if_neg (fun e => e2 e.symm)]
        by_cases e3 : j = k * 3
        · subst e3; rw [if_pos rfl, if_pos (by omega), if_pos rfl]
        · rw [if_neg (fun e => e3 e.symm), if_neg e3, if_neg e2, if_neg e1]
  · exact (((Kq.of (Below.refl _ _)).set _ _).set _ _).set _ _
/-- what a round's region leans on: the member's box -/
def SU (w : World) (Bx : Nat) (x : Mx) (w' : World) : Prop := Below w.heap.size w w' ∧ w'.heap[Bx]? = some (.cells (mxL x).toArray 26 (0, 0))
theorem SU.drew {w : World} {Bx : Nat} {x : Mx} {w' : World} (h : SU w Bx x w') : SU w Bx x w'.drew := ⟨h.1.drew, h.2⟩
theorem SU.store3 {w : World} {Bx U i j k : Nat} {x : Mx} {w' : World} {a b c : Value} (h : SU w Bx x w') (hU : w.heap.size ≤ U) (hB : Bx ≠ U) : SU w Bx x (((w'.setCell ⟨U, i, none⟩ a).setCell ⟨U, j, none⟩ b).setCell ⟨U, k, none⟩ c) :=
  ⟨Below.setCell (Below.setCell (Below.setCell h.1 hU _) hU _) hU _, (heap_setCell_other _ _ _ _ hB).trans ((heap_setCell_other _ _ _ _ hB).trans ((heap_setCell_other _ _ _ _ hB).trans h.2))⟩
end Go.Proofs.YtkmehjikllilaaaDoor

-- pack.Units: its walk.
namespace Go.Proofs.YtkmehjikllilaaaDoor
open Go.ChangeShapes Go.WideShapes Go.ChangeAt Go.RowKit
set_option linter.unusedVariables false
set_option maxRecDepth 100000
theorem froz_rowU {w : World} {k : Nat} {cs : Array Value} {t : TypeId} (h : w.heap[k]? = some (.cells cs t (0, 0))) (i : Nat) : w.frozen? ⟨k, i, none⟩ = false := by
  simp [World.frozen?, h]
theorem UnitsUp.room {G : ByteArray → List ByteArray} {L : List Mx} {U n k : Nat} {wx : World} (h : UnitsUp G L U n k wx) (hk : k < n) : ∃ r0 r1 r2, wx.cell? ⟨U, k * 3, none⟩ = some r0 ∧ wx.cell? ⟨U, k * 3 + 1, none⟩ = some r1 ∧ wx.cell? ⟨U, k * 3 + 2, none⟩ = some r2 ∧ wx.frozen? ⟨U, k * 3, none⟩ = false ∧ wx.frozen? ⟨U, k * 3 + 1, none⟩ = false ∧ wx.frozen? ⟨U, k * 3 + 2, none⟩ = false := by
  obtain ⟨row, h1, h2, h3⟩ := h
  exact ⟨_, _, _, cell_rowK h1 _ _ (Array.getElem?_eq_getElem (by omega)), cell_rowK h1 _ _ (Array.getElem?_eq_getElem (by omega)), cell_rowK h1 _ _ (Array.getElem?_eq_getElem (by omega)), froz_rowU h1 _, froz_rowU h1 _, froz_rowU h1 _⟩
set_option maxHeartbeats 8000000 in
theorem units12_c (G : ByteArray → List ByteArray) (v : Value) (L : List Mx) (w : World) (hM : Magic w) (hv : RowM w v L) (hn : L.length ≤ 1048576)
    (HG : Hid (∀ x ∈ L, ∀ w, Magic w → Calls Tryd.prog 8 #[.string x.dt] w fun r w' => ∃ v, r = .returned v ∧ w'.ownsRow w.heap.size 9 1 v (G x.dt).length ((G x.dt).map .string) ∧ Below w.heap.size w w')) :
    Calls Tryd.prog 4 #[v] w fun e w' => ∃ r, e = .returned r ∧ RowUn w' r (L.map (unOf G)) ∧ Below w.heap.size w w' := by
  obtain ⟨a1, c1, q1⟩ := hv.form
  obtain ⟨n, hnn⟩ : ∃ n, n = L.length := ⟨_, rfl⟩
  have HN := hidK hnn
  have HV := hidK hv
  have HM := hidK hM
  subst q1
  rw [← hnn] at hn ⊢ HV
  have hmk := mk_units n (by omega)
  clear hv hnn hM
  go_enter Tryd.func4, Tryd.ntmps4
  go_wp2
  clear hmk
  go_loopw [11] (fun i wx => ∃ k : Nat, i = .int .i64 k ∧ k ≤ n ∧ UnitsUp G L w.heap.size n k wx ∧ Below w.heap.size w wx) (fun i _ => n - (intOf i).toNat)
  case atStart =>
    refine ⟨0, rfl, Nat.zero_le _, ⟨_, heap_alloc_new w _, by rw [size_madeCells], fun j x hj => absurd hj (Nat.not_lt_zero _)⟩, bupK (Below.refl _ _) _⟩
  case round =>
    obtain ⟨k, rfl, hkn, hU, hB⟩ := hrel
    by_cases hk : k < n
    · have kI : (k : Int) < (n : Int) := by omega
      have k0 : (0 : Int) ≤ (k : Int) := by omega
      have hkl : k < L.length := by have := HN.out; omega
      obtain ⟨⟨dd, uu, gg, mm, nn, zz, dt⟩, hx⟩ : ∃ x, L[k]? = some x := ⟨_, List.getElem?_eq_getElem hkl⟩
      obtain ⟨b1, o1, p1, e1, c11⟩ := (HV.out.on hB).at hx
      have HX := hidK hx
      have HGx := hidK (fun w => HG.out _ (List.mem_of_getElem? hx) w)
      injection e1 with e1 e1b e1c
      subst e1
      obtain ⟨d0, d1, d2, d3, d4, d5, d6⟩ := c11
      simp only [] at d0 d1 d2 d3 d4 d5 d6
      have HUP := hidK hU
      have HBB := hidK hB
      have hUl : w.heap.size < wr.heap.size := by obtain ⟨row, h1, _⟩ := hU; exact (Array.getElem?_eq_some_iff.1 h1).1
      clear hx hkl e1b e1c HV hU hB
      go_upto_region 5 with (refine wpList_store_kz rfl rfl _ _ _ rfl wr.heap.size 0 (.agg #[.int .i64 dd, .int .i64 uu, .int .i64 gg, .int .i64 mm, .string nn, .int .i64 zz, .string dt]) rfl rfl _ _ #[.int .i64 dd, .int .i64 uu, .int .i64 gg, .int .i64 mm, .string nn, .int .i64 zz, .string dt] (heap_alloc_new _ _) (by kernel_rfl) rfl rfl rfl ?_; intro W2 R2 q2)
      have B2 : Below wr.heap.size wr W2 := q2.belowN (bupK (Below.refl _ _) _) (Nat.le_refl _) (Nat.le_refl _)
      have HSW : SU w wr.heap.size ⟨dd, uu, gg, mm, nn, zz, dt⟩ W2 := ⟨bel3K HBB.out B2, R2⟩
      have hUW : UnitsUp G L w.heap.size n k W2 := HUP.out.on B2
      generalize hBx : wr.heap.size = Bx at *
      have hBU : Bx ≠ w.heap.size := by omega
      have n4 : ∀ w', SU w Bx ⟨dd, uu, gg, mm, nn, zz, dt⟩ w' → w'.cell? ⟨Bx, 4, none⟩ = some (.string nn) := fun w' h => cell_rowK h.2 4 _ rfl
      have n5 : ∀ w', SU w Bx ⟨dd, uu, gg, mm, nn, zz, dt⟩ w' → w'.cell? ⟨Bx, 5, none⟩ = some (.int .i64 zz) := fun w' h => cell_rowK h.2 5 _ rfl
      have n6 : ∀ w', SU w Bx ⟨dd, uu, gg, mm, nn, zz, dt⟩ w' → w'.cell? ⟨Bx, 6, none⟩ = some (.string dt) := fun w' h => cell_rowK h.2 6 _ rfl
      have HC : Hid (∀ wx, SU w Bx ⟨dd, uu, gg, mm, nn, zz, dt⟩ wx → UnitsUp G L w.heap.size n k wx → Calls Tryd.prog 8 #[.string dt] wx fun e w' => ∃ a m c, e = .returned (.slice a m c) ∧ SU w Bx ⟨dd, uu, gg, mm, nn, zz, dt⟩ w' ∧ UnitsUp G L w.heap.size n k w' ∧ w'.ownsRow (w.heap.size + 1) 9 1 (.slice a m c) (G dt).length ((G dt).map .string)) := fun wx hS hUx => by
        refine (HGx.out wx (HM.out.kept hS.1)).mono ?_
        rintro r w' ⟨v, rfl, ho, hb⟩
        obtain ⟨a, m, c, rfl⟩ := own_slice ho
        have hlt : w.heap.size < wx.heap.size := by obtain ⟨row, h1, _⟩ := hUx; exact (Array.getElem?_eq_some_iff.1 h1).1
        exact ⟨a, m, c, rfl, ⟨bel3K hS.1 hb, hkeepK hb hS.2⟩, hUx.on hb, own_base ho (by omega)⟩
      clear HGx HUP HBB R2 q2 B2 d0 d1 d2 d3 d4 d5 d6
      go_region_held3 (fun w' => SU w Bx ⟨dd, uu, gg, mm, nn, zz, dt⟩ w') (first | (with_reducible assumption) | (with_reducible exact SU.drew (by with_reducible assumption)) | (with_reducible refine SU.store3 ?_ (Nat.le_refl _) hBU; with_reducible assumption)) (first | (go_at_call 8; refine (HC.out _ (by first | assumption | exact HSW.drew) (by first | assumption | exact hUW)).mono ?_; rintro e w' ⟨a, m, c, rfl, hS', hU', ho'⟩; obtain ⟨r0, r1, r2, y0, y1, y2, z0, z1, z2⟩ := hU'.room hk))
      all_goals
        have HU1 := hidK (hU'.put3 hk HX.out ho')
        have HB1 := hidK (SU.store3 (i := k * 3) (j := k * 3 + 1) (k := k * 3 + 2) (a := .string nn) (b := .int .i64 zz) (c := .slice a m c) hS' (Nat.le_refl _) hBU).1
        clear n4 n5 n6 HC ho' hU' hS' hUW HSW
        go_wp2
        go_roundw
        case rel => exact ⟨k + 1, by go_num, by omega, HU1.out, HB1.out⟩
        case measure => simp [intOf]; omega
    · obtain rfl : k = n := by omega
      clear HV
      go_wp2
      go_ret
      exact ⟨_, rfl, hU.done HN.out.symm, hB⟩
end Go.Proofs.YtkmehjikllilaaaDoor

-- The document's Units: a contract.
namespace Go.Proofs.YtkmehjikllilaaaDoor
open Go.ChangeShapes Go.WideShapes Go.ChangeAt Go.RowKit
set_option linter.unusedVariables false
set_option maxRecDepth 100000
/-- append to a row of one's own, as a step of a region that draws -/
theorem step_append_own {P : Program} {ops : Array Oper} {o : Oper} {a : Act} {w : World} {K : Act → World → Prop} {Q : Exit → Act → World → Prop} {E : Prop}
    (hg : o.guard = none) (s x : Operand) (t : TypeId) (hop : o.op = Op.call { callee := Callee.builtin Builtin.append, args := #[s, x], argTypes := #[t, t] })
    (base : Nat) (e : TypeId) (i : TypeInfo) (z : Value) (size bytes : Nat) (h1 : P.underlying t = some (.slice e)) (h2 : P.info? e = some i) (h3 : i.zero = some z) (h4 : i.size = size) (h5 : i.bytes = bytes) (h6 : z.cells.size = size) (h7 : 0 < size)
    (v : Value) (k : Nat) (xs : List Value) (hs : a.eval s = v) (hown : w.ownsRow base e size v k xs) (ad : Addr) (m c : Nat) (news : List Value) (hx : a.eval x = .slice (some ad) m c) (hn : news.length = m * size)
    (hc : ∀ j u, news[j]? = some u → w.cell? (ad.add j) = some u) (h1c : ∀ u ∈ news, u.oneCell' = true) (b1 : k + m ≤ maxLen) (b2 : (k + m) * bytes ≤ 140737488355328) (b3 : base ≤ w.heap.size)
    (hK : ∀ v' w', w'.ownsRow base e size v' (k + m) (xs ++ news) → w.grownBy w' v.ownBlock → K (a.put o.dst v') w') :
    if Region.wanted o (yielded ops a.tmps) = true then Oper.wp P o a w K Q else E := by
  rw [if_pos (by simp [Region.wanted, hg])]
  obtain ⟨v', w', hrun, r1, r2, _⟩ := run_append_own (P := P) w base t o.type e i z size bytes h1 h2 h3 h4 h5 h6 h7 v k xs hown ad m c news hn hc h1c b1 b2 b3
  unfold Oper.wp
  simp [execOp, hop, resolve, invoke, builtin, hs, hx, hrun, Result.andThen]
  exact hK v' w' r1 r2
theorem own_grownU {n₀ : Nat} {W W' : World} {e t : TypeId} {size k size' k' : Nat} {v v' : Value} {xs ys : List Value} (h : W.ownsRow n₀ e size v k xs) (h' : W.ownsRow n₀ t size' v' k' ys) (hte : t ≠ e) (hg : W.grownBy W' v'.ownBlock) : W'.ownsRow n₀ e size v k xs := by
  refine ⟨h.1, ?_⟩
  rcases h.2 with q | ⟨g, cap, cur, q1, q2, q3, q4⟩
  · exact .inl q
  · refine .inr ⟨g, cap, cur, q1, q2, (hg.block g (Array.getElem?_eq_some_iff.1 q3).1 ?_).trans q3, q4⟩
    intro eq
    rcases h'.2 with ⟨rfl, _⟩ | ⟨g', cap', cur', rfl, _, hgb, _⟩
    · simp [Value.ownBlock] at eq
    · have e' : g = g' := by simpa [Value.ownBlock] using eq
      subst e'
      rw [q3] at hgb
      injection hgb with hgb
      injection hgb with _ hgb _
      exact hte hgb.symm

def unV (us : List (ByteArray × Int × Value)) : List Value := us.flatMap (fun t => [.string t.1, .int .i64 t.2.1, t.2.2])
theorem unV_snoc (us : List (ByteArray × Int × Value)) (t : ByteArray × Int × Value) : unV us ++ [.string t.1, .int .i64 t.2.1, t.2.2] = unV (us ++ [t]) := by simp [unV]
theorem unV_get (us : List (ByteArray × Int × Value)) : ∀ (j : Nat) (t : ByteArray × Int × Value), us[j]? = some t → (unV us)[j * 3]? = some (.string t.1) ∧ (unV us)[j * 3 + 1]? = some (.int .i64 t.2.1) ∧ (unV us)[j * 3 + 2]? = some t.2.2 := by
  induction us with
  | nil => intro j t h; simp at h
  | cons x r ih =>
    intro j t h
    have e : unV (x :: r) = .string x.1 :: .int .i64 x.2.1 :: x.2.2 :: unV r := rfl
    rw [e]
    cases j with
    | zero => simp at h; subst h; exact ⟨rfl, rfl, rfl⟩
    | succ j =>
      have := ih j t (by simpa using h)
      rw [show (j + 1) * 3 = j * 3 + 1 + 1 + 1 by omega]
      exact this
/-- the document's units half made -/
def DUp (G : ByteArray → List ByteArray) (L : List Mx) (B k : Nat) (vx : Value) (wx : World) : Prop :=
  ∃ us : List (ByteArray × Int × Value), us.length = k ∧ wx.ownsRow B 37 3 vx k (unV us) ∧ ∀ (j : Nat) (x : Mx) (t : ByteArray × Int × Value), L[j]? = some x → us[j]? = some t → t.1 = x.n ∧ t.2.1 = x.s ∧ wx.ownsRow B 9 1 t.2.2 (G x.dt).length ((G x.dt).map .string)
theorem DUp.on {G : ByteArray → List ByteArray} {L : List Mx} {B k : Nat} {vx : Value} {wx w' : World} (h : DUp G L B k vx wx) (hb : Below wx.heap.size wx w') : DUp G L B k vx w' := by
  obtain ⟨us, h1, h2, h3⟩ := h
  exact ⟨us, h1, own_onK h2 hb, fun j x t hx ht => by obtain ⟨q1, q2, q3⟩ := h3 j x t hx ht; exact ⟨q1, q2, own_onK q3 hb⟩⟩
theorem DUp.done {G : ByteArray → List ByteArray} {L : List Mx} {B n : Nat} {vx : Value} {wx : World} (h : DUp G L B n vx wx) (hn : L.length = n) : RowUn wx vx (L.map (unOf G)) := by
  obtain ⟨us, h1, h2, h3⟩ := h
  rcases h2.2 with ⟨rfl, h0⟩ | ⟨g, cap, cur, rfl, hg, hr, hc, hm, hs, ht⟩
  · refine .inl ⟨?_, none, 0, rfl⟩
    rw [List.map_eq_nil_iff]; exact List.eq_nil_of_length_eq_zero (by omega)
  · refine .inr ⟨g, 0, cap, by rw [List.length_map, hn], fun j x hj => ?_⟩
    rw [List.getElem?_map] at hj
    cases hx : L[j]? with
    | none => rw [hx] at hj; cases hj
    | some m =>
      rw [hx] at hj
      injection hj with hj
      subst hj
      have hjn : j < n := by have := (List.getElem?_eq_some_iff.1 hx).1; omega
      have hju : us[j]? = some us[j] := List.getElem?_eq_getElem (by omega)
      obtain ⟨q1, q2, q3⟩ := h3 j m _ hx hju
      obtain ⟨c1, c2, c3⟩ := unV_get us j _ hju
      rw [← ht, List.getElem?_take_of_lt (by omega), Array.getElem?_toList] at c1 c2 c3
      rw [q1] at c1
      rw [q2] at c2
      rw [Nat.zero_add]
      exact ⟨cell_rowK hr _ _ c1, cell_rowK hr _ _ c2, _, _, cell_rowK hr _ _ c3, q3⟩
/-- one more -/
theorem DUp.more {G : ByteArray → List ByteArray} {L : List Mx} {B k : Nat} {vx v3 : Value} {W w3 : World} {x : Mx} {y : Value} (us : List (ByteArray × Int × Value)) (h1 : us.length = k) (h2 : W.ownsRow B 37 3 vx k (unV us)) (h3 : ∀ (j : Nat) (x : Mx) (t : ByteArray × Int × Value), L[j]? = some x → us[j]? = some t → t.1 = x.n ∧ t.2.1 = x.s ∧ W.ownsRow B 9 1 t.2.2 (G x.dt).length ((G x.dt).map .string))
    (hx : L[k]? = some x) (hy : W.ownsRow B 9 1 y (G x.dt).length ((G x.dt).map .string)) (ho : w3.ownsRow B 37 3 v3 (k + 1) (unV us ++ [.string x.n, .int .i64 x.s, y])) (hg : W.grownBy w3 vx.ownBlock) : DUp G L B (k + 1) v3 w3 := by
  refine ⟨us ++ [(x.n, x.s, y)], by rw [List.length_append, h1]; rfl, ?_, fun j z t hz ht => ?_⟩
  · rw [← unV_snoc]; exact ho
  · by_cases e : j < us.length
    · rw [List.getElem?_append_left e] at ht
      obtain ⟨q1, q2, q3⟩ := h3 j z t hz ht
      exact ⟨q1, q2, own_grownU q3 h2 (by decide) hg⟩
    · rw [List.getElem?_append_right (by omega)] at ht
      by_cases e2 : j - us.length = 0
      · rw [e2] at ht
        injection ht with ht
        subst ht
        have : j = k := by omega
        subst this
        rw [hx] at hz; injection hz with hz; subst hz
        exact ⟨rfl, rfl, own_grownU hy h2 (by decide) hg⟩
      · rw [List.getElem?_eq_none (by simp; omega)] at ht; cases ht
set_option maxHeartbeats 8000000 in
theorem dunits12_c (G : ByteArray → List ByteArray) (v : Value) (L : List Mx) (w : World) (hv : RowM w v L) (hn : L.length ≤ 1048576)
    (HG : Hid (∀ x ∈ L, ∀ w, Calls Tryd.prog 9 #[.string x.dt] w fun r w' => ∃ v, r = .returned v ∧ w'.ownsRow w.heap.size 9 1 v (G x.dt).length ((G x.dt).map .string) ∧ Below w.heap.size w w')) :
    Calls Tryd.prog 5 #[v] w fun e w' => ∃ r, e = .returned r ∧ RowUn w' r (L.map (unOf G)) ∧ Below w.heap.size w w' := by
  obtain ⟨i0, hi, hz0, hz1, hz2⟩ := info_parts' infoU
  obtain ⟨a1, c1, q1⟩ := hv.form
  obtain ⟨n, hnn⟩ : ∃ n, n = L.length := ⟨_, rfl⟩
  have HN := hidK hnn
  have HV := hidK hv
  subst q1
  rw [← hnn] at hn ⊢ HV
  clear hv hnn
  go_enter Tryd.func5, Tryd.ntmps5
  go_wp2
  go_loopw [3, 4] (fun vx i wx => ∃ k : Nat, i = .int .i64 k ∧ k ≤ n ∧ DUp G L w.heap.size k vx wx ∧ Below w.heap.size w wx) (fun _ i _ => n - (intOf i).toNat)
  case atStart => exact ⟨0, rfl, Nat.zero_le _, ⟨[], rfl, World.ownsRow_nil _ _ _ _, fun j x t _ h => by simp at h⟩, Below.refl _ _⟩
  case round =>
    obtain ⟨k, rfl, hkn, hU, hB⟩ := hrel
    by_cases hk : k < n
    · have kI : (k : Int) < (n : Int) := by omega
      have k0 : (0 : Int) ≤ (k : Int) := by omega
      have hkl : k < L.length := by have := HN.out; omega
      obtain ⟨⟨dd, uu, gg, mm, nn, zz, dt⟩, hx⟩ : ∃ x, L[k]? = some x := ⟨_, List.getElem?_eq_getElem hkl⟩
      obtain ⟨b1, o1, p1, e1, c11⟩ := (HV.out.on hB).at hx
      have HX := hidK hx
      have HGx := hidK (HG.out _ (List.mem_of_getElem? hx) wr)
      injection e1 with e1 e1b e1c
      subst e1
      have HC11 := hidK c11
      obtain ⟨d0, d1, d2, d3, d4, d5, d6⟩ := c11
      simp only [] at d0 d1 d2 d3 d4 d5 d6
      have HUP := hidK hU
      have HBB := hidK hB
      have hvx : ∃ a m c, u3 = .slice a m c := by obtain ⟨us, _, h, _⟩ := hU; exact own_slice h
      obtain ⟨va, vm, vc, rfl⟩ := hvx
      have hws := hB.size
      clear hx hkl e1b e1c HV hU hB
      go_upto_region 6 with (go_at_call 9; refine HGx.out.mono ?_; rintro e w1 ⟨yv, rfl, ho1, hb1⟩; obtain ⟨ya, ym, yc, rfl⟩ := own_slice ho1)
      have hUW := HUP.out.on hb1
      have HB1 := hidK (bel3K HBB.out hb1)
      obtain ⟨_, _, _, _, c4, c5, _⟩ := HC11.out.on hb1
      obtain ⟨us, u1, u2, u3'⟩ := hUW
      have HU3 := hidK u3'
      have HO1 : Hid (w1.ownsRow w.heap.size 9 1 (.slice ya ym yc) (G dt).length ((G dt).map .string)) := own_base ho1 hws
      have hw1 : w.heap.size ≤ w1.heap.size := Nat.le_trans hws hb1.size
      have u2d : ((w1.drew).alloc (.cells #[.string nn, .int .i64 zz, .slice ya ym yc] 37)).ownsRow w.heap.size 37 3 (.slice va vm vc) k (unV us) := own_upK (W := w1.drew) u2 _
      have hw1d : w.heap.size ≤ w1.drew.heap.size := hw1
      have hnw := new_rowK w1.drew #[.string nn, .int .i64 zz, .slice ya ym yc] 37 [.string nn, .int .i64 zz, .slice ya ym yc] rfl
      have hszd : w.heap.size ≤ ((w1.alloc (.cells #[.string nn, .int .i64 zz, .slice ya ym yc] 37)).drew).heap.size := by
        show _ ≤ (w1.alloc _).heap.size
        rw [World.size_alloc]; omega
      have BW : Below w1.heap.size w1 ((w1.alloc (.cells #[.string nn, .int .i64 zz, .slice ya ym yc] 37)).drew) := Below.drew (bupK (Below.refl _ _) _)
      have HBW := hidK BW
      clear HGx HUP HBB HC11 d0 d1 d2 d3 d4 d5 d6 ho1 u3'
      go_region_law (first
        | (refine step_append_own rfl (.tmp 18) (.tmp 32) 27 rfl w.heap.size 37 i0 (.agg #[.string ⟨#[]⟩, .int .i64 0, .slice none 0 0]) 3 48 Tryd.underlying27 hi hz0 hz1 hz2 rfl (by decide) (.slice va vm vc) k (unV us) (by simp [Act.eval]) u2d ⟨w1.heap.size, 0, none⟩ 1 1 [.string nn, .int .i64 zz, .slice ya ym yc] (by simp [Act.eval]) rfl hnw (by intro u hu; simp at hu; rcases hu with rfl | rfl | rfl <;> rfl) (by unfold maxLen; omega) (by omega) hszd ?_; intro v3 w3 ho3 hg3))
      all_goals
        have u2W := own_onK u2 HBW.out
        have HD := hidK (DUp.more us u1 u2W (fun j x t hx ht => by obtain ⟨q1, q2, q3⟩ := HU3.out j x t hx ht; exact ⟨q1, q2, own_onK q3 HBW.out⟩) HX.out (own_onK HO1.out HBW.out) ho3 hg3)
        have HB3 := hidK (below_grow (bel3K HB1.out HBW.out) hg3 u2W (Nat.le_refl _))
        obtain ⟨va3, vm3, vc3, rfl⟩ := own_slice ho3
        clear u2W hg3 ho3 HU3 HO1 u2 u2d c4 c5 BW hnw hszd
        go_wp2
        go_roundw
        case rel => exact ⟨k + 1, by go_num, by omega, HD.out, HB3.out⟩
        case measure => simp [intOf]; omega
    · obtain rfl : k = n := by omega
      clear HV
      go_wp2
      go_ret
      exact ⟨_, rfl, hU.done HN.out.symm, hB⟩
end Go.Proofs.YtkmehjikllilaaaDoor

-- shelflaw12.sameUnits: a contract.
namespace Go.Proofs.YtkmehjikllilaaaDoor
open Go.ChangeShapes Go.WideShapes Go.ChangeAt Go.RowKit
set_option linter.unusedVariables false
set_option maxRecDepth 100000
theorem Dr.step {w w' : World} (h : Dr w w') : Dr w w'.drew := by obtain ⟨m, rfl⟩ := h; exact ⟨m + 1, rfl⟩
theorem Dr.own {w w' : World} (h : Dr w w') {B : Nat} {e : TypeId} {s n : Nat} {v : Value} {xs : List Value} (ho : w.ownsRow B e s v n xs) : w'.ownsRow B e s v n xs := by obtain ⟨m, rfl⟩ := h; exact ho
theorem Dr.cell {w w' : World} (h : Dr w w') (p : Addr) : w'.cell? p = w.cell? p := by obtain ⟨m, rfl⟩ := h; rfl
set_option maxHeartbeats 8000000 in
theorem sameUnits_c (v1 v2 : Value) (l : List Un) (w : World) (h1 : RowUn w v1 l) (h2 : RowUn w v2 l) (hn : l.length < 4294967296) (hk8 : Hid (∀ x ∈ l, x.k.length ≤ 281474976710656)) :
    Calls Tryd.prog 7 #[v1, v2] w fun e w' => e = .returned (.bool true) ∧ Dr w w' := by
  obtain ⟨a1, c1, q1⟩ := h1.form
  obtain ⟨a2, c2, q2⟩ := h2.form
  obtain ⟨n, hnn⟩ : ∃ n, n = l.length := ⟨_, rfl⟩
  have HN := hidK hnn
  have HQ1 := hidK h1
  have HQ2 := hidK h2
  subst q1
  subst q2
  rw [← hnn] at hn ⊢ HQ1 HQ2
  clear h1 h2 hnn
  go_enter Tryd.func7, Tryd.ntmps7
  go_wp2
  go_loopw [5] (fun i wx => ∃ k : Nat, i = .int .i64 k ∧ k ≤ n ∧ Dr w wx) (fun i _ => n - (intOf i).toNat)
  case atStart => exact ⟨0, rfl, Nat.zero_le _, Dr.refl _⟩
  case round =>
    obtain ⟨k, rfl, hkn, hD⟩ := hrel
    by_cases hk : k < n
    · have kI : (k : Int) < (n : Int) := by omega
      have k0 : (0 : Int) ≤ (k : Int) := by omega
      have hkl : k < l.length := by have := HN.out; omega
      obtain ⟨⟨nn, zz, ks⟩, hx⟩ : ∃ x, l[k]? = some x := ⟨_, List.getElem?_eq_getElem hkl⟩
      obtain ⟨b1, o1, p1, e1, f0, f1, y1, B1, f2, f3⟩ := HQ1.out.at hx
      obtain ⟨b2, o2, p2, e2, g0, g1, y2, B2, g2, g3⟩ := HQ2.out.at hx
      injection e1 with e1 e1b e1c
      injection e2 with e2 e2b e2c
      subst e1
      subst e2
      simp only [] at f0 f1 f2 f3 g0 g1 g2 g3
      obtain ⟨ya, ym, yc, rfl⟩ := own_slice f3
      obtain ⟨za, zm, zc, rfl⟩ := own_slice g3
      have hks : ks.length ≤ 281474976710656 := hk8.out _ (List.mem_of_getElem? hx)
      have HT : Hid (∀ wx, Dr w wx → Calls Tryd.prog 10 #[.slice ya ym yc, .slice za zm zc] wx fun e w' => e = .returned (.bool true) ∧ Dr w w') := fun wx hd => (sameTxt B1 B2 _ _ ks wx hks (hd.own f3) (hd.own g3)).mono fun e w' h => ⟨h.1, hd.trans h.2⟩
      have n1 : ∀ w', Dr w w' → w'.cell? ⟨b1, o1 + k * 3 + 2, none⟩ = some (.slice ya ym yc) := fun w' h => (h.cell _).trans f2
      have n2 : ∀ w', Dr w w' → w'.cell? ⟨b2, o2 + k * 3 + 2, none⟩ = some (.slice za zm zc) := fun w' h => (h.cell _).trans g2
      have HSW : Dr w wr := hD
      clear hx HQ1 HQ2 hkl e1b e1c e2b e2c f2 f3 g2 g3 hks hD
      go_upto_region 6 with fail
      go_region_held3 (fun w' => Dr w w') (first | (with_reducible assumption) | (with_reducible exact Dr.step (by with_reducible assumption))) (first | (go_at_call 10; refine (HT.out _ (by first | assumption | exact HSW.step)).mono ?_; rintro e w' ⟨rfl, hd'⟩))
      all_goals
        obtain ⟨m, rfl⟩ := hd'
        have hE := eqSp nn zz
        clear n1 n2 HT HSW
        go_wp2_with fail
        go_quiet (fail)
        go_wp2
        go_roundw
        case rel => exact ⟨k + 1, by go_num, by omega, ⟨m + nq, rfl⟩⟩
        case measure => simp [intOf]; omega
    · obtain rfl : k = n := by omega
      clear HQ1 HQ2
      go_wp2
      go_ret
      exact ⟨rfl, hD⟩
end Go.Proofs.YtkmehjikllilaaaDoor

-- PackUnits' walk.
namespace Go.Proofs.YtkmehjikllilaaaDoor
open Go.ChangeShapes Go.WideShapes Go.ChangeAt Go.RowKit
set_option linter.unusedVariables false
set_option maxRecDepth 100000
theorem infoMx : (Tryd.prog.info? 26).map (fun i => (i.zero, i.size, i.bytes)) = some (some (.agg #[.int .i64 0, .int .i64 0, .int .i64 0, .int .i64 0, .string ⟨#[]⟩, .int .i64 0, .string ⟨#[]⟩]), 7, 72) := by kernel_rfl
def slM : Mx := ⟨0, 0, 0, 0, ⟨#[47]⟩, 0, ⟨#[]⟩⟩
theorem mxsV_len (l : List Mx) : (mxsV l).length = l.length * 7 := by
  induction l with
  | nil => rfl
  | cons x r ih =>
    have e : mxsV (x :: r) = mxL x ++ mxsV r := rfl
    rw [e, List.length_append, ih, List.length_cons]; show 7 + _ = _; omega
theorem mxsV_get (l : List Mx) : ∀ (k m : Nat) (x : Mx), l[k]? = some x → m < 7 → (mxsV l)[k * 7 + m]? = (mxL x)[m]? := by
  induction l with
  | nil => intro k m x h; simp at h
  | cons y r ih =>
    intro k m x h hm
    have hx : (mxL y).length = 7 := rfl
    have e : mxsV (y :: r) = mxL y ++ mxsV r := rfl
    rw [e]
    cases k with
    | zero =>
      simp at h; subst h
      rw [List.getElem?_append_left (by omega)]; simp
    | succ k =>
      rw [List.getElem?_append_right (by omega)]
      have := ih k m x (by simpa using h) hm
      rw [show (k + 1) * 7 + m - (mxL y).length = k * 7 + m by rw [hx]; omega, this]
theorem mxsV_one (l : List Mx) : ∀ u ∈ mxsV l, u.oneCell' = true := by
  intro u hu
  simp only [mxsV, List.mem_flatMap] at hu
  obtain ⟨x, _, hx⟩ := hu
  simp only [mxL, List.mem_cons, List.not_mem_nil, or_false] at hx
  rcases hx with rfl | rfl | rfl | rfl | rfl | rfl | rfl <;> rfl
theorem mxAt_row {w : World} {g k : Nat} {cur : Array Value} {t : TypeId} {x : Mx} (h : w.heap[g]? = some (.cells cur t (0, 0))) (hc : ∀ m u, m < 7 → (mxL x)[m]? = some u → cur[k * 7 + m]? = some u) : MxAt w g (k * 7) x :=
  ⟨cell_rowK h _ _ (hc 0 _ (by decide) rfl), cell_rowK h _ _ (hc 1 _ (by decide) rfl), cell_rowK h _ _ (hc 2 _ (by decide) rfl), cell_rowK h _ _ (hc 3 _ (by decide) rfl), cell_rowK h _ _ (hc 4 _ (by decide) rfl), cell_rowK h _ _ (hc 5 _ (by decide) rfl), cell_rowK h _ _ (hc 6 _ (by decide) rfl)⟩
/-- the list and one behind it, in a row of its own -/
theorem in_row {w : World} {B n : Nat} {v : Value} {L : List Mx} (hn : L.length = n) (h : w.ownsRow B 26 7 v (n + 1) (mxsV L ++ mxL slM)) : ∃ g c, v = .slice (some ⟨g, 0, none⟩) (n + 1) c ∧ n + 1 ≤ c ∧ c ≤ maxLen ∧ RowM w (.slice (some ⟨g, 0, none⟩) n c) L ∧ w.cell? ⟨g, n * 7 + 4, none⟩ = some (.string ⟨#[47]⟩) := by
  rcases h.2 with ⟨_, h0⟩ | ⟨g, cap, cur, rfl, hg, hr, hc, hm, hs, ht⟩
  · cases h0
  · have hl := mxsV_len L
    have hcur : ∀ i u, i < (n + 1) * 7 → (mxsV L ++ mxL slM)[i]? = some u → cur[i]? = some u := fun i u hi hu => by
      rw [← ht, List.getElem?_take_of_lt hi, Array.getElem?_toList] at hu; exact hu
    refine ⟨g, cap, rfl, hc, hm, .inr ⟨g, 0, cap, by rw [hn], fun j x hx => ?_⟩, ?_⟩
    · rw [Nat.zero_add]
      have hj := (List.getElem?_eq_some_iff.1 hx).1
      refine mxAt_row hr fun m u h7 hu => hcur _ _ (by omega) ?_
      rw [List.getElem?_append_left (by omega), mxsV_get L j m x hx h7]; exact hu
    · refine cell_rowK hr _ _ (hcur _ _ (by omega) ?_)
      rw [List.getElem?_append_right (by omega), hl, hn, show n * 7 + 4 - n * 7 = 4 by omega]; rfl
theorem arg_cells {w : World} {b off cap : Nat} {L : List Mx} (hc : ∀ j x, L[j]? = some x → MxAt w b (off + j * 7) x) : ∀ j u, (mxsV L)[j]? = some u → w.cell? (Addr.add ⟨b, off, none⟩ j) = some u := by
  intro j u hu
  rw [Addr.add_mid]
  have hj := (List.getElem?_eq_some_iff.1 hu).1
  rw [mxsV_len] at hj
  obtain ⟨k, m, rfl, hm⟩ : ∃ k m, j = k * 7 + m ∧ m < 7 := ⟨j / 7, j % 7, by omega, by omega⟩
  have hk : k < L.length := by omega
  have hx := List.getElem?_eq_getElem hk
  rw [mxsV_get L k m _ hx hm] at hu
  obtain ⟨h0, h1, h2, h3, h4, h5, h6⟩ := hc k _ hx
  generalize L[k] = x at *
  rw [← Nat.add_assoc]
  rcases (show m = 0 ∨ m = 1 ∨ m = 2 ∨ m = 3 ∨ m = 4 ∨ m = 5 ∨ m = 6 by omega) with rfl | rfl | rfl | rfl | rfl | rfl | rfl <;> simp only [mxL, List.getElem?_cons_zero, List.getElem?_cons_succ, Option.some.injEq] at hu <;> subst hu <;> assumption
set_option maxHeartbeats 8000000 in
theorem pu_some (G : ByteArray → List ByteArray) (n : Nat) (ad : Addr) (cap : Nat) (L : List Mx) (w : World) (hM : Magic w) (hn : n ≤ 1048576) (hcells : Hid (∀ j u, (mxsV L)[j]? = some u → w.cell? (ad.add j) = some u)) (HL : Hid (L.length = n)) (HV : Hid (RowM w (.slice (some ad) n cap) L))
    (HG : Hid (∀ x ∈ L, ∀ w, Magic w → Calls Tryd.prog 8 #[.string x.dt] w fun r w' => ∃ v, r = .returned v ∧ w'.ownsRow w.heap.size 9 1 v (G x.dt).length ((G x.dt).map .string) ∧ Below w.heap.size w w'))
    (HD : Hid (∀ x ∈ L, ∀ w, Calls Tryd.prog 9 #[.string x.dt] w fun r w' => ∃ v, r = .returned v ∧ w'.ownsRow w.heap.size 9 1 v (G x.dt).length ((G x.dt).map .string) ∧ Below w.heap.size w w'))
    (HK : Hid (∀ x ∈ L.map (unOf G), x.k.length ≤ 281474976710656)) :
    Calls Tryd.prog 3 #[(.slice (some ad) n cap)] w fun e w' => e = .returned (.bool true) ∧ Below w.heap.size w w' := by
  obtain ⟨i0, hi, hz0, hz1, hz2⟩ := info_parts' infoMx
  have HM := hidK hM
  clear hM
  go_enter Tryd.func3, Tryd.ntmps3
  go_upto_region 3 with (refine wpList_append_own _ rfl (.tmp 8) (.tmp 9) 22 rfl w.heap.size 26 i0 (.agg #[.int .i64 0, .int .i64 0, .int .i64 0, .int .i64 0, .string ⟨#[]⟩, .int .i64 0, .string ⟨#[]⟩]) 7 72 Tryd.underlying22 hi hz0 hz1 hz2 rfl (by decide) (.slice none 0 0) 0 [] rfl ⟨rfl, .inl ⟨rfl, rfl⟩⟩ ad n cap (mxsV L) rfl (by rw [mxsV_len, HL.out]) hcells.out (mxsV_one L) (by unfold maxLen; omega) (by omega) (Nat.le_refl _) ?_; intro v1 w1 o1 g1 _; rw [Nat.zero_add, List.nil_append] at o1; have B1 : Below w.heap.size w w1 := (Below.refl _ _).grown g1 (Nat.le_refl _) (fun q hq => by cases hq); clear g1)
  have hs1 := B1.size
  have HB1 := hidK B1
  clear B1
  go_upto_region 4 with (refine wpList_append_own _ rfl (.tmp 11) (.tmp 13) 22 rfl w.heap.size 26 i0 (.agg #[.int .i64 0, .int .i64 0, .int .i64 0, .int .i64 0, .string ⟨#[]⟩, .int .i64 0, .string ⟨#[]⟩]) 7 72 Tryd.underlying22 hi hz0 hz1 hz2 rfl (by decide) v1 n (mxsV L) rfl (own_upK o1 _) ⟨w1.heap.size, 0, none⟩ 1 1 (mxL slM) rfl rfl (new_rowK w1 (mxL slM).toArray 26 (mxL slM) rfl) (mxsV_one [slM]) (by unfold maxLen; omega) (by omega) (by rw [World.size_alloc]; omega) ?_; intro v2 w2 o2 g2 _)
  have HB2 := hidK (below_grow (bupK HB1.out (.cells (mxL slM).toArray 26)) g2 (own_upK o1 _) (Nat.le_refl _))
  obtain ⟨g, c2, rfl, hc1, hc2, hR, hcell⟩ := in_row HL.out o2
  have HR2 := hidK hR
  have HC2 := hidK hcell
  clear o1 o2 g2 hR hcell HB1
  have hcm : c2 ≤ 9223372036854775807 := by unfold maxLen at hc2; omega
  have nI : (n : Int) < (n : Int) + 1 := by omega
  go_upto_region 6 with (go_at_call 4; refine (units12_c G _ L _ (HM.out.kept HB2.out) HR2.out (by rw [HL.out]; exact hn) HG).mono ?_; rintro e w3 ⟨u, rfl, hu3, b3⟩)
  have HB3 := hidK (bel3K HB2.out b3)
  have HR3 := hidK (HR2.out.on b3)
  have HC3 := hidK (cell_onU HC2.out b3)
  have HU3 := hidK hu3
  clear HB2 HR2 HC2 b3 hu3
  go_upto_region 7 with (go_at_call 5; refine (dunits12_c G _ L _ (HV.out.on HB3.out) (by rw [HL.out]; exact hn) HD).mono ?_; rintro e w4 ⟨u', rfl, hu4, b4⟩)
  have HB4 := hidK (bel3K HB3.out b4)
  have HR4 := hidK (HR3.out.on b4)
  have HC4 := hidK (cell_onU HC3.out b4)
  have HU4 := hidK hu4
  have HU5 := hidK (HU3.out.on b4)
  clear HB3 HR3 HC3 HU3 b4 hu4
  go_upto_region 8 with (go_at_call 6; refine (members12_c _ _ L _ HR4.out (HV.out.on HB4.out) (by rw [HL.out]; omega)).mono ?_; rintro e w5 ⟨rfl, hd5⟩)
  have hd5' : Dr w4 w5 := hd5
  have b5 := hd5'.below w4.heap.size
  have HB5 := hidK (bel3K HB4.out b5)
  have hcell := cell_onU HC4.out b5
  have HU6 := hidK (HU4.out.on b5)
  have HU7 := hidK (HU5.out.on b5)
  clear HB4 HR4 HC4 HU4 HU5 hd5 b5 hd5'
  have HSU := hidK (sameUnits_c _ _ _ w5 HU7.out HU6.out (by rw [List.length_map, HL.out]; omega) HK)
  clear HU6 HU7
  have HC5 := hidK hcell
  clear hcell
  go_wp2_with (first | (go_at_call 7; refine HSU.out.mono ?_; rintro e w6 ⟨rfl, hd6⟩; have hcell := cell_onU HC5.out (hd6.below w5.heap.size); have HB6 := hidK (bel3K HB5.out (hd6.below w5.heap.size)); clear hd6))
  go_ret
  exact ⟨rfl, HB6.out⟩
set_option maxHeartbeats 8000000 in
theorem pu_none (G : ByteArray → List ByteArray)  (w : World) (hM : Magic w)    (HV : Hid (RowM w (.slice none 0 0) []))
    (HG : Hid (∀ x ∈ ([] : List Mx), ∀ w, Magic w → Calls Tryd.prog 8 #[.string x.dt] w fun r w' => ∃ v, r = .returned v ∧ w'.ownsRow w.heap.size 9 1 v (G x.dt).length ((G x.dt).map .string) ∧ Below w.heap.size w w'))
    (HD : Hid (∀ x ∈ ([] : List Mx), ∀ w, Calls Tryd.prog 9 #[.string x.dt] w fun r w' => ∃ v, r = .returned v ∧ w'.ownsRow w.heap.size 9 1 v (G x.dt).length ((G x.dt).map .string) ∧ Below w.heap.size w w'))
    (HK : Hid (∀ x ∈ ([] : List Mx).map (unOf G), x.k.length ≤ 281474976710656)) :
    Calls Tryd.prog 3 #[(.slice none 0 0)] w fun e w' => e = .returned (.bool true) ∧ Below w.heap.size w w' := by
  obtain ⟨i0, hi, hz0, hz1, hz2⟩ := info_parts' infoMx
  have HM := hidK hM
  clear hM
  go_enter Tryd.func3, Tryd.ntmps3
  go_upto_region 3 with (refine wpList_append_own_none rfl (.tmp 8) (.tmp 9) 22 rfl w.heap.size 26 i0 7 Tryd.underlying22 hi (.slice none 0 0) 0 [] rfl ⟨rfl, .inl ⟨rfl, rfl⟩⟩ rfl ?_)
  have o1 : w.ownsRow w.heap.size 26 7 (.slice none 0 0) 0 (mxsV []) := ⟨rfl, .inl ⟨rfl, rfl⟩⟩
  have B1 := Below.refl w.heap.size w
  have hs1 := B1.size
  have HB1 := hidK B1
  clear B1
  go_upto_region 4 with (refine wpList_append_own _ rfl (.tmp 11) (.tmp 13) 22 rfl w.heap.size 26 i0 (.agg #[.int .i64 0, .int .i64 0, .int .i64 0, .int .i64 0, .string ⟨#[]⟩, .int .i64 0, .string ⟨#[]⟩]) 7 72 Tryd.underlying22 hi hz0 hz1 hz2 rfl (by decide) (.slice none 0 0) 0 (mxsV []) rfl (own_upK o1 _) ⟨w.heap.size, 0, none⟩ 1 1 (mxL slM) rfl rfl (new_rowK w (mxL slM).toArray 26 (mxL slM) rfl) (mxsV_one [slM]) (by unfold maxLen; omega) (by omega) (by rw [World.size_alloc]; omega) ?_; intro v2 w2 o2 g2 _)
  have HB2 := hidK (below_grow (bupK HB1.out (.cells (mxL slM).toArray 26)) g2 (own_upK o1 _) (Nat.le_refl _))
  obtain ⟨g, c2, rfl, hc1, hc2, hR, hcell⟩ := in_row (L := []) rfl o2
  have HR2 := hidK hR
  have HC2 := hidK hcell
  clear o1 o2 g2 hR hcell HB1
  have hcm : c2 ≤ 9223372036854775807 := by unfold maxLen at hc2; omega
  go_upto_region 6 with (go_at_call 4; refine (units12_c G _ [] _ (HM.out.kept HB2.out) HR2.out (by rw [List.length_nil]; omega) HG).mono ?_; rintro e w3 ⟨u, rfl, hu3, b3⟩)
  have HB3 := hidK (bel3K HB2.out b3)
  have HR3 := hidK (HR2.out.on b3)
  have HC3 := hidK (cell_onU HC2.out b3)
  have HU3 := hidK hu3
  clear HB2 HR2 HC2 b3 hu3
  go_upto_region 7 with (go_at_call 5; refine (dunits12_c G _ [] _ (HV.out.on HB3.out) (by rw [List.length_nil]; omega) HD).mono ?_; rintro e w4 ⟨u', rfl, hu4, b4⟩)
  have HB4 := hidK (bel3K HB3.out b4)
  have HR4 := hidK (HR3.out.on b4)
  have HC4 := hidK (cell_onU HC3.out b4)
  have HU4 := hidK hu4
  have HU5 := hidK (HU3.out.on b4)
  clear HB3 HR3 HC3 HU3 b4 hu4
  go_upto_region 8 with (go_at_call 6; refine (members12_c _ _ [] _ HR4.out (HV.out.on HB4.out) (by rw [List.length_nil]; omega)).mono ?_; rintro e w5 ⟨rfl, hd5⟩)
  have hd5' : Dr w4 w5 := hd5
  have b5 := hd5'.below w4.heap.size
  have HB5 := hidK (bel3K HB4.out b5)
  have hcell := cell_onU HC4.out b5
  have HU6 := hidK (HU4.out.on b5)
  have HU7 := hidK (HU5.out.on b5)
  clear HB4 HR4 HC4 HU4 HU5 hd5 b5 hd5'
  have HSU := hidK (sameUnits_c _ _ _ w5 HU7.out HU6.out (by rw [List.length_map, List.length_nil]; omega) HK)
  clear HU6 HU7
  have HC5 := hidK hcell
  clear hcell
  go_wp2_with (first | (go_at_call 7; refine HSU.out.mono ?_; rintro e w6 ⟨rfl, hd6⟩; have hcell : w6.cell? ⟨g, 4, none⟩ = some (.string ⟨#[47]⟩) := cell_onU HC5.out (hd6.below w5.heap.size); have HB6 := hidK (bel3K HB5.out (hd6.below w5.heap.size)); clear hd6))
  go_ret
  exact ⟨rfl, HB6.out⟩
end Go.Proofs.YtkmehjikllilaaaDoor

-- A list of members as it is read.
namespace Go.Proofs.YtkmehjikllilaaaDoor
open Go.RowKit Go.ChangeShapes Go.Deep
set_option linter.unusedVariables false
set_option maxRecDepth 100000
theorem bulk_memM {H : Type} (l : List (DataW H)) (d : DataW H) (h : d ∈ l) : Rows.uptoBulk d ≤ Rows.uptoBulkAll l := by
  induction l with
  | nil => simp at h
  | cons x r ih =>
    simp only [Rows.uptoBulkAll]
    rcases List.mem_cons.1 h with rfl | h
    · omega
    · have := ih h; omega
theorem bulk_posM {H : Type} (d : DataW H) : 1 ≤ Rows.uptoBulk d := by
  cases d with
  | lit l => cases l <;> simp [Rows.uptoBulk]
  | _ => simp [Rows.uptoBulk]
theorem bulk_lenM {H : Type} (l : List (DataW H)) : l.length ≤ Rows.uptoBulkAll l := by
  induction l with
  | nil => simp [Rows.uptoBulkAll]
  | cons x r ih => simp only [Rows.uptoBulkAll, List.length_cons]; have := bulk_posM x; omega
theorem cellsIM : Tryd.prog.cellsOf 3 = 1 := by kernel_rfl
theorem cellsSM : Tryd.prog.cellsOf 9 = 1 := by kernel_rfl
theorem cellsMM : Tryd.prog.cellsOf 24 = 4 := by kernel_rfl
theorem cellsMb : Tryd.prog.cellsOf 26 = 7 := by kernel_rfl
theorem add_offM (b off k : Nat) : (⟨b, off, none⟩ : Addr).add k = ⟨b, off + k, none⟩ := by unfold Addr.add; split <;> simp_all
theorem len4M {α : Type} {l : List α} (h : l.length = 4) : ∃ a b c d, l = [a, b, c, d] := by
  match l, h with
  | [a, b, c, d], _ => exact ⟨a, b, c, d, rfl⟩
theorem len7M {α : Type} {l : List α} (h : l.length = 7) : ∃ a b c d e f g, l = [a, b, c, d, e, f, g] := by
  match l, h with
  | [a, b, c, d, e, f, g], _ => exact ⟨a, b, c, d, e, f, g, rfl⟩
section
variable {H : Type} {enc : TypeId × Value → H} {w : World} {spare : Nat → Bool} {held : Bool}
/-- One member as it is read. -/
theorem open_member {n : Nat} {b off : Nat} {cs : List Value} {x : DataW H × List MemPlace} (h1 : w.cells? 0 ⟨b, off, none⟩ 7 = some cs) (h : DataW.trod enc Tryd.prog w 0 spare held n 26 cs = some x) :
    ∃ o : Mx, MxAt w b off o ∧ o.dt.size ≤ Rows.uptoBulk x.1 ∧ o.n.size ≤ Rows.uptoBulk x.1 := by
  obtain ⟨_, hlen, hcell⟩ := World.cells?_some h1
  obtain ⟨xs, m, rfl, hx, _, hxl, hf⟩ := DataW.trod_struct Tryd.underlying26 h
  obtain ⟨y0, y1, y2, y3, rfl⟩ := len4M hxl
  obtain ⟨v0, v1, v2, v3, v4, v5, v6, rfl⟩ := len7M hlen
  have g0 : DataW.trod enc Tryd.prog w 0 spare held m 24 [v0, v1, v2, v3] = some y0 := by simpa [cellsMM] using hf 0 _ rfl
  have g1 : DataW.trod enc Tryd.prog w 0 spare held m 9 [v4] = some y1 := by simpa [cellsMM, cellsSM] using hf 1 _ rfl
  have g2 : DataW.trod enc Tryd.prog w 0 spare held m 3 [v5] = some y2 := by simpa [cellsMM, cellsSM, cellsIM] using hf 2 _ rfl
  have g3 : DataW.trod enc Tryd.prog w 0 spare held m 9 [v6] = some y3 := by simpa [cellsMM, cellsSM, cellsIM] using hf 3 _ rfl
  obtain ⟨s4, e4, z4, _⟩ := DataW.trod_string Tryd.underlying9 g1
  obtain ⟨k5, e5, _, _⟩ := DataW.trod_int Tryd.underlying3 g2
  obtain ⟨s6, e6, z6, _⟩ := DataW.trod_string Tryd.underlying9 g3
  obtain ⟨ms, m', _, _, _, hml, hmf⟩ := DataW.trod_struct Tryd.underlying24 g0
  obtain ⟨p0, p1, p2, p3, rfl⟩ := len4M hml
  have q0 : DataW.trod enc Tryd.prog w 0 spare held m' 3 [v0] = some p0 := by simpa [cellsIM] using hmf 0 _ rfl
  have q1 : DataW.trod enc Tryd.prog w 0 spare held m' 3 [v1] = some p1 := by simpa [cellsIM] using hmf 1 _ rfl
  have q2 : DataW.trod enc Tryd.prog w 0 spare held m' 3 [v2] = some p2 := by simpa [cellsIM] using hmf 2 _ rfl
  have q3 : DataW.trod enc Tryd.prog w 0 spare held m' 3 [v3] = some p3 := by simpa [cellsIM] using hmf 3 _ rfl
  obtain ⟨k0, e0, _, _⟩ := DataW.trod_int Tryd.underlying3 q0
  obtain ⟨k1, e1, _, _⟩ := DataW.trod_int Tryd.underlying3 q1
  obtain ⟨k2, e2, _, _⟩ := DataW.trod_int Tryd.underlying3 q2
  obtain ⟨k3, e3, _, _⟩ := DataW.trod_int Tryd.underlying3 q3
  cases e0; cases e1; cases e2; cases e3; cases e4; cases e5; cases e6
  have cell : ∀ i v, [Value.int .i64 k0, .int .i64 k1, .int .i64 k2, .int .i64 k3, .string s4, .int .i64 k5, .string s6][i]? = some v → w.cell? ⟨b, off + i, none⟩ = some v := fun i v hv => by
    have hi : i < 7 := by
      rcases Nat.lt_or_ge i 7 with h' | h'
      · exact h'
      · rw [List.getElem?_eq_none (by simpa using h')] at hv; cases hv
    have := hcell i hi
    rw [add_offM] at this
    rw [this]; exact hv
  have hbx : Rows.uptoBulk y1.1 ≤ Rows.uptoBulk x.1 ∧ Rows.uptoBulk y3.1 ≤ Rows.uptoBulk x.1 := by
    rw [hx]
    simp only [Rows.uptoBulk, List.map_cons, List.map_nil, Rows.uptoBulkAll]
    omega
  have hs4 : s4.size ≤ Rows.uptoBulk y1.1 := by
    rw [z4]
    simp only [Rows.uptoBulk, Array.length_toList]
    show s4.data.size ≤ _
    omega
  have hs6 : s6.size ≤ Rows.uptoBulk y3.1 := by
    rw [z6]
    simp only [Rows.uptoBulk, Array.length_toList]
    show s6.data.size ≤ _
    omega
  exact ⟨⟨k0, k1, k2, k3, s4, k5, s6⟩, ⟨cell 0 _ rfl, cell 1 _ rfl, cell 2 _ rfl, cell 3 _ rfl, cell 4 _ rfl, cell 5 _ rfl, cell 6 _ rfl⟩, by have := hbx.2; show s6.size ≤ _; omega, by have := hbx.1; show s4.size ≤ _; omega⟩
/-- A list of members as it is read. -/
theorem open_members {fuel : Nat} {v : Value} {x : DataW H × List MemPlace} (h : DataW.trod enc Tryd.prog w 0 spare held fuel 22 [v] = some x) (hB : Rows.uptoBulk x.1 ≤ 1048576) :
    ∃ l : List Mx, RowM w v l ∧ (∀ o ∈ l, o.dt.size ≤ 1048576) ∧ l.length ≤ 1048576 ∧ (v = .slice none 0 0 ∨ ∃ ad n c, v = .slice (some ad) n c) := by
  rcases open_slice Tryd.underlying22 h with ⟨hcs, _⟩ | ⟨a, len, cap, m, n, D, Pl, hcs, _, hl, hm, hmm, hx, hel⟩
  · cases hcs
    exact ⟨[], .inl ⟨rfl, _, _, rfl⟩, fun o hj => by simp at hj, by simp, .inl rfl⟩
  · cases hcs
    have hlm : len ≤ m := by rw [hmm]; split <;> omega
    have hxb : Rows.uptoBulk x.1 = Rows.uptoBulkAll ((List.range len).map D) + Rows.uptoBulkAll ((List.range (m - len)).map fun j => D (len + j)) + 1 := by rw [hx]; simp only [Rows.uptoBulk]
    have hlen : len ≤ 1048576 := by
      have := bulk_lenM ((List.range len).map D)
      simp at this; omega
    rcases Nat.eq_zero_or_pos len with h0 | h0
    · subst h0
      exact ⟨[], .inl ⟨rfl, _, _, rfl⟩, fun o hj => by simp at hj, by simp, .inr ⟨_, _, _, rfl⟩⟩
    · rw [cellsMb] at hel
      obtain ⟨b, off, spot⟩ := a
      have hs : spot = none := by
        obtain ⟨cs', h1, _⟩ := hel 0 (by omega)
        obtain ⟨_, hl1, hc1⟩ := World.cells?_some h1
        have := hc1 0 (by omega)
        rw [List.getElem?_eq_getElem (by omega)] at this
        simpa [Addr.add] using World.cell?_spot this
      subst hs
      have each : ∀ i, i < len → ∃ o : Mx, MxAt w b (off + i * 7) o ∧ o.dt.size ≤ 1048576 := by
        intro i hi
        obtain ⟨cs', h1, h2⟩ := hel i (by omega)
        rw [add_offM] at h1
        obtain ⟨o, a1, a2, a3⟩ := open_member h1 h2
        have hbd : Rows.uptoBulk (D i) ≤ Rows.uptoBulkAll ((List.range len).map D) := bulk_memM _ _ (List.mem_map.2 ⟨i, List.mem_range.2 hi, rfl⟩)
        exact ⟨o, a1, by simp only at a2; omega⟩
      haveI : Inhabited Mx := ⟨⟨0, 0, 0, 0, ⟨#[]⟩, 0, ⟨#[]⟩⟩⟩
      obtain ⟨f, hf⟩ := choose_lt each
      have hg : ∀ (j : Nat) (o : Mx), ((List.range len).map f)[j]? = some o → j < len ∧ o = f j := by
        intro j o hj
        rw [List.getElem?_map] at hj
        rcases Nat.lt_or_ge j len with h' | h'
        · rw [List.getElem?_range h'] at hj; cases hj; exact ⟨h', rfl⟩
        · rw [List.getElem?_eq_none (by simpa using h')] at hj; cases hj
      refine ⟨(List.range len).map f, .inr ⟨b, off, cap, by simp, fun j o hj => ?_⟩, fun o hj => ?_, by simpa using hlen, .inr ⟨_, _, _, rfl⟩⟩
      · obtain ⟨hj', rfl⟩ := hg j o hj; exact (hf j hj').1
      · obtain ⟨j, hj, e⟩ := List.mem_iff_getElem.1 hj
        obtain ⟨hj', rfl⟩ := hg j o (by rw [List.getElem?_eq_getElem hj, e])
        exact (hf j hj').2
end
/-- what Globals tells of a text -/
def GOk (b : ByteArray) (K : List ByteArray) : Prop := b.size ≤ 1048576 → (∀ w, Magic w → Calls Tryd.prog 8 #[.string b] w fun r w' => ∃ v, r = .returned v ∧ w'.ownsRow w.heap.size 9 1 v K.length (K.map .string) ∧ Below w.heap.size w w') ∧ (∀ w, Calls Tryd.prog 9 #[.string b] w fun r w' => ∃ v, r = .returned v ∧ w'.ownsRow w.heap.size 9 1 v K.length (K.map .string) ∧ Below w.heap.size w w') ∧ K.length ≤ 281474976710656
theorem globals_of : ∃ G : ByteArray → List ByteArray, ∀ b : ByteArray, GOk b (G b) := by
  refine Classical.axiomOfChoice (r := GOk) (fun b => ?_)
  by_cases hb : b.size ≤ 1048576
  · obtain ⟨l, e, hl, hne, hp, hr⟩ := tables_both b hb
    refine ⟨(l.filter offB).map Sym.name, fun _ => ⟨fun w hM => Globals_c b l e hp hne hl w hM, fun w => dGlobals_c b l e hr hne hl w, ?_⟩⟩
    rw [List.length_map]
    have := List.length_filter_le offB l
    omega
  · exact ⟨[], fun h => absurd h hb⟩
theorem packUnits_w (a0 : Value) (l0 : List Mx) (w : World) (hM : Magic w) (hr : RowM w a0 l0) (hz : ∀ o ∈ l0, o.dt.size ≤ 1048576) (hl : l0.length ≤ 1048576) (hf : a0 = .slice none 0 0 ∨ ∃ ad n c, a0 = .slice (some ad) n c) :
    Calls Tryd.prog 3 #[a0] w fun e w' => e = .returned (.bool true) ∧ Below w.heap.size w w' := by
  obtain ⟨G, hG⟩ := globals_of
  have hK : ∀ x ∈ l0.map (unOf G), x.k.length ≤ 281474976710656 := by
    intro x hx
    obtain ⟨y, hy, rfl⟩ := List.mem_map.1 hx
    exact (hG y.dt (hz y hy)).2.2
  rcases hf with rfl | ⟨ad, n, c, rfl⟩
  · have h0 : l0 = [] := by
      rcases hr with ⟨h, _⟩ | ⟨b, off, cap, e, _⟩
      · exact h
      · cases e
    subst h0
    exact pu_none G w hM hr (fun x hx => by simp at hx) (fun x hx => by simp at hx) hK
  · have hn : l0.length = n := by
      obtain ⟨_, _, e⟩ := hr.form
      injection e with _ e _
      exact e.symm
    refine pu_some G n ad c l0 w hM (by omega) ?_ hn hr (fun x hx w hM => (hG x.dt (hz x hx)).1 w hM) (fun x hx w => (hG x.dt (hz x hx)).2.1 w) hK
    rcases hr with ⟨h, _⟩ | ⟨b, off, cap, e, hc⟩
    · subst h; intro j u hu; simp [mxsV] at hu
    · injection e with e1 _ _
      injection e1 with e1
      subst e1
      exact arg_cells (cap := c) hc
end Go.Proofs.YtkmehjikllilaaaDoor
