import Derived.Test.YtkmehjikllilaaaDoorN32z
import Derived.Test.YtkmehjikllilaaaDoorM2
import Derived.Test.YtkmehjikllilaaaDoorY0
import Derived.OwnWalk
import Derived.Laws.AppendOwnNone
import Derived.Test.YtkmehjikllilaaaDoorM4
import Derived.Deep.RegionHeld3
import Derived.Deep.RegionWith
import Derived.Test.YtkmehjikllilaaaDoorM5
import Derived.Test.YtkmehjikllilaaaDoorM1
import Derived.LoopTactic

-- The document's one by the plain words, class 32: contract.
namespace Go.Proofs.YtkmehjikllilaaaDoor
open Go.ChangeShapes Go.WideShapes Go.ChangeAt Go.RowKit
set_option linter.unusedVariables false
set_option maxRecDepth 100000
theorem strs_ne_32 {b : ByteArray} {n : Nat} {s : Nat → Sec} {x : Sec} {e : Int} (h : strsOf b n s x = .error e) : e ≠ 0 := by
  unfold strsOf at h
  split at h
  · split at h
    · cases h; decide
    · cases h
  · cases h; decide
theorem open_strs_32 {b : ByteArray} {n : Nat} {s : Nat → Sec} {x : Sec} {t : ByteArray} (h7 : x.en = 16) (h6 : x.sz % 16 = 0) (hc : cont b x = some t) : openOf b 32 n s x = match strsOf b n s x with | .error e => .error e | .ok names => .ok (t, names) := by
  unfold openOf strsOf
  rw [if_pos ⟨h7, h6⟩, hc]
  by_cases h : x.li < n ∧ (s x.li).ty = 3
  · simp only [if_pos h]
    cases cont b (s x.li) <;> rfl
  · simp only [if_neg h]
/-- what one answers, by the plain words -/
def OneC32 (b : ByteArray) (o : Int) (n : Nat) (s : Nat → Sec) (x : Sec) (w : World) (r : Ending) (w' : World) : Prop :=
  Below w.heap.size w w' ∧ ((∃ e, oneOf b 32 o n s x = .error e ∧ r = .returned (.tuple #[.slice none 0 0, .int .i64 e])) ∨ (∃ l v, oneOf b 32 o n s x = .ok l ∧ r = .returned (.tuple #[v, .int .i64 0]) ∧ w'.ownsRow w.heap.size 42 7 v l.length (symsV l)))
theorem one_32 (b : ByteArray) (B n : Nat) (v : Value) (s : Nat → Sec) (x : Sec) (o h2 h3 h4 h5 h6 h7 : Int) (w : World) (hS : SecsIn B w v n s) (hn : n ≤ 26214) (hB : SecB s) (hb : b.size ≤ 1048576) (ho : o = 0 ∨ o = 1) (hx : x.off < 18446744073709551616 ∧ x.sz < 18446744073709551616) (hx1 : x.ty = 2) :
    Calls Tryd.prog 19 #[.string b, .agg #[.int .i64 32, .int .i64 o, .int .i64 h2, .int .i64 h3, .int .u64 h4, .int .i64 h5, .int .i64 h6, .int .i64 h7], v, .agg x.v] w (OneC32 b o n s x w) := by
  have hm : b.size ≤ maxLen := by unfold maxLen; omega
  obtain ⟨x0, x1, x2, x3, x4, x5, x6, x7⟩ := x
  by_cases h7' : x7 = 16
  case neg =>
    refine (one_55a_32 b v o h2 h3 h4 h5 h6 h7 x0 x1 x2 x3 x4 x5 x6 x7 w h7').mono fun r w' ⟨h1, h2⟩ => ⟨h2, Or.inl ⟨55, one_err ?_, h1⟩⟩
    unfold openOf
    rw [if_neg]
    intro h
    exact h7' h.1
  subst h7'
  by_cases h6' : x6 % 16 = 0
  case neg =>
    refine (one_55b_32 b v o h2 h3 h4 h5 h6 h7 x0 x1 x2 x3 x4 x5 x6 w hx.2 h6').mono fun r w' ⟨h1, h2⟩ => ⟨h2, Or.inl ⟨55, one_err ?_, h1⟩⟩
    unfold openOf
    rw [if_neg]
    intro h
    exact h6' h.2
  cases hc : cont b ⟨x0, x1, x2, x3, x4, x5, x6, 16⟩ with
  | none =>
    refine (one_54_32 b v o h2 h3 h4 h5 h6 h7 x0 x1 x2 x3 x4 x5 x6 w hx.2 h6' (fun w => dcont_no b _ hm hx hc w)).mono fun r w' ⟨h1, h2⟩ => ⟨h2, Or.inl ⟨54, one_err ?_, h1⟩⟩
    unfold openOf
    rw [if_pos ⟨rfl, h6'⟩, hc]
  | some t =>
    have hop := open_strs_32 (n := n) (s := s) (x := ⟨x0, x1, x2, x3, x4, x5, x6, 16⟩) rfl h6' hc
    have hst (wx : World) (hbx : Below w.heap.size w wx) := strings_c b B n v s ⟨x0, x1, x2, x3, x4, x5, x6, 16⟩ wx (hS.kept hbx) hn hB hm
    cases hss : strsOf b n s ⟨x0, x1, x2, x3, x4, x5, x6, 16⟩ with
    | error e =>
      rw [hss] at hop
      refine (one_str_32 b t e v o h2 h3 h4 h5 h6 h7 x0 x1 x2 x3 x4 x5 x6 w hx.2 h6' (strs_ne_32 hss) (fun w => dcont_ok b t _ hm hc w) (fun wx hbx => (hst wx hbx).mono fun r w' ⟨h1, h2⟩ => ?_)).mono fun r w' ⟨h1, h2⟩ => ⟨h2, Or.inl ⟨e, one_err hop, h1⟩⟩
      rcases h2 with ⟨e', h3, h4⟩ | ⟨t', h3, h4⟩
      · rw [hss] at h3
        obtain rfl := Except.error.inj h3
        exact ⟨h4, h1⟩
      · rw [hss] at h3; cases h3
    | ok names =>
      rw [hss] at hop
      obtain ⟨hz1, hz2, hz3⟩ := open_size hop hx1 hb
      have hzL : t.size = t.size / 16 * 16 := by
        have h3 : t.size % 16 = 0 := hz3
        omega
      refine (one_go_32 b t names (t.size / 16) v o h2 h3 h4 h5 h6 h7 x0 x1 x2 x3 x4 x5 x6 w hx.2 h6' hz1 hz2 ho hzL (fun w => dcont_ok b t _ hm hc w) (fun wx hbx => (hst wx hbx).mono fun r w' ⟨h1, h2⟩ => ?_)).mono fun r w' ⟨h1, h2⟩ => ⟨h1, ?_⟩
      · rcases h2 with ⟨e', h3, h4⟩ | ⟨t', h3, h4⟩
        · rw [hss] at h3; cases h3
        · rw [hss] at h3
          obtain rfl := Except.ok.inj h3
          exact ⟨h4, h1⟩
      · rcases h2 with ⟨l, v', h3, h4, h5⟩ | ⟨h3, h4⟩
        · exact Or.inr ⟨l, v', one_some hop h3, h4, h5⟩
        · exact Or.inl ⟨56, one_none hop h3, h4⟩
end Go.Proofs.YtkmehjikllilaaaDoor

-- Plain: a refusal is no 0.
namespace Go.Proofs.YtkmehjikllilaaaDoor
set_option linter.unusedVariables false
set_option maxRecDepth 100000
theorem one_ne {b : ByteArray} {c : Nat} {o : Int} {n : Nat} {s : Nat → Sec} {x : Sec} {e : Int} (h : oneOf b c o n s x = .error e) : e ≠ 0 := by
  unfold oneOf at h
  split at h
  · rename_i e' he
    obtain rfl := Except.error.inj h
    exact open_ne he
  · split at h
    · cases h; decide
    · cases h
end Go.Proofs.YtkmehjikllilaaaDoor

-- append of a list of its own onto a list of its own; a list of symbols' cells.
namespace Go.Proofs.YtkmehjikllilaaaDoor
open Go.ChangeShapes Go.WideShapes Go.ChangeAt Go.RowKit
set_option linter.unusedVariables false
set_option maxRecDepth 100000
theorem wpList_append_rows {P : Program} {w : World} {ops : Array Oper} {rest : List Oper} {op : Oper} {a : Act} {Q : Exit → Act → World → Prop} (hgd : op.guard = none) (s x : Operand) (t : TypeId)
    (ho : op.op = .call { callee := .builtin .append, args := #[s, x], argTypes := #[t, t] })
    (base : Nat) (e : TypeId) (i : TypeInfo) (z : Value) (size bytes : Nat) (ht : P.underlying t = some (.slice e)) (hi : P.info? e = some i) (hz : i.zero = some z)
    (hsize : i.size = size) (hby : i.bytes = bytes) (hzs : z.cells.size = size) (hsz : 0 < size)
    (v : Value) (n : Nat) (xs : List Value) (hs : a.eval s = v) (hown : w.ownsRow base e size v n xs)
    (C : Nat) (u : Value) (m : Nat) (ys : List Value) (hx : a.eval x = u) (hown2 : w.ownsRow C e size u m ys) (h1 : ∀ q ∈ ys, q.oneCell' = true)
    (h63 : n + m ≤ maxLen) (hbytes : (n + m) * bytes ≤ 140737488355328) (hbase : base ≤ w.heap.size)
    (h : ∀ v' w', w'.ownsRow base e size v' (n + m) (xs ++ ys) → w.grownBy w' v.ownBlock → wpList P ops Q rest (a.put op.dst v') w') : wpList P ops Q (op :: rest) a w := by
  rcases hown2.2 with ⟨rfl, rfl⟩ | ⟨g, cap, cur, rfl, _, hg, _, _, _, htk⟩
  · have hy : ys = [] := List.length_eq_zero_iff.1 (by rw [hown2.1, Nat.zero_mul])
    subst hy
    exact wpList_append_own_none hgd s x t ho base e i size ht hi v n xs hs hown hx (h v w (by rw [List.append_nil]; exact hown) (World.grownBy.refl _ _))
  · exact wpList_append_own _ hgd s x t ho base e i z size bytes ht hi hz hsize hby hzs hsz v n xs hs hown ⟨g, 0, none⟩ m cap ys hx hown2.1 (fun j q hj => hown2.cells rfl j q hj) h1 h63 hbytes hbase (fun v' w' h2 h3 _ => h v' w' h2 h3)
theorem symsV_one : ∀ (l : List Sym) (q : Value), q ∈ symsV l → q.oneCell' = true
  | [], q, h => by cases h
  | x :: l, q, h => by
    rw [symsV_cons] at h
    rcases List.mem_append.1 h with h | h
    · simp only [symV, List.mem_cons, List.not_mem_nil, or_false] at h
      rcases h with rfl | rfl | rfl | rfl | rfl | rfl | rfl <;> rfl
    · exact symsV_one l q h
end Go.Proofs.YtkmehjikllilaaaDoor

-- The document's Table, class 32: contract.
namespace Go.Proofs.YtkmehjikllilaaaDoor
open Go.ChangeShapes Go.WideShapes Go.ChangeAt Go.RowKit
set_option linter.unusedVariables false
set_option maxRecDepth 100000
theorem dsecs_low_32 {B C g n cp : Nat} {w w' : World} {s : Nat → Sec} (h : SecsIn B w (.slice (some ⟨g, 0, none⟩) n cp) n s) (hg : g < C) (hb : Below C w w') : SecsIn B w' (.slice (some ⟨g, 0, none⟩) n cp) n s := by
  obtain ⟨ao, c, hv, hr⟩ := h
  refine ⟨ao, c, hv, fun hn => ?_⟩
  obtain ⟨g', cur, h1, h2, h3, h4⟩ := hr hn
  subst h1
  obtain rfl : g = g' := by
    have h := Value.slice.inj hv
    exact congrArg Addr.block (Option.some.inj h.1)
  exact ⟨g, cur, rfl, h2, (hb.block g hg).trans h3, h4⟩
set_option maxHeartbeats 4000000 in
theorem dtable_32 (b : ByteArray) (n : Nat) (s : Nat → Sec) (o h2 h3 h4 h5 h6 h7 : Int) (w : World) (hb : b.size ≤ 1048576) (ho : o = 0 ∨ o = 1) (hn : n ≤ 26214) (hsb : SecB s) (hP : DSecs b n s 0)
    (hH : ∀ w : World, Calls Tryd.prog 18 #[.string b] w fun r w' => r = .returned (.tuple #[.agg #[.int .i64 32, .int .i64 o, .int .i64 h2, .int .i64 h3, .int .u64 h4, .int .i64 h5, .int .i64 h6, .int .i64 h7], .int .i64 0]) ∧ Below w.heap.size w w') :
    Calls Tryd.prog 14 #[.string b] w fun r w' => ∃ v, r = .returned (.tuple #[v, .int .i64 (tabE b 32 o n s 0)]) ∧ w'.ownsRow w.heap.size 42 7 v (tabL b 32 o n s 0).length (symsV (tabL b 32 o n s 0)) ∧ Below w.heap.size w w' := by
  have HP := Hid.mk' hP
  have HH := Hid.mk' hH
  obtain ⟨i0, hi, hz0, hz1, hz2⟩ := info_parts' infoSym
  have HALL := Hid.mk' (And.intro hb (And.intro hn (And.intro hsb ho)))
  clear hb hsb ho hP hH
  go_enter Tryd.func14, Tryd.ntmps14
  go_wp2_with (first
    | (go_at_call 17; refine (HP.out _).mono ?_; rintro r w1 ⟨v, rfl, hS, hb1⟩; obtain ⟨ao, cp, rfl, hS0⟩ := hS)
    | (go_at_call 18; refine (HH.out _).mono ?_; rintro r w3 ⟨rfl, hb2⟩))
  have hs1 := hb1.size
  have hs2 := hb2.size
  have hWK : (w3.alloc (.cells #[.int .i64 32, .int .i64 o, .int .i64 h2, .int .i64 h3, .int .u64 h4, .int .i64 h5, .int .i64 h6, .int .i64 h7] 56)).heap[w3.heap.size]? = some (.cells #[.int .i64 32, .int .i64 o, .int .i64 h2, .int .i64 h3, .int .u64 h4, .int .i64 h5, .int .i64 h6, .int .i64 h7] 56 (0, 0)) := heap_alloc_new w3 _
  have hb23 : Below w1.heap.size w1 (w3.alloc (.cells #[.int .i64 32, .int .i64 o, .int .i64 h2, .int .i64 h3, .int .u64 h4, .int .i64 h5, .int .i64 h6, .int .i64 h7] 56)) := Below.alloc hb2 hs2 _
  have hWB : Below w.heap.size w (w3.alloc (.cells #[.int .i64 32, .int .i64 o, .int .i64 h2, .int .i64 h3, .int .u64 h4, .int .i64 h5, .int .i64 h6, .int .i64 h7] 56)) := hb1.trans (hb23.mono hs1)
  have hWS : SecsIn 0 (w3.alloc (.cells #[.int .i64 32, .int .i64 o, .int .i64 h2, .int .i64 h3, .int .u64 h4, .int .i64 h5, .int .i64 h6, .int .i64 h7] 56)) (.slice ao n cp) n s := SecsIn.kept ⟨ao, cp, rfl, fun h => by obtain ⟨g, cur, h1, _, h3, h4⟩ := hS0 h; exact ⟨g, cur, h1, Nat.zero_le _, h3, h4⟩⟩ hb23
  have hWZ : (w3.alloc (.cells #[.int .i64 32, .int .i64 o, .int .i64 h2, .int .i64 h3, .int .u64 h4, .int .i64 h5, .int .i64 h6, .int .i64 h7] 56)).heap.size = w3.heap.size + 1 := size_alloc _ _
  have hwK : w.heap.size ≤ w3.heap.size := by omega
  clear hb23 hb1 hb2 hS0 HP HH hs1 hs2
  generalize (w3.alloc (.cells #[.int .i64 32, .int .i64 o, .int .i64 h2, .int .i64 h3, .int .u64 h4, .int .i64 h5, .int .i64 h6, .int .i64 h7] 56)) = W at hWK hWB hWS hWZ ⊢
  generalize w3.heap.size = K at hWK hWZ hwK ⊢
  clear w3
  have HGK : Hid (∀ g : Nat, ao = some ⟨g, 0, none⟩ → g < K + 1 ∨ n = 0) := by
    intro g hg
    obtain ⟨ao', cp', hv, hr⟩ := hWS
    obtain ⟨rfl, _, rfl⟩ : ao = ao' ∧ n = n ∧ cp = cp' := by simpa using hv
    by_cases h0 : n = 0
    · exact Or.inr h0
    · obtain ⟨g', cur, h1, _, h3, _⟩ := hr (by omega)
      rw [hg] at h1
      obtain rfl : g = g' := congrArg Addr.block (Option.some.inj h1)
      exact Or.inl (by rw [← hWZ]; exact (Array.getElem?_eq_some_iff.1 h3).1)
  go_loopw [8, 9] (fun u a wx => ∃ (i : Nat) (l : List Sym), i ≤ n ∧ a = .int .i64 i ∧ tabOf b 32 o n s i = .ok l ∧ wx.ownsRow (K + 1) 42 7 u l.length (symsV l) ∧ wx.heap[K]? = some (.cells #[.int .i64 32, .int .i64 o, .int .i64 h2, .int .i64 h3, .int .u64 h4, .int .i64 h5, .int .i64 h6, .int .i64 h7] 56 (0, 0)) ∧ SecsIn 0 wx (.slice ao n cp) n s ∧ Below w.heap.size w wx ∧ K + 1 ≤ wx.heap.size) (fun _ a _ => n - (intOf a).toNat)
  case atStart => exact ⟨0, [], Nat.zero_le _, rfl, rfl, World.ownsRow_nil _ _ _ _, hWK, hWS, hWB, by omega⟩
  case round =>
    clear hWK hWS hWB hWZ W
    obtain ⟨i, l, hi', rfl, hl, hown, hR, hS, hB, hlt⟩ := hrel
    by_cases hin : i < n
    · obtain ⟨hb, hn', hsb, ho⟩ := HALL.out
      obtain ⟨ao', cp', hv, hr⟩ := hS
      obtain ⟨rfl, _, rfl⟩ : ao = ao' ∧ n = n ∧ cp = cp' := by simpa using hv
      obtain ⟨g, cur, rfl, _, hg, hcur⟩ := hr (Nat.lt_of_le_of_lt (Nat.zero_le _) hin)
      have hS : SecsIn 0 wr (.slice (some ⟨g, 0, none⟩) n cp) n s := ⟨_, cp, rfl, fun _ => ⟨g, cur, rfl, Nat.zero_le _, hg, hcur⟩⟩
      have hgg : g < K + 1 := (HGK.out g rfl).resolve_right (by omega)
      have hxb := hsb i
      have hy := hcur i
      have hiI : (i : Int) < (n : Int) := Int.ofNat_lt.2 hin
      have hi0 : (0 : Int) ≤ (i : Int) := Int.natCast_nonneg _
      have hll := tab_length hb i l hl
      have hlm : l.length ≤ 1718091776 := by omega
      clear hr hcur hv hll
      cases hsx : s i with
      | mk x0 x1 x2 x3 x4 x5 x6 x7 =>
        rw [hsx] at hy hxb
        have a1 : wr.cell? ⟨g, i * 8 + 1, none⟩ = some (.int .i64 (x1 : Int)) := (cell_of_row _ _ _ _ _ _ hg).trans (hy 1 hin (by omega))
        by_cases h2' : x1 = 2
        case neg =>
          have HNX := Hid.mk' (tab_at_not hl (by rw [hsx]; exact h2'))
          have h2n : ((x1 : Int) != 2) = true := bne_iff_ne.2 (by omega)
          have HK := Hid.mk' (And.intro hown (And.intro hR (And.intro hS (And.intro hB hlt))))
          clear hown hR hS hB hg hy hxb hl hsx h2' hb ho hsb hlm hn'
          go_wp2
          go_roundw
          case rel => exact ⟨i + 1, l, hin, by go_num, HNX.out, HK.out⟩
          case measure => clear HK HNX HALL HGK; simp [intOf]; omega
        subst h2'
        have h2s : (s i).ty = 2 := by rw [hsx]
        have HO : Hid (∀ wx : World, Below wr.heap.size wr wx → Calls Tryd.prog 19 #[.string b, .agg #[.int .i64 32, .int .i64 o, .int .i64 h2, .int .i64 h3, .int .u64 h4, .int .i64 h5, .int .i64 h6, .int .i64 h7], .slice (some ⟨g, 0, none⟩) n cp, .agg #[.int .i64 (x0 : Int), .int .i64 2, .int .u64 (x2 : Int), .int .i64 (x3 : Int), .int .i64 (x4 : Int), .int .u64 (x5 : Int), .int .u64 (x6 : Int), .int .u64 (x7 : Int)]] wx (OneC32 b o n s ⟨x0, 2, x2, x3, x4, x5, x6, x7⟩ wx)) := fun wx hbx => one_32 b 0 n _ s ⟨x0, 2, x2, x3, x4, x5, x6, x7⟩ o h2 h3 h4 h5 h6 h7 wx (hS.kept hbx) hn' hsb hb ho hxb rfl
        have d0 : ∀ w' : World, Below wr.heap.size wr w' → w'.cell? ⟨g, i * 8, none⟩ = some (.int .i64 (x0 : Int)) := fun w' hb => (hb.cell (Array.getElem?_eq_some_iff.1 hg).1).trans ((cell_of_row _ _ _ _ _ _ hg).trans (hy 0 hin (by omega)))
        have d1 : ∀ w' : World, Below wr.heap.size wr w' → w'.cell? ⟨g, i * 8 + 1, none⟩ = some (.int .i64 2) := fun w' hb => (hb.cell (Array.getElem?_eq_some_iff.1 hg).1).trans ((cell_of_row _ _ _ _ _ _ hg).trans (hy 1 hin (by omega)))
        have d2 : ∀ w' : World, Below wr.heap.size wr w' → w'.cell? ⟨g, i * 8 + 2, none⟩ = some (.int .u64 (x2 : Int)) := fun w' hb => (hb.cell (Array.getElem?_eq_some_iff.1 hg).1).trans ((cell_of_row _ _ _ _ _ _ hg).trans (hy 2 hin (by omega)))
        have d3 : ∀ w' : World, Below wr.heap.size wr w' → w'.cell? ⟨g, i * 8 + 3, none⟩ = some (.int .i64 (x3 : Int)) := fun w' hb => (hb.cell (Array.getElem?_eq_some_iff.1 hg).1).trans ((cell_of_row _ _ _ _ _ _ hg).trans (hy 3 hin (by omega)))
        have d4 : ∀ w' : World, Below wr.heap.size wr w' → w'.cell? ⟨g, i * 8 + 4, none⟩ = some (.int .i64 (x4 : Int)) := fun w' hb => (hb.cell (Array.getElem?_eq_some_iff.1 hg).1).trans ((cell_of_row _ _ _ _ _ _ hg).trans (hy 4 hin (by omega)))
        have d5 : ∀ w' : World, Below wr.heap.size wr w' → w'.cell? ⟨g, i * 8 + 5, none⟩ = some (.int .u64 (x5 : Int)) := fun w' hb => (hb.cell (Array.getElem?_eq_some_iff.1 hg).1).trans ((cell_of_row _ _ _ _ _ _ hg).trans (hy 5 hin (by omega)))
        have d6 : ∀ w' : World, Below wr.heap.size wr w' → w'.cell? ⟨g, i * 8 + 6, none⟩ = some (.int .u64 (x6 : Int)) := fun w' hb => (hb.cell (Array.getElem?_eq_some_iff.1 hg).1).trans ((cell_of_row _ _ _ _ _ _ hg).trans (hy 6 hin (by omega)))
        have d7 : ∀ w' : World, Below wr.heap.size wr w' → w'.cell? ⟨g, i * 8 + 7, none⟩ = some (.int .u64 (x7 : Int)) := fun w' hb => (hb.cell (Array.getElem?_eq_some_iff.1 hg).1).trans ((cell_of_row _ _ _ _ _ _ hg).trans (hy 7 hin (by omega)))
        have k0 : ∀ w' : World, Below wr.heap.size wr w' → w'.cell? ⟨K, 0, none⟩ = some (.int .i64 32) := fun w' hb => (hb.cell (Array.getElem?_eq_some_iff.1 hR).1).trans (cell_of_row _ _ 0 _ _ _ hR)
        have k1 : ∀ w' : World, Below wr.heap.size wr w' → w'.cell? ⟨K, 1, none⟩ = some (.int .i64 o) := fun w' hb => (hb.cell (Array.getElem?_eq_some_iff.1 hR).1).trans (cell_of_row _ _ 1 _ _ _ hR)
        have k2 : ∀ w' : World, Below wr.heap.size wr w' → w'.cell? ⟨K, 2, none⟩ = some (.int .i64 h2) := fun w' hb => (hb.cell (Array.getElem?_eq_some_iff.1 hR).1).trans (cell_of_row _ _ 2 _ _ _ hR)
        have k3 : ∀ w' : World, Below wr.heap.size wr w' → w'.cell? ⟨K, 3, none⟩ = some (.int .i64 h3) := fun w' hb => (hb.cell (Array.getElem?_eq_some_iff.1 hR).1).trans (cell_of_row _ _ 3 _ _ _ hR)
        have k4 : ∀ w' : World, Below wr.heap.size wr w' → w'.cell? ⟨K, 4, none⟩ = some (.int .u64 h4) := fun w' hb => (hb.cell (Array.getElem?_eq_some_iff.1 hR).1).trans (cell_of_row _ _ 4 _ _ _ hR)
        have k5 : ∀ w' : World, Below wr.heap.size wr w' → w'.cell? ⟨K, 5, none⟩ = some (.int .i64 h5) := fun w' hb => (hb.cell (Array.getElem?_eq_some_iff.1 hR).1).trans (cell_of_row _ _ 5 _ _ _ hR)
        have k6 : ∀ w' : World, Below wr.heap.size wr w' → w'.cell? ⟨K, 6, none⟩ = some (.int .i64 h6) := fun w' hb => (hb.cell (Array.getElem?_eq_some_iff.1 hR).1).trans (cell_of_row _ _ 6 _ _ _ hR)
        have k7 : ∀ w' : World, Below wr.heap.size wr w' → w'.cell? ⟨K, 7, none⟩ = some (.int .i64 h7) := fun w' hb => (hb.cell (Array.getElem?_eq_some_iff.1 hR).1).trans (cell_of_row _ _ 7 _ _ _ hR)
        have hbr := Below.refl wr.heap.size wr
        have hSc : ∀ w4 : World, Below wr.heap.size wr w4 → SecsIn 0 w4 (.slice (some ⟨g, 0, none⟩) n cp) n s := fun w4 hb => hS.kept hb
        clear hS hg hy hxb hsb hb ho hn'
        cases hone : oneOf b 32 o n s ⟨x0, 2, x2, x3, x4, x5, x6, x7⟩ with
        | error e =>
          have HT := Hid.mk' (tab_err (tab_at_err hl hin h2s (by rw [hsx]; exact hone)))
          have he0 : e ≠ 0 := one_ne hone
          have hen : (e != 0) = true := bne_iff_ne.2 he0
          have HO' : Hid (∀ wx : World, Below wr.heap.size wr wx → Calls Tryd.prog 19 #[.string b, .agg #[.int .i64 32, .int .i64 o, .int .i64 h2, .int .i64 h3, .int .u64 h4, .int .i64 h5, .int .i64 h6, .int .i64 h7], .slice (some ⟨g, 0, none⟩) n cp, .agg #[.int .i64 (x0 : Int), .int .i64 2, .int .u64 (x2 : Int), .int .i64 (x3 : Int), .int .i64 (x4 : Int), .int .u64 (x5 : Int), .int .u64 (x6 : Int), .int .u64 (x7 : Int)]] wx fun r w' => r = .returned (.tuple #[.slice none 0 0, .int .i64 e]) ∧ Below wr.heap.size wr w') := fun wx hbx => (HO.out wx hbx).mono fun r w' ⟨h1, h2⟩ => by
            rcases h2 with ⟨e', h3, h4⟩ | ⟨l', v', h3, _⟩
            · rw [hone] at h3
              obtain rfl := Except.error.inj h3
              exact ⟨h4, hbx.trans (h1.mono hbx.size)⟩
            · rw [hone] at h3; cases h3
          have HB := Hid.mk' (And.intro hB hlt)
          clear hone hl hsx hown hR hB hlt hlm h2s HO he0 hSc hgg
          go_wp2_with fail
          go_region_held3 (fun w' => Below wr.heap.size wr w') (first | (with_reducible assumption) | (with_reducible exact Below.drew (by with_reducible assumption))) (first
            | (go_at_call 19; refine (HO'.out _ (by first | assumption | exact hbr.drew)).mono ?_; rintro r w4 ⟨rfl, hb4⟩))
          all_goals
            go_wp2
            go_ret2
            rw [HT.out.1, HT.out.2]
            exact ⟨_, rfl, World.ownsRow_nil _ _ _ _, HB.out.1.trans (Below.mono (by first | assumption | exact Below.drew (by assumption)) (by have := HB.out.2; omega))⟩
        | ok m =>
          have HNX := Hid.mk' (tab_at_ok hl h2s (by rw [hsx]; exact hone))
          have hml := one_length hone rfl HALL.out.1
          have HO' : Hid (∀ wx : World, Below wr.heap.size wr wx → Calls Tryd.prog 19 #[.string b, .agg #[.int .i64 32, .int .i64 o, .int .i64 h2, .int .i64 h3, .int .u64 h4, .int .i64 h5, .int .i64 h6, .int .i64 h7], .slice (some ⟨g, 0, none⟩) n cp, .agg #[.int .i64 (x0 : Int), .int .i64 2, .int .u64 (x2 : Int), .int .i64 (x3 : Int), .int .i64 (x4 : Int), .int .u64 (x5 : Int), .int .u64 (x6 : Int), .int .u64 (x7 : Int)]] wx fun r w' => ∃ v, r = .returned (.tuple #[v, .int .i64 0]) ∧ w'.ownsRow (K + 1) 42 7 v m.length (symsV m) ∧ Below wr.heap.size wr w') := fun wx hbx => (HO.out wx hbx).mono fun r w' ⟨h1, h2⟩ => by
            rcases h2 with ⟨e', h3, h4⟩ | ⟨l', v', h3, h4, h5⟩
            · rw [hone] at h3; cases h3
            · rw [hone] at h3
              obtain rfl := Except.ok.inj h3
              exact ⟨v', h4, own_base h5 (Nat.le_trans hlt hbx.size), hbx.trans (h1.mono hbx.size)⟩
          have hc3 : l.length + m.length ≤ maxLen := by unfold maxLen; omega
          have hc4 : (l.length + m.length) * 64 ≤ 140737488355328 := by omega
          have HB := Hid.mk' (And.intro hB (And.intro hlt (And.intro hSc (And.intro hgg hR))))
          have HOW := Hid.mk' hown
          clear hone hl hsx hown hR hB hlt hlm h2s HO hSc hgg hml
          go_wp2_with fail
          go_region_held3 (fun w' => Below wr.heap.size wr w') (first | (with_reducible assumption) | (with_reducible exact Below.drew (by with_reducible assumption))) (first
            | (go_at_call 19; refine (HO'.out _ (by first | assumption | exact hbr.drew)).mono ?_; rintro r w4 ⟨v4, rfl, ho4, hb4⟩))
          all_goals
            have hb4' : Below wr.heap.size wr w4 := by first | assumption
            go_wp2_with (first
              | (at_builtin; refine wpList_append_rows rfl _ _ 45 rfl (K + 1) 42 i0 (.agg #[.string ⟨#[]⟩, .int .i64 0, .int .i64 0, .int .i64 0, .int .i64 0, .int .u64 0, .int .u64 0]) 7 64 Tryd.underlying45 hi hz0 hz1 hz2 rfl (by decide) _ _ _ rfl (own_below HOW.out hb4') (K + 1) v4 _ _ rfl ho4 (symsV_one _) hc3 hc4 (Nat.le_trans HB.out.2.1 hb4'.size) ?_; intro v5 w5 hown5 hgrow))
            obtain ⟨hB, hlt, hSc, hgg, hR⟩ := HB.out
            have hrow : ∀ q, u8.ownBlock = some q → K + 1 ≤ q := fun q hq => (HOW.out.lt q hq).1
            have hbR : Below (K + 1) w4 w5 := Below.grown (Below.refl _ _) hgrow (Nat.le_trans hlt hb4'.size) hrow
            have HF : Hid (w5.ownsRow (K + 1) 42 7 v5 (l ++ m).length (symsV (l ++ m)) ∧ w5.heap[K]? = some (.cells #[.int .i64 32, .int .i64 o, .int .i64 h2, .int .i64 h3, .int .u64 h4, .int .i64 h5, .int .i64 h6, .int .i64 h7] 56 (0, 0)) ∧ SecsIn 0 w5 (.slice (some ⟨g, 0, none⟩) n cp) n s ∧ Below w.heap.size w w5 ∧ K + 1 ≤ w5.heap.size) := ⟨by rw [List.length_append, symsV_append]; exact hown5, (hbR.block K (Nat.lt_succ_self K)).trans ((hb4'.block K (by omega)).trans hR), dsecs_low_32 (hSc w4 hb4') hgg hbR, (hB.trans (hb4'.mono hB.size)).trans (hbR.mono (by omega)), Nat.le_trans (Nat.le_trans hlt hb4'.size) hbR.size⟩
            clear hB hlt hSc hgg hR hrow hbR hown5 hgrow ho4
            go_wp2
            go_roundw
            case rel => exact ⟨i + 1, l ++ m, hin, by go_num, HNX.out, HF.out⟩
            case measure => clear HF HNX HALL HGK; simp [intOf]; omega
    · obtain rfl : i = n := Nat.le_antisymm hi' (Nat.not_lt.1 hin)
      have HT := Hid.mk' (tab_ok hl)
      have hiI : ¬ (i : Int) < (i : Int) := Int.lt_irrefl _
      go_wp2
      go_ret2
      rw [HT.out.1, HT.out.2]
      exact ⟨_, rfl, own_base hown (by omega), hB⟩
end Go.Proofs.YtkmehjikllilaaaDoor

-- The document's one, class 64: contracts.
namespace Go.Proofs.YtkmehjikllilaaaDoor
open Go.ChangeShapes Go.WideShapes Go.ChangeAt Go.RowKit
set_option linter.unusedVariables false
set_option maxRecDepth 100000
set_option maxHeartbeats 1000000 in
theorem one_55a_64 (b : ByteArray) (v : Value) (o h2 h3 h4 h5 h6 h7 : Int) (x0 x1 x2 x3 x4 x5 x6 x7 : Nat) (w : World) (hx : x7 ≠ 24) :
    Calls Tryd.prog 19 #[.string b, .agg #[.int .i64 64, .int .i64 o, .int .i64 h2, .int .i64 h3, .int .u64 h4, .int .i64 h5, .int .i64 h6, .int .i64 h7], v, .agg #[.int .i64 (x0 : Int), .int .i64 (x1 : Int), .int .u64 (x2 : Int), .int .i64 (x3 : Int), .int .i64 (x4 : Int), .int .u64 (x5 : Int), .int .u64 (x6 : Int), .int .u64 (x7 : Int)]] w fun r w' => r = .returned (.tuple #[.slice none 0 0, .int .i64 55]) ∧ Below w.heap.size w w' := by
  have hne : ((x7 : Int) != 24) = true := bne_iff_ne.2 (by omega)
  clear hx
  go_enter Tryd.func19, Tryd.ntmps19
  go_wp2_with (first | (go_at_call 31; refine (entrySize_64 _).mono ?_; rintro r w1 ⟨rfl, hw⟩; subst w1))
  go_ret2
  exact ⟨rfl, Below.alloc (Below.alloc (Below.refl _ _) (Nat.le_refl _) _) (by rw [size_alloc]; exact Nat.le_succ _) _⟩
set_option maxHeartbeats 1000000 in
theorem one_55b_64 (b : ByteArray) (v : Value) (o h2 h3 h4 h5 h6 h7 : Int) (x0 x1 x2 x3 x4 x5 x6 : Nat) (w : World) (hx6 : x6 < 18446744073709551616) (hx : x6 % 24 ≠ 0) :
    Calls Tryd.prog 19 #[.string b, .agg #[.int .i64 64, .int .i64 o, .int .i64 h2, .int .i64 h3, .int .u64 h4, .int .i64 h5, .int .i64 h6, .int .i64 h7], v, .agg #[.int .i64 (x0 : Int), .int .i64 (x1 : Int), .int .u64 (x2 : Int), .int .i64 (x3 : Int), .int .i64 (x4 : Int), .int .u64 (x5 : Int), .int .u64 (x6 : Int), .int .u64 24]] w fun r w' => r = .returned (.tuple #[.slice none 0 0, .int .i64 55]) ∧ Below w.heap.size w w' := by
  have h60 : (0 : Int) ≤ (x6 : Int) := Int.natCast_nonneg _
  have h61 : (x6 : Int) ≤ 18446744073709551615 := Int.ofNat_le.2 (Nat.le_of_lt_succ hx6)
  have hne : ((x6 : Int) % 24 != 0) = true := bne_iff_ne.2 (by omega)
  clear hx hx6
  go_enter Tryd.func19, Tryd.ntmps19
  go_wp2_with (first | (go_at_call 31; refine (entrySize_64 _).mono ?_; rintro r w1 ⟨rfl, hw⟩; subst w1))
  go_ret2
  exact ⟨rfl, Below.alloc (Below.alloc (Below.refl _ _) (Nat.le_refl _) _) (by rw [size_alloc]; exact Nat.le_succ _) _⟩
set_option maxHeartbeats 1000000 in
theorem one_54_64 (b : ByteArray) (v : Value) (o h2 h3 h4 h5 h6 h7 : Int) (x0 x1 x2 x3 x4 x5 x6 : Nat) (w : World) (hx6 : x6 < 18446744073709551616) (hx : x6 % 24 = 0)
    (hC : ∀ w : World, Calls Tryd.prog 32 #[.string b, .agg #[.int .i64 (x0 : Int), .int .i64 (x1 : Int), .int .u64 (x2 : Int), .int .i64 (x3 : Int), .int .i64 (x4 : Int), .int .u64 (x5 : Int), .int .u64 (x6 : Int), .int .u64 24]] w fun r w' => r = .returned (.tuple #[.string .empty, .int .i64 54]) ∧ Below w.heap.size w w') :
    Calls Tryd.prog 19 #[.string b, .agg #[.int .i64 64, .int .i64 o, .int .i64 h2, .int .i64 h3, .int .u64 h4, .int .i64 h5, .int .i64 h6, .int .i64 h7], v, .agg #[.int .i64 (x0 : Int), .int .i64 (x1 : Int), .int .u64 (x2 : Int), .int .i64 (x3 : Int), .int .i64 (x4 : Int), .int .u64 (x5 : Int), .int .u64 (x6 : Int), .int .u64 24]] w fun r w' => r = .returned (.tuple #[.slice none 0 0, .int .i64 54]) ∧ Below w.heap.size w w' := by
  have HC := Hid.mk' hC
  clear hC
  have h60 : (0 : Int) ≤ (x6 : Int) := Int.natCast_nonneg _
  have h61 : (x6 : Int) ≤ 18446744073709551615 := Int.ofNat_le.2 (Nat.le_of_lt_succ hx6)
  have hne : ((x6 : Int) % 24 != 0) = false := bne_eq_false_iff_eq.2 (by omega)
  clear hx hx6
  go_enter Tryd.func19, Tryd.ntmps19
  go_wp2_with (first
    | (go_at_call 31; refine (entrySize_64 _).mono ?_; rintro r w9 ⟨rfl, hw9⟩; subst w9)
    | (refine wpList_load_row rfl _ _ rfl (w.heap.size + 1) rfl _ _ _ _ (heap_alloc2_new w _ _) Tryd.underlying60 rfl (by kernel_rfl) ?_)
    | (go_at_call 32; refine (HC.out _).mono ?_; rintro r w1 ⟨rfl, hb1⟩))
  go_ret2
  exact ⟨rfl, (Below.alloc (Below.alloc (Below.refl _ _) (Nat.le_refl _) _) (by rw [size_alloc]; exact Nat.le_succ _) _).trans (hb1.mono (by rw [size_alloc, size_alloc]; omega))⟩
set_option maxHeartbeats 1000000 in
theorem one_str_64 (b t : ByteArray) (e : Int) (v : Value) (o h2 h3 h4 h5 h6 h7 : Int) (x0 x1 x2 x3 x4 x5 x6 : Nat) (w : World) (hx6 : x6 < 18446744073709551616) (hx : x6 % 24 = 0) (he : e ≠ 0)
    (hC : ∀ w : World, Calls Tryd.prog 32 #[.string b, .agg #[.int .i64 (x0 : Int), .int .i64 (x1 : Int), .int .u64 (x2 : Int), .int .i64 (x3 : Int), .int .i64 (x4 : Int), .int .u64 (x5 : Int), .int .u64 (x6 : Int), .int .u64 24]] w fun r w' => r = .returned (.tuple #[.string t, .int .i64 0]) ∧ Below w.heap.size w w')
    (hS : ∀ wx : World, Below w.heap.size w wx → Calls Tryd.prog 33 #[.string b, v, .agg #[.int .i64 (x0 : Int), .int .i64 (x1 : Int), .int .u64 (x2 : Int), .int .i64 (x3 : Int), .int .i64 (x4 : Int), .int .u64 (x5 : Int), .int .u64 (x6 : Int), .int .u64 24]] wx fun r w' => r = .returned (.tuple #[.string .empty, .int .i64 e]) ∧ Below wx.heap.size wx w') :
    Calls Tryd.prog 19 #[.string b, .agg #[.int .i64 64, .int .i64 o, .int .i64 h2, .int .i64 h3, .int .u64 h4, .int .i64 h5, .int .i64 h6, .int .i64 h7], v, .agg #[.int .i64 (x0 : Int), .int .i64 (x1 : Int), .int .u64 (x2 : Int), .int .i64 (x3 : Int), .int .i64 (x4 : Int), .int .u64 (x5 : Int), .int .u64 (x6 : Int), .int .u64 24]] w fun r w' => r = .returned (.tuple #[.slice none 0 0, .int .i64 e]) ∧ Below w.heap.size w w' := by
  have HC := Hid.mk' hC
  have HS := Hid.mk' hS
  have hen : (e != 0) = true := bne_iff_ne.2 he
  clear hC hS he
  have hB0 : Below w.heap.size w ((w.alloc (.cells #[.int .i64 64, .int .i64 o, .int .i64 h2, .int .i64 h3, .int .u64 h4, .int .i64 h5, .int .i64 h6, .int .i64 h7] 56)).alloc (.cells #[.int .i64 (x0 : Int), .int .i64 (x1 : Int), .int .u64 (x2 : Int), .int .i64 (x3 : Int), .int .i64 (x4 : Int), .int .u64 (x5 : Int), .int .u64 (x6 : Int), .int .u64 24] 60)) := Below.alloc (Below.alloc (Below.refl _ _) (Nat.le_refl _) _) (by rw [size_alloc]; exact Nat.le_succ _) _
  have hbx : ((w.alloc (.cells #[.int .i64 64, .int .i64 o, .int .i64 h2, .int .i64 h3, .int .u64 h4, .int .i64 h5, .int .i64 h6, .int .i64 h7] 56)).alloc (.cells #[.int .i64 (x0 : Int), .int .i64 (x1 : Int), .int .u64 (x2 : Int), .int .i64 (x3 : Int), .int .i64 (x4 : Int), .int .u64 (x5 : Int), .int .u64 (x6 : Int), .int .u64 24] 60)).heap[w.heap.size + 1]? = some (.cells #[.int .i64 (x0 : Int), .int .i64 (x1 : Int), .int .u64 (x2 : Int), .int .i64 (x3 : Int), .int .i64 (x4 : Int), .int .u64 (x5 : Int), .int .u64 (x6 : Int), .int .u64 24] 60 (0, 0)) := heap_alloc2_new w _ _
  have hbh : ((w.alloc (.cells #[.int .i64 64, .int .i64 o, .int .i64 h2, .int .i64 h3, .int .u64 h4, .int .i64 h5, .int .i64 h6, .int .i64 h7] 56)).alloc (.cells #[.int .i64 (x0 : Int), .int .i64 (x1 : Int), .int .u64 (x2 : Int), .int .i64 (x3 : Int), .int .i64 (x4 : Int), .int .u64 (x5 : Int), .int .u64 (x6 : Int), .int .u64 24] 60)).heap[w.heap.size]? = some (.cells #[.int .i64 64, .int .i64 o, .int .i64 h2, .int .i64 h3, .int .u64 h4, .int .i64 h5, .int .i64 h6, .int .i64 h7] 56 (0, 0)) := heap_alloc2_old w _ _
  have hzz : ((w.alloc (.cells #[.int .i64 64, .int .i64 o, .int .i64 h2, .int .i64 h3, .int .u64 h4, .int .i64 h5, .int .i64 h6, .int .i64 h7] 56)).alloc (.cells #[.int .i64 (x0 : Int), .int .i64 (x1 : Int), .int .u64 (x2 : Int), .int .i64 (x3 : Int), .int .i64 (x4 : Int), .int .u64 (x5 : Int), .int .u64 (x6 : Int), .int .u64 24] 60)).heap.size = w.heap.size + 2 := by rw [size_alloc, size_alloc]
  have HKK := Hid.mk' (And.intro hB0 (And.intro hbh hzz))
  clear hB0 hbh hzz
  have h60 : (0 : Int) ≤ (x6 : Int) := Int.natCast_nonneg _
  have h61 : (x6 : Int) ≤ 18446744073709551615 := Int.ofNat_le.2 (Nat.le_of_lt_succ hx6)
  have hne : ((x6 : Int) % 24 != 0) = false := bne_eq_false_iff_eq.2 (by omega)
  clear hx hx6
  go_enter Tryd.func19, Tryd.ntmps19
  go_wp2_with (first
    | (go_at_call 31; refine (entrySize_64 _).mono ?_; rintro r w9 ⟨rfl, hw9⟩; subst w9)
    | (refine wpList_load_row rfl _ _ rfl (w.heap.size + 1) rfl _ _ _ _ hbx Tryd.underlying60 rfl (by kernel_rfl) ?_))
  go_at_call 32
  refine (HC.out _).mono ?_
  rintro r w1 ⟨rfl, hb1⟩
  obtain ⟨hB0, hbh, hzz⟩ := HKK.out
  clear HKK
  have hB1 : Below w.heap.size w w1 := hB0.trans (hb1.mono (by rw [hzz]; omega))
  have hbx1 : w1.heap[w.heap.size + 1]? = some (.cells #[.int .i64 (x0 : Int), .int .i64 (x1 : Int), .int .u64 (x2 : Int), .int .i64 (x3 : Int), .int .i64 (x4 : Int), .int .u64 (x5 : Int), .int .u64 (x6 : Int), .int .u64 24] 60 (0, 0)) := (hb1.block _ (by rw [hzz]; omega)).trans hbx
  have hbh1 : w1.heap[w.heap.size]? = some (.cells #[.int .i64 64, .int .i64 o, .int .i64 h2, .int .i64 h3, .int .u64 h4, .int .i64 h5, .int .i64 h6, .int .i64 h7] 56 (0, 0)) := (hb1.block _ (by rw [hzz]; omega)).trans hbh
  have hz1 : w.heap.size + 2 ≤ w1.heap.size := by have := hb1.size; rw [hzz] at this; exact this
  have HK1 := Hid.mk' (And.intro hB1 (And.intro hbh1 hz1))
  have HB1 := Hid.mk' hB1
  clear hB0 hbh hzz hbx hb1 hbh1 hz1 hB1 HC hne h60 h61
  go_wp2_with (first
    | (refine wpList_load_row rfl _ _ rfl (w.heap.size + 1) rfl _ _ _ _ hbx1 Tryd.underlying60 rfl (by kernel_rfl) ?_)
    | (go_at_call 33; refine (HS.out _ HB1.out).mono ?_; rintro r w2 ⟨rfl, hb2⟩))
  go_ret2
  exact ⟨rfl, HB1.out.trans (hb2.mono HB1.out.size)⟩
/-- what one answers -/
def OneD64 (o : Int) (t names : ByteArray) (w : World) (r : Ending) (w' : World) : Prop :=
  Below w.heap.size w w' ∧ ((∃ l v, symsOf 64 o t names (t.size / 24) = some l ∧ r = .returned (.tuple #[v, .int .i64 0]) ∧ w'.ownsRow w.heap.size 42 7 v l.length (symsV l)) ∨
    (symsOf 64 o t names (t.size / 24) = none ∧ r = .returned (.tuple #[.slice none 0 0, .int .i64 56])))
set_option maxHeartbeats 4000000 in
theorem one_go_64 (b t names : ByteArray) (n : Nat) (v : Value) (o h2 h3 h4 h5 h6 h7 : Int) (x0 x1 x2 x3 x4 x5 x6 : Nat) (w : World) (hx6 : x6 < 18446744073709551616) (hx : x6 % 24 = 0) (ht : t.size ≤ 1048576) (hnm : names.size ≤ 1048576) (ho : o = 0 ∨ o = 1) (hn : t.size = n * 24)
    (hC : ∀ w : World, Calls Tryd.prog 32 #[.string b, .agg #[.int .i64 (x0 : Int), .int .i64 (x1 : Int), .int .u64 (x2 : Int), .int .i64 (x3 : Int), .int .i64 (x4 : Int), .int .u64 (x5 : Int), .int .u64 (x6 : Int), .int .u64 24]] w fun r w' => r = .returned (.tuple #[.string t, .int .i64 0]) ∧ Below w.heap.size w w')
    (hS : ∀ wx : World, Below w.heap.size w wx → Calls Tryd.prog 33 #[.string b, v, .agg #[.int .i64 (x0 : Int), .int .i64 (x1 : Int), .int .u64 (x2 : Int), .int .i64 (x3 : Int), .int .i64 (x4 : Int), .int .u64 (x5 : Int), .int .u64 (x6 : Int), .int .u64 24]] wx fun r w' => r = .returned (.tuple #[.string names, .int .i64 0]) ∧ Below wx.heap.size wx w') :
    Calls Tryd.prog 19 #[.string b, .agg #[.int .i64 64, .int .i64 o, .int .i64 h2, .int .i64 h3, .int .u64 h4, .int .i64 h5, .int .i64 h6, .int .i64 h7], v, .agg #[.int .i64 (x0 : Int), .int .i64 (x1 : Int), .int .u64 (x2 : Int), .int .i64 (x3 : Int), .int .i64 (x4 : Int), .int .u64 (x5 : Int), .int .u64 (x6 : Int), .int .u64 24]] w (OneD64 o t names w) := by
  have HC := Hid.mk' hC
  have HS := Hid.mk' hS
  have hdiv : t.size / 24 = n := by omega
  have hnN : n ≤ 65536 := by omega
  have hpp : ∀ j : Nat, j < n → j * 24 + 24 ≤ t.size := fun j hj => by omega
  have htm : t.size ≤ maxLen := by unfold maxLen; omega
  have hnmm : names.size ≤ maxLen := by unfold maxLen; omega
  have HE : Hid (∀ (j : Nat) (wx : World), j < n → ∃ xb xt xo xs xv xz : Nat, (∀ nm, symAt 64 o t (j * 24) nm = ⟨nm, xb, xt, xo, xs, xv, xz⟩) ∧ Calls Tryd.prog 35 #[.string t, .int .i64 ((j * 24 : Nat) : Int), .int .i64 o] wx fun r w' => r = .returned (.agg #[.int .i64 ((num t (j * 24) 4 o : Nat) : Int), .string ⟨#[]⟩, .int .i64 (xb : Int), .int .i64 (xt : Int), .int .i64 (xo : Int), .int .i64 (xs : Int), .int .u64 (xv : Int), .int .u64 (xz : Int)]) ∧ Below wx.heap.size wx w') := fun j wx hj => ⟨_, _, _, _, _, _, fun nm => by unfold symAt; exact if_neg (by decide), dEntry_64 t (j * 24) o wx (hpp j hj) htm ho⟩
  have HD := Hid.mk' (And.intro hdiv (And.intro hn (And.intro hnN hnmm)))
  obtain ⟨i0, hi, hz0, hz1, hz2⟩ := info_parts' infoSym
  clear hC hS hdiv hpp htm hnmm ho hnm ht hn hnN
  have hB0 : Below w.heap.size w ((w.alloc (.cells #[.int .i64 64, .int .i64 o, .int .i64 h2, .int .i64 h3, .int .u64 h4, .int .i64 h5, .int .i64 h6, .int .i64 h7] 56)).alloc (.cells #[.int .i64 (x0 : Int), .int .i64 (x1 : Int), .int .u64 (x2 : Int), .int .i64 (x3 : Int), .int .i64 (x4 : Int), .int .u64 (x5 : Int), .int .u64 (x6 : Int), .int .u64 24] 60)) := Below.alloc (Below.alloc (Below.refl _ _) (Nat.le_refl _) _) (by rw [size_alloc]; exact Nat.le_succ _) _
  have hbx : ((w.alloc (.cells #[.int .i64 64, .int .i64 o, .int .i64 h2, .int .i64 h3, .int .u64 h4, .int .i64 h5, .int .i64 h6, .int .i64 h7] 56)).alloc (.cells #[.int .i64 (x0 : Int), .int .i64 (x1 : Int), .int .u64 (x2 : Int), .int .i64 (x3 : Int), .int .i64 (x4 : Int), .int .u64 (x5 : Int), .int .u64 (x6 : Int), .int .u64 24] 60)).heap[w.heap.size + 1]? = some (.cells #[.int .i64 (x0 : Int), .int .i64 (x1 : Int), .int .u64 (x2 : Int), .int .i64 (x3 : Int), .int .i64 (x4 : Int), .int .u64 (x5 : Int), .int .u64 (x6 : Int), .int .u64 24] 60 (0, 0)) := heap_alloc2_new w _ _
  have hbh : ((w.alloc (.cells #[.int .i64 64, .int .i64 o, .int .i64 h2, .int .i64 h3, .int .u64 h4, .int .i64 h5, .int .i64 h6, .int .i64 h7] 56)).alloc (.cells #[.int .i64 (x0 : Int), .int .i64 (x1 : Int), .int .u64 (x2 : Int), .int .i64 (x3 : Int), .int .i64 (x4 : Int), .int .u64 (x5 : Int), .int .u64 (x6 : Int), .int .u64 24] 60)).heap[w.heap.size]? = some (.cells #[.int .i64 64, .int .i64 o, .int .i64 h2, .int .i64 h3, .int .u64 h4, .int .i64 h5, .int .i64 h6, .int .i64 h7] 56 (0, 0)) := heap_alloc2_old w _ _
  have hzz : ((w.alloc (.cells #[.int .i64 64, .int .i64 o, .int .i64 h2, .int .i64 h3, .int .u64 h4, .int .i64 h5, .int .i64 h6, .int .i64 h7] 56)).alloc (.cells #[.int .i64 (x0 : Int), .int .i64 (x1 : Int), .int .u64 (x2 : Int), .int .i64 (x3 : Int), .int .i64 (x4 : Int), .int .u64 (x5 : Int), .int .u64 (x6 : Int), .int .u64 24] 60)).heap.size = w.heap.size + 2 := by rw [size_alloc, size_alloc]
  have HKK := Hid.mk' (And.intro hB0 (And.intro hbh hzz))
  clear hB0 hbh hzz
  have h60 : (0 : Int) ≤ (x6 : Int) := Int.natCast_nonneg _
  have h61 : (x6 : Int) ≤ 18446744073709551615 := Int.ofNat_le.2 (Nat.le_of_lt_succ hx6)
  have hne : ((x6 : Int) % 24 != 0) = false := bne_eq_false_iff_eq.2 (by omega)
  clear hx hx6
  go_enter Tryd.func19, Tryd.ntmps19
  go_wp2_with (first
    | (go_at_call 31; refine (entrySize_64 _).mono ?_; rintro r w9 ⟨rfl, hw9⟩; subst w9)
    | (refine wpList_load_row rfl _ _ rfl (w.heap.size + 1) rfl _ _ _ _ hbx Tryd.underlying60 rfl (by kernel_rfl) ?_))
  go_at_call 32
  refine (HC.out _).mono ?_
  rintro r w1 ⟨rfl, hb1⟩
  obtain ⟨hB0, hbh, hzz⟩ := HKK.out
  clear HKK
  have hB1 : Below w.heap.size w w1 := hB0.trans (hb1.mono (by rw [hzz]; omega))
  have hbx1 : w1.heap[w.heap.size + 1]? = some (.cells #[.int .i64 (x0 : Int), .int .i64 (x1 : Int), .int .u64 (x2 : Int), .int .i64 (x3 : Int), .int .i64 (x4 : Int), .int .u64 (x5 : Int), .int .u64 (x6 : Int), .int .u64 24] 60 (0, 0)) := (hb1.block _ (by rw [hzz]; omega)).trans hbx
  have hbh1 : w1.heap[w.heap.size]? = some (.cells #[.int .i64 64, .int .i64 o, .int .i64 h2, .int .i64 h3, .int .u64 h4, .int .i64 h5, .int .i64 h6, .int .i64 h7] 56 (0, 0)) := (hb1.block _ (by rw [hzz]; omega)).trans hbh
  have hz1 : w.heap.size + 2 ≤ w1.heap.size := by have := hb1.size; rw [hzz] at this; exact this
  have HK1 := Hid.mk' (And.intro hB1 (And.intro hbh1 hz1))
  have HB1 := Hid.mk' hB1
  clear hB0 hbh hzz hbx hb1 hbh1 hz1 hB1 HC hne h60 h61
  go_wp2_with (first
    | (refine wpList_load_row rfl _ _ rfl (w.heap.size + 1) rfl _ _ _ _ hbx1 Tryd.underlying60 rfl (by kernel_rfl) ?_)
    | (go_at_call 33; refine (HS.out _ HB1.out).mono ?_; rintro r w2 ⟨rfl, hb2⟩))
  obtain ⟨hB1, hbh1, hz1'⟩ := HK1.out
  have hB2 : Below w.heap.size w w2 := hB1.trans (hb2.mono hB1.size)
  have hbh2 : w2.heap[w.heap.size]? = some (.cells #[.int .i64 64, .int .i64 o, .int .i64 h2, .int .i64 h3, .int .u64 h4, .int .i64 h5, .int .i64 h6, .int .i64 h7] 56 (0, 0)) := (hb2.block _ (by omega)).trans hbh1
  have hz2' : w.heap.size + 2 ≤ w2.heap.size := Nat.le_trans hz1' hb2.size
  clear hB1 hbh1 hz1' hb2 hbx1 HK1 HB1 HS
  go_loopw [15, 16] (fun u a wx => ∃ (j : Nat) (l : List Sym), j ≤ n ∧ a = .int .i64 ((j * 24 : Nat) : Int) ∧ symsOf 64 o t names j = some l ∧ wx.ownsRow (w.heap.size + 2) 42 7 u j (symsV l) ∧ wx.heap[w.heap.size]? = some (.cells #[.int .i64 64, .int .i64 o, .int .i64 h2, .int .i64 h3, .int .u64 h4, .int .i64 h5, .int .i64 h6, .int .i64 h7] 56 (0, 0)) ∧ Below w.heap.size w wx ∧ w.heap.size + 2 ≤ wx.heap.size) (fun _ a _ => n * 24 - (intOf a).toNat)
  case atStart => exact ⟨0, [], Nat.zero_le _, by simp, rfl, World.ownsRow_nil _ _ _ _, hbh2, hB2, hz2'⟩
  case round =>
    clear hB2 hbh2 hz2'
    obtain ⟨j, l, hj, rfl, hl, hown, hRh, hB, hlt⟩ := hrel
    have hll := symsOf_length _ _ _ _ _ _ hl
    have hn := HD.out.2.1
    by_cases hjn : j < n
    · have hjI : ((j * 24 : Nat) : Int) < ((t.size : Nat) : Int) := by omega
      have hjN : j * 24 < t.size := by omega
      have hnN := HD.out.2.2.1
      have hc3 : j + 1 ≤ maxLen := by unfold maxLen; omega
      have hc4 : (j + 1) * 64 ≤ 140737488355328 := by omega
      have hwa : IntKind.i64.wrap (((j * 24 : Nat) : Int) + 24) = ((j * 24 : Nat) : Int) + 24 := by rw [IntKind.wrap_i64]; omega
      have hxa : wrap64 (((j * 24 : Nat) : Int) + 24) = ((j * 24 : Nat) : Int) + 24 := by clear hwa; unfold wrap64; omega
      obtain ⟨xb, xt, xo, xs, xv, xz, hsa, hE⟩ := HE.out j (wr.alloc (.cells #[.int .i64 0, .string ⟨#[]⟩, .int .i64 0, .int .i64 0, .int .i64 0, .int .i64 0, .int .u64 0, .int .u64 0] 87)) hjn
      have hl' : ∀ nm, nameOf names (num t (j * 24) 4 o) = some nm → symsOf 64 o t names (j + 1) = some (l ++ [⟨nm, xb, xt, xo, xs, xv, xz⟩]) := fun nm hN => by
        have hsy : symLen 64 = 24 := rfl
        rw [symsOf, hl, hsy, hN]
        simp only [Option.bind_some, Option.map_some, hsa]
      have hln : nameOf names (num t (j * 24) 4 o) = none → symsOf 64 o t names (t.size / 24) = none := fun hN => by
        have h1 : symsOf 64 o t names (j + 1) = none := by
          have hsy : symLen 64 = 24 := rfl
          rw [symsOf, hl, hsy, hN]; rfl
        rw [HD.out.1, show n = j + 1 + (n - (j + 1)) by omega]
        exact symsOf_none h1 _
      have hpl := num_lt4 t (j * 24) o
      clear hn hnN hsa
      generalize num t (j * 24) 4 o = pl at hE hl' hln hpl
      generalize hP : j * 24 = P at hjI hwa hxa hjN hE
      have HP := Hid.mk' hP
      have HE' := Hid.mk' hE
      clear hP hE hl hll
      have r0 : (wr.alloc (.cells #[.int .i64 0, .string ⟨#[]⟩, .int .i64 0, .int .i64 0, .int .i64 0, .int .i64 0, .int .u64 0, .int .u64 0] 87)).cell? ⟨w.heap.size, 0, none⟩ = some (.int .i64 64) := (World.cell?_alloc_past _ _ _ (show w.heap.size < wr.heap.size by omega)).trans (cell_of_row _ _ 0 _ _ _ hRh)
      have r1 : (wr.alloc (.cells #[.int .i64 0, .string ⟨#[]⟩, .int .i64 0, .int .i64 0, .int .i64 0, .int .i64 0, .int .u64 0, .int .u64 0] 87)).cell? ⟨w.heap.size, 1, none⟩ = some (.int .i64 o) := (World.cell?_alloc_past _ _ _ (show w.heap.size < wr.heap.size by omega)).trans (cell_of_row _ _ 1 _ _ _ hRh)
      have hwq : w.heap.size ≠ wr.heap.size := by omega
      have hb3 : ∀ w2 : World, Below (wr.alloc (.cells #[.int .i64 0, .string ⟨#[]⟩, .int .i64 0, .int .i64 0, .int .i64 0, .int .i64 0, .int .u64 0, .int .u64 0] 87)).heap.size (wr.alloc (.cells #[.int .i64 0, .string ⟨#[]⟩, .int .i64 0, .int .i64 0, .int .i64 0, .int .i64 0, .int .u64 0, .int .u64 0] 87)) w2 → w2.heap[wr.heap.size]? = some (.cells #[.int .i64 0, .string ⟨#[]⟩, .int .i64 0, .int .i64 0, .int .i64 0, .int .i64 0, .int .u64 0, .int .u64 0] 87 (0, 0)) ∧ Below wr.heap.size wr (w2.setRow wr.heap.size #[.int .i64 (pl : Int), .string ⟨#[]⟩, .int .i64 (xb : Int), .int .i64 (xt : Int), .int .i64 (xo : Int), .int .i64 (xs : Int), .int .u64 (xv : Int), .int .u64 (xz : Int)]) := fun w2 hb2 => ⟨(hb2.block _ (by rw [size_alloc]; exact Nat.lt_succ_self _)).trans (heap_alloc_new wr _), below_setRow ((Below.alloc (Below.refl _ _) (Nat.le_refl _) _).trans (hb2.mono (by rw [size_alloc]; exact Nat.le_succ _))) (Nat.le_refl _) _⟩
      cases hN : nameOf names pl with
      | none =>
        have HNO := Hid.mk' (hln hN)
        have hp0 : pl ≠ 0 := fun h => by rw [h] at hN; unfold nameOf at hN; rw [if_pos rfl] at hN; cases hN
        have hpn : ((pl : Int) != 0) = true := bne_iff_ne.2 (by clear hwa hxa; omega)
        have HST : Hid (∀ w : World, Calls Tryd.prog 36 #[.string names, .int .i64 (pl : Int)] w fun r w' => r = .returned (.tuple #[.string .empty, .int .i64 56]) ∧ w' = w) := fun w => by
          unfold nameOf at hN
          rw [if_neg hp0] at hN
          rcases str_or names pl with ⟨k, hk⟩ | hk
          · rw [strAt_some hk] at hN; cases hN
          · exact rStr_none names pl w hk (by clear hwa hxa; omega) HD.out.2.2.2
        clear hl' hln hpl hN hp0
        go_wp2_with fail
        go_at_call 35
        refine (HE'.out).mono ?_
        rintro r w2 ⟨rfl, hb2⟩
        obtain ⟨hq2, hbw⟩ := hb3 w2 hb2
        have hrow3 : (w2.setRow wr.heap.size #[.int .i64 (pl : Int), .string ⟨#[]⟩, .int .i64 (xb : Int), .int .i64 (xt : Int), .int .i64 (xo : Int), .int .i64 (xs : Int), .int .u64 (xv : Int), .int .u64 (xz : Int)]).heap[wr.heap.size]? = some (.cells #[.int .i64 (pl : Int), .string ⟨#[]⟩, .int .i64 (xb : Int), .int .i64 (xt : Int), .int .i64 (xo : Int), .int .i64 (xs : Int), .int .u64 (xv : Int), .int .u64 (xz : Int)] 87 (0, 0)) := setRow_heap _ _ _ _ _ _ hq2
        have e0 : (w2.setRow wr.heap.size #[.int .i64 (pl : Int), .string ⟨#[]⟩, .int .i64 (xb : Int), .int .i64 (xt : Int), .int .i64 (xo : Int), .int .i64 (xs : Int), .int .u64 (xv : Int), .int .u64 (xz : Int)]).cell? ⟨wr.heap.size, 0, none⟩ = some (.int .i64 (pl : Int)) := (cell_of_row _ _ 0 _ _ _ hrow3).trans rfl
        have HBW := Hid.mk' hbw
        clear hb2 hrow3 hb3 hbw
        go_wp2_with (first
          | (refine wpList_store_row rfl _ _ _ rfl wr.heap.size #[.int .i64 (pl : Int), .string ⟨#[]⟩, .int .i64 (xb : Int), .int .i64 (xt : Int), .int .i64 (xo : Int), .int .i64 (xs : Int), .int .u64 (xv : Int), .int .u64 (xz : Int)] rfl rfl _ _ hq2 rfl (by kernel_rfl) (by kernel_rfl) ?_)
          | (go_at_call 36; refine (HST.out _).mono ?_; rintro r w6 ⟨rfl, hw6⟩; subst w6))
        go_ret2
        exact ⟨hB.trans (HBW.out.mono (by omega)), Or.inr ⟨HNO.out, rfl⟩⟩
      | some nm =>
        have HL' := Hid.mk' (hl' nm hN)
        by_cases hp0 : pl = 0
        · have hpn : ((pl : Int) != 0) = false := bne_eq_false_iff_eq.2 (by clear hwa hxa; omega)
          obtain rfl : nm = .empty := by rw [hp0] at hN; unfold nameOf at hN; rw [if_pos rfl] at hN; exact (Option.some.inj hN).symm
          clear hl' hln hpl hN hp0
          go_wp2_with fail
          go_at_call 35
          refine (HE'.out).mono ?_
          rintro r w2 ⟨rfl, hb2⟩
          obtain ⟨hq2, hbw⟩ := hb3 w2 hb2
          have hrow3 : (w2.setRow wr.heap.size #[.int .i64 (pl : Int), .string ⟨#[]⟩, .int .i64 (xb : Int), .int .i64 (xt : Int), .int .i64 (xo : Int), .int .i64 (xs : Int), .int .u64 (xv : Int), .int .u64 (xz : Int)]).heap[wr.heap.size]? = some (.cells #[.int .i64 (pl : Int), .string ⟨#[]⟩, .int .i64 (xb : Int), .int .i64 (xt : Int), .int .i64 (xo : Int), .int .i64 (xs : Int), .int .u64 (xv : Int), .int .u64 (xz : Int)] 87 (0, 0)) := setRow_heap _ _ _ _ _ _ hq2
          have e0 : (w2.setRow wr.heap.size #[.int .i64 (pl : Int), .string ⟨#[]⟩, .int .i64 (xb : Int), .int .i64 (xt : Int), .int .i64 (xo : Int), .int .i64 (xs : Int), .int .u64 (xv : Int), .int .u64 (xz : Int)]).cell? ⟨wr.heap.size, 0, none⟩ = some (.int .i64 (pl : Int)) := (cell_of_row _ _ 0 _ _ _ hrow3).trans rfl
          have e1 : (w2.setRow wr.heap.size #[.int .i64 (pl : Int), .string ⟨#[]⟩, .int .i64 (xb : Int), .int .i64 (xt : Int), .int .i64 (xo : Int), .int .i64 (xs : Int), .int .u64 (xv : Int), .int .u64 (xz : Int)]).cell? ⟨wr.heap.size, 1, none⟩ = some (.string ⟨#[]⟩) := (cell_of_row _ _ 1 _ _ _ hrow3).trans rfl
          have e2 : (w2.setRow wr.heap.size #[.int .i64 (pl : Int), .string ⟨#[]⟩, .int .i64 (xb : Int), .int .i64 (xt : Int), .int .i64 (xo : Int), .int .i64 (xs : Int), .int .u64 (xv : Int), .int .u64 (xz : Int)]).cell? ⟨wr.heap.size, 2, none⟩ = some (.int .i64 (xb : Int)) := (cell_of_row _ _ 2 _ _ _ hrow3).trans rfl
          have e3 : (w2.setRow wr.heap.size #[.int .i64 (pl : Int), .string ⟨#[]⟩, .int .i64 (xb : Int), .int .i64 (xt : Int), .int .i64 (xo : Int), .int .i64 (xs : Int), .int .u64 (xv : Int), .int .u64 (xz : Int)]).cell? ⟨wr.heap.size, 3, none⟩ = some (.int .i64 (xt : Int)) := (cell_of_row _ _ 3 _ _ _ hrow3).trans rfl
          have e4 : (w2.setRow wr.heap.size #[.int .i64 (pl : Int), .string ⟨#[]⟩, .int .i64 (xb : Int), .int .i64 (xt : Int), .int .i64 (xo : Int), .int .i64 (xs : Int), .int .u64 (xv : Int), .int .u64 (xz : Int)]).cell? ⟨wr.heap.size, 4, none⟩ = some (.int .i64 (xo : Int)) := (cell_of_row _ _ 4 _ _ _ hrow3).trans rfl
          have e5 : (w2.setRow wr.heap.size #[.int .i64 (pl : Int), .string ⟨#[]⟩, .int .i64 (xb : Int), .int .i64 (xt : Int), .int .i64 (xo : Int), .int .i64 (xs : Int), .int .u64 (xv : Int), .int .u64 (xz : Int)]).cell? ⟨wr.heap.size, 5, none⟩ = some (.int .i64 (xs : Int)) := (cell_of_row _ _ 5 _ _ _ hrow3).trans rfl
          have e6 : (w2.setRow wr.heap.size #[.int .i64 (pl : Int), .string ⟨#[]⟩, .int .i64 (xb : Int), .int .i64 (xt : Int), .int .i64 (xo : Int), .int .i64 (xs : Int), .int .u64 (xv : Int), .int .u64 (xz : Int)]).cell? ⟨wr.heap.size, 6, none⟩ = some (.int .u64 (xv : Int)) := (cell_of_row _ _ 6 _ _ _ hrow3).trans rfl
          have e7 : (w2.setRow wr.heap.size #[.int .i64 (pl : Int), .string ⟨#[]⟩, .int .i64 (xb : Int), .int .i64 (xt : Int), .int .i64 (xo : Int), .int .i64 (xs : Int), .int .u64 (xv : Int), .int .u64 (xz : Int)]).cell? ⟨wr.heap.size, 7, none⟩ = some (.int .u64 (xz : Int)) := (cell_of_row _ _ 7 _ _ _ hrow3).trans rfl
          have hOW := own_below hown hbw
          have HWW := Hid.mk' (And.intro hbw (Nat.le_trans hlt hbw.size))
          clear hb2 hrow3 hb3 hbw
          have HNR : Hid (((w2.setRow wr.heap.size #[.int .i64 (pl : Int), .string ⟨#[]⟩, .int .i64 (xb : Int), .int .i64 (xt : Int), .int .i64 (xo : Int), .int .i64 (xs : Int), .int .u64 (xv : Int), .int .u64 (xz : Int)]).alloc (.cells #[.string ⟨#[]⟩, .int .i64 (xb : Int), .int .i64 (xt : Int), .int .i64 (xo : Int), .int .i64 (xs : Int), .int .u64 (xv : Int), .int .u64 (xz : Int)] 42)).heap[w2.heap.size]? = some (.cells #[.string ⟨#[]⟩, .int .i64 (xb : Int), .int .i64 (xt : Int), .int .i64 (xo : Int), .int .i64 (xs : Int), .int .u64 (xv : Int), .int .u64 (xz : Int)] 42 (0, 0))) := by
            have hsz : (w2.setRow wr.heap.size #[.int .i64 (pl : Int), .string ⟨#[]⟩, .int .i64 (xb : Int), .int .i64 (xt : Int), .int .i64 (xo : Int), .int .i64 (xs : Int), .int .u64 (xv : Int), .int .u64 (xz : Int)]).heap.size = w2.heap.size := by simp
            have h := heap_alloc_new (w2.setRow wr.heap.size #[.int .i64 (pl : Int), .string ⟨#[]⟩, .int .i64 (xb : Int), .int .i64 (xt : Int), .int .i64 (xo : Int), .int .i64 (xs : Int), .int .u64 (xv : Int), .int .u64 (xz : Int)]) (.cells #[.string ⟨#[]⟩, .int .i64 (xb : Int), .int .i64 (xt : Int), .int .i64 (xo : Int), .int .i64 (xs : Int), .int .u64 (xv : Int), .int .u64 (xz : Int)] 42)
            rw [hsz] at h
            exact h
          go_wp2_with (first
            | (refine wpList_store_row rfl _ _ _ rfl wr.heap.size #[.int .i64 (pl : Int), .string ⟨#[]⟩, .int .i64 (xb : Int), .int .i64 (xt : Int), .int .i64 (xo : Int), .int .i64 (xs : Int), .int .u64 (xv : Int), .int .u64 (xz : Int)] rfl rfl _ _ hq2 rfl (by kernel_rfl) (by kernel_rfl) ?_)
            | (at_builtin; refine wpList_append_own _ rfl _ _ 45 rfl (w.heap.size + 2) 42 i0 (.agg #[.string ⟨#[]⟩, .int .i64 0, .int .i64 0, .int .i64 0, .int .i64 0, .int .u64 0, .int .u64 0]) 7 64 Tryd.underlying45 hi hz0 hz1 hz2 rfl (by decide) _ _ _ rfl (hOW.alloc (.cells #[.string ⟨#[]⟩, .int .i64 (xb : Int), .int .i64 (xt : Int), .int .i64 (xo : Int), .int .i64 (xs : Int), .int .u64 (xv : Int), .int .u64 (xz : Int)] 42)) ⟨w2.heap.size, 0, none⟩ 1 1 [.string ⟨#[]⟩, .int .i64 (xb : Int), .int .i64 (xt : Int), .int .i64 (xo : Int), .int .i64 (xs : Int), .int .u64 (xv : Int), .int .u64 (xz : Int)] rfl rfl ?c1 (by intro u hu; simp at hu; rcases hu with rfl | rfl | rfl | rfl | rfl | rfl | rfl <;> rfl) ?c3 ?c4 ?c5 ?_))
          case c1 =>
            intro q u hu
            rw [Addr.add_mid, Nat.zero_add, cell_of_row _ _ _ _ _ _ HNR.out]
            simpa using hu
          case c3 => exact hc3
          case c4 => exact hc4
          case c5 => rw [size_alloc]; exact Nat.le_succ_of_le HWW.out.2
          intro v' w5 hown' hgrow _
          have hrow : ∀ q, u15.ownBlock = some q → w.heap.size + 2 ≤ q := fun q hq => (hown.lt q hq).1
          have hbR : Below (w.heap.size + 2) wr w5 := Below.grown (Below.alloc (HWW.out.1.mono hlt) HWW.out.2 _) hgrow (by rw [size_alloc]; exact Nat.le_succ_of_le HWW.out.2) hrow
          have HALL : Hid (w5.ownsRow (w.heap.size + 2) 42 7 v' (j + 1) (symsV (l ++ [⟨.empty, xb, xt, xo, xs, xv, xz⟩])) ∧ w5.heap[w.heap.size]? = some (.cells #[.int .i64 64, .int .i64 o, .int .i64 h2, .int .i64 h3, .int .u64 h4, .int .i64 h5, .int .i64 h6, .int .i64 h7] 56 (0, 0)) ∧ Below w.heap.size w w5 ∧ w.heap.size + 2 ≤ w5.heap.size) := ⟨by rw [symsV_append]; exact hown', (hbR.block _ (by omega)).trans hRh, hB.trans (hbR.mono (by omega)), Nat.le_trans hlt hbR.size⟩
          clear hown' hgrow hbR hrow hown hRh hB hOW
          go_wp2
          clear hwa hxa
          go_roundw
          case rel => exact ⟨j + 1, _, hjn, by refine congrArg (Value.int .i64) ?_; have hq := HP.out; omega, HL'.out, HALL.out⟩
          case measure => have hq := HP.out; have hjn' : j < n := hjn; clear HALL HL'; simp only [intOf]; omega
        · have hpn : ((pl : Int) != 0) = true := bne_iff_ne.2 (by clear hwa hxa; omega)
          have HST : Hid (∀ w : World, Calls Tryd.prog 36 #[.string names, .int .i64 (pl : Int)] w fun r w' => r = .returned (.tuple #[.string nm, .int .i64 0]) ∧ w' = w) := fun w => by
            unfold nameOf at hN
            rw [if_neg hp0] at hN
            rcases str_or names pl with ⟨k, hk⟩ | hk
            · rw [strAt_some hk] at hN
              obtain rfl := Option.some.inj hN
              exact rStr_ok names pl k w hk HD.out.2.2.2
            · rw [strAt_none hk] at hN; cases hN
          clear hl' hln hpl hN hp0
          go_wp2_with fail
          go_at_call 35
          refine (HE'.out).mono ?_
          rintro r w2 ⟨rfl, hb2⟩
          obtain ⟨hq2, hbw⟩ := hb3 w2 hb2
          have hrow3 : (w2.setRow wr.heap.size #[.int .i64 (pl : Int), .string ⟨#[]⟩, .int .i64 (xb : Int), .int .i64 (xt : Int), .int .i64 (xo : Int), .int .i64 (xs : Int), .int .u64 (xv : Int), .int .u64 (xz : Int)]).heap[wr.heap.size]? = some (.cells #[.int .i64 (pl : Int), .string ⟨#[]⟩, .int .i64 (xb : Int), .int .i64 (xt : Int), .int .i64 (xo : Int), .int .i64 (xs : Int), .int .u64 (xv : Int), .int .u64 (xz : Int)] 87 (0, 0)) := setRow_heap _ _ _ _ _ _ hq2
          have e0 : (w2.setRow wr.heap.size #[.int .i64 (pl : Int), .string ⟨#[]⟩, .int .i64 (xb : Int), .int .i64 (xt : Int), .int .i64 (xo : Int), .int .i64 (xs : Int), .int .u64 (xv : Int), .int .u64 (xz : Int)]).cell? ⟨wr.heap.size, 0, none⟩ = some (.int .i64 (pl : Int)) := (cell_of_row _ _ 0 _ _ _ hrow3).trans rfl
          have e1 : (w2.setRow wr.heap.size #[.int .i64 (pl : Int), .string ⟨#[]⟩, .int .i64 (xb : Int), .int .i64 (xt : Int), .int .i64 (xo : Int), .int .i64 (xs : Int), .int .u64 (xv : Int), .int .u64 (xz : Int)]).cell? ⟨wr.heap.size, 1, none⟩ = some (.string ⟨#[]⟩) := (cell_of_row _ _ 1 _ _ _ hrow3).trans rfl
          have z1 : (w2.setRow wr.heap.size #[.int .i64 (pl : Int), .string ⟨#[]⟩, .int .i64 (xb : Int), .int .i64 (xt : Int), .int .i64 (xo : Int), .int .i64 (xs : Int), .int .u64 (xv : Int), .int .u64 (xz : Int)]).frozen? ⟨wr.heap.size, 1, none⟩ = false := frozen_of_row _ _ 1 _ _ hrow3
          have hrow4 : ((w2.setRow wr.heap.size #[.int .i64 (pl : Int), .string ⟨#[]⟩, .int .i64 (xb : Int), .int .i64 (xt : Int), .int .i64 (xo : Int), .int .i64 (xs : Int), .int .u64 (xv : Int), .int .u64 (xz : Int)]).setCell ⟨wr.heap.size, 1, none⟩ (.string nm)).heap[wr.heap.size]? = some (.cells #[.int .i64 (pl : Int), .string nm, .int .i64 (xb : Int), .int .i64 (xt : Int), .int .i64 (xo : Int), .int .i64 (xs : Int), .int .u64 (xv : Int), .int .u64 (xz : Int)] 87 (0, 0)) := (set_row (.string nm) hrow3).trans rfl
          have f1 : ((w2.setRow wr.heap.size #[.int .i64 (pl : Int), .string ⟨#[]⟩, .int .i64 (xb : Int), .int .i64 (xt : Int), .int .i64 (xo : Int), .int .i64 (xs : Int), .int .u64 (xv : Int), .int .u64 (xz : Int)]).setCell ⟨wr.heap.size, 1, none⟩ (.string nm)).cell? ⟨wr.heap.size, 1, none⟩ = some (.string nm) := (cell_of_row _ _ 1 _ _ _ hrow4).trans rfl
          have f2 : ((w2.setRow wr.heap.size #[.int .i64 (pl : Int), .string ⟨#[]⟩, .int .i64 (xb : Int), .int .i64 (xt : Int), .int .i64 (xo : Int), .int .i64 (xs : Int), .int .u64 (xv : Int), .int .u64 (xz : Int)]).setCell ⟨wr.heap.size, 1, none⟩ (.string nm)).cell? ⟨wr.heap.size, 2, none⟩ = some (.int .i64 (xb : Int)) := (cell_of_row _ _ 2 _ _ _ hrow4).trans rfl
          have f3 : ((w2.setRow wr.heap.size #[.int .i64 (pl : Int), .string ⟨#[]⟩, .int .i64 (xb : Int), .int .i64 (xt : Int), .int .i64 (xo : Int), .int .i64 (xs : Int), .int .u64 (xv : Int), .int .u64 (xz : Int)]).setCell ⟨wr.heap.size, 1, none⟩ (.string nm)).cell? ⟨wr.heap.size, 3, none⟩ = some (.int .i64 (xt : Int)) := (cell_of_row _ _ 3 _ _ _ hrow4).trans rfl
          have f4 : ((w2.setRow wr.heap.size #[.int .i64 (pl : Int), .string ⟨#[]⟩, .int .i64 (xb : Int), .int .i64 (xt : Int), .int .i64 (xo : Int), .int .i64 (xs : Int), .int .u64 (xv : Int), .int .u64 (xz : Int)]).setCell ⟨wr.heap.size, 1, none⟩ (.string nm)).cell? ⟨wr.heap.size, 4, none⟩ = some (.int .i64 (xo : Int)) := (cell_of_row _ _ 4 _ _ _ hrow4).trans rfl
          have f5 : ((w2.setRow wr.heap.size #[.int .i64 (pl : Int), .string ⟨#[]⟩, .int .i64 (xb : Int), .int .i64 (xt : Int), .int .i64 (xo : Int), .int .i64 (xs : Int), .int .u64 (xv : Int), .int .u64 (xz : Int)]).setCell ⟨wr.heap.size, 1, none⟩ (.string nm)).cell? ⟨wr.heap.size, 5, none⟩ = some (.int .i64 (xs : Int)) := (cell_of_row _ _ 5 _ _ _ hrow4).trans rfl
          have f6 : ((w2.setRow wr.heap.size #[.int .i64 (pl : Int), .string ⟨#[]⟩, .int .i64 (xb : Int), .int .i64 (xt : Int), .int .i64 (xo : Int), .int .i64 (xs : Int), .int .u64 (xv : Int), .int .u64 (xz : Int)]).setCell ⟨wr.heap.size, 1, none⟩ (.string nm)).cell? ⟨wr.heap.size, 6, none⟩ = some (.int .u64 (xv : Int)) := (cell_of_row _ _ 6 _ _ _ hrow4).trans rfl
          have f7 : ((w2.setRow wr.heap.size #[.int .i64 (pl : Int), .string ⟨#[]⟩, .int .i64 (xb : Int), .int .i64 (xt : Int), .int .i64 (xo : Int), .int .i64 (xs : Int), .int .u64 (xv : Int), .int .u64 (xz : Int)]).setCell ⟨wr.heap.size, 1, none⟩ (.string nm)).cell? ⟨wr.heap.size, 7, none⟩ = some (.int .u64 (xz : Int)) := (cell_of_row _ _ 7 _ _ _ hrow4).trans rfl
          have hbw4 : Below wr.heap.size wr ((w2.setRow wr.heap.size #[.int .i64 (pl : Int), .string ⟨#[]⟩, .int .i64 (xb : Int), .int .i64 (xt : Int), .int .i64 (xo : Int), .int .i64 (xs : Int), .int .u64 (xv : Int), .int .u64 (xz : Int)]).setCell ⟨wr.heap.size, 1, none⟩ (.string nm)) := Below.setCell hbw (Nat.le_refl _) _
          have hOW := own_below hown hbw4
          have HWW := Hid.mk' (And.intro hbw4 (Nat.le_trans hlt hbw4.size))
          clear hb2 hrow3 hrow4 hb3 hbw hbw4
          have HNR : Hid ((((w2.setRow wr.heap.size #[.int .i64 (pl : Int), .string ⟨#[]⟩, .int .i64 (xb : Int), .int .i64 (xt : Int), .int .i64 (xo : Int), .int .i64 (xs : Int), .int .u64 (xv : Int), .int .u64 (xz : Int)]).setCell ⟨wr.heap.size, 1, none⟩ (.string nm)).alloc (.cells #[.string nm, .int .i64 (xb : Int), .int .i64 (xt : Int), .int .i64 (xo : Int), .int .i64 (xs : Int), .int .u64 (xv : Int), .int .u64 (xz : Int)] 42)).heap[w2.heap.size]? = some (.cells #[.string nm, .int .i64 (xb : Int), .int .i64 (xt : Int), .int .i64 (xo : Int), .int .i64 (xs : Int), .int .u64 (xv : Int), .int .u64 (xz : Int)] 42 (0, 0))) := by
            have hsz : ((w2.setRow wr.heap.size #[.int .i64 (pl : Int), .string ⟨#[]⟩, .int .i64 (xb : Int), .int .i64 (xt : Int), .int .i64 (xo : Int), .int .i64 (xs : Int), .int .u64 (xv : Int), .int .u64 (xz : Int)]).setCell ⟨wr.heap.size, 1, none⟩ (.string nm)).heap.size = w2.heap.size := by simp
            have h := heap_alloc_new ((w2.setRow wr.heap.size #[.int .i64 (pl : Int), .string ⟨#[]⟩, .int .i64 (xb : Int), .int .i64 (xt : Int), .int .i64 (xo : Int), .int .i64 (xs : Int), .int .u64 (xv : Int), .int .u64 (xz : Int)]).setCell ⟨wr.heap.size, 1, none⟩ (.string nm)) (.cells #[.string nm, .int .i64 (xb : Int), .int .i64 (xt : Int), .int .i64 (xo : Int), .int .i64 (xs : Int), .int .u64 (xv : Int), .int .u64 (xz : Int)] 42)
            rw [hsz] at h
            exact h
          go_wp2_with (first
            | (refine wpList_store_row rfl _ _ _ rfl wr.heap.size #[.int .i64 (pl : Int), .string ⟨#[]⟩, .int .i64 (xb : Int), .int .i64 (xt : Int), .int .i64 (xo : Int), .int .i64 (xs : Int), .int .u64 (xv : Int), .int .u64 (xz : Int)] rfl rfl _ _ hq2 rfl (by kernel_rfl) (by kernel_rfl) ?_)
            | (go_at_call 36; refine (HST.out _).mono ?_; rintro r w6 ⟨rfl, hw6⟩; subst w6)
            | (at_builtin; refine wpList_append_own _ rfl _ _ 45 rfl (w.heap.size + 2) 42 i0 (.agg #[.string ⟨#[]⟩, .int .i64 0, .int .i64 0, .int .i64 0, .int .i64 0, .int .u64 0, .int .u64 0]) 7 64 Tryd.underlying45 hi hz0 hz1 hz2 rfl (by decide) _ _ _ rfl (hOW.alloc (.cells #[.string nm, .int .i64 (xb : Int), .int .i64 (xt : Int), .int .i64 (xo : Int), .int .i64 (xs : Int), .int .u64 (xv : Int), .int .u64 (xz : Int)] 42)) ⟨w2.heap.size, 0, none⟩ 1 1 [.string nm, .int .i64 (xb : Int), .int .i64 (xt : Int), .int .i64 (xo : Int), .int .i64 (xs : Int), .int .u64 (xv : Int), .int .u64 (xz : Int)] rfl rfl ?c1 (by intro u hu; simp at hu; rcases hu with rfl | rfl | rfl | rfl | rfl | rfl | rfl <;> rfl) ?c3 ?c4 ?c5 ?_))
          case c1 =>
            intro q u hu
            rw [Addr.add_mid, Nat.zero_add, cell_of_row _ _ _ _ _ _ HNR.out]
            simpa using hu
          case c3 => exact hc3
          case c4 => exact hc4
          case c5 => rw [size_alloc]; exact Nat.le_succ_of_le HWW.out.2
          intro v' w5 hown' hgrow _
          have hrow : ∀ q, u15.ownBlock = some q → w.heap.size + 2 ≤ q := fun q hq => (hown.lt q hq).1
          have hbR : Below (w.heap.size + 2) wr w5 := Below.grown (Below.alloc (HWW.out.1.mono hlt) HWW.out.2 _) hgrow (by rw [size_alloc]; exact Nat.le_succ_of_le HWW.out.2) hrow
          have HALL : Hid (w5.ownsRow (w.heap.size + 2) 42 7 v' (j + 1) (symsV (l ++ [⟨nm, xb, xt, xo, xs, xv, xz⟩])) ∧ w5.heap[w.heap.size]? = some (.cells #[.int .i64 64, .int .i64 o, .int .i64 h2, .int .i64 h3, .int .u64 h4, .int .i64 h5, .int .i64 h6, .int .i64 h7] 56 (0, 0)) ∧ Below w.heap.size w w5 ∧ w.heap.size + 2 ≤ w5.heap.size) := ⟨by rw [symsV_append]; exact hown', (hbR.block _ (by omega)).trans hRh, hB.trans (hbR.mono (by omega)), Nat.le_trans hlt hbR.size⟩
          clear hown' hgrow hbR hrow hown hRh hB hOW
          go_wp2
          clear hwa hxa
          go_roundw
          case rel => exact ⟨j + 1, _, hjn, by refine congrArg (Value.int .i64) ?_; have hq := HP.out; omega, HL'.out, HALL.out⟩
          case measure => have hq := HP.out; have hjn' : j < n := hjn; clear HALL HL'; simp only [intOf]; omega
    · obtain rfl : j = n := Nat.le_antisymm hj (Nat.not_lt.1 hjn)
      have hjI : ¬ ((j * 24 : Nat) : Int) < ((t.size : Nat) : Int) := by omega
      have hjN : ¬ (j * 24 < t.size) := by omega
      clear hn
      go_wp2
      go_ret2
      exact ⟨hB, Or.inl ⟨l, _, by rw [HD.out.1]; exact hl, rfl, by rw [hll]; exact own_base hown (by omega)⟩⟩
end Go.Proofs.YtkmehjikllilaaaDoor
