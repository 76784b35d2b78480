import Derived.Test.YtkmehjikllilaaaDoorM6
import Derived.Test.YtkmehjikllilaaaDoorM4
import Derived.Deep.RegionHeld3
import Derived.Deep.RegionWith
import Derived.Test.YtkmehjikllilaaaDoorM5
import Derived.Test.YtkmehjikllilaaaDoorY0
import Derived.Test.YtkmehjikllilaaaDoorR1
import Derived.Test.YtkmehjikllilaaaDoorN2
import Derived.LoopTactic
import Derived.Deep.QuietTactic
import Derived.BigQuiet

-- The document's one by the plain words, class 64: contract.
namespace Go.Proofs.YtkmehjikllilaaaDoor
open Go.ChangeShapes Go.WideShapes Go.ChangeAt Go.RowKit
set_option linter.unusedVariables false
set_option maxRecDepth 100000
theorem strs_ne_64 {b : ByteArray} {n : Nat} {s : Nat → Sec} {x : Sec} {e : Int} (h : strsOf b n s x = .error e) : e ≠ 0 := by
  unfold strsOf at h
  split at h
  · split at h
    · cases h; decide
    · cases h
  · cases h; decide
theorem open_strs_64 {b : ByteArray} {n : Nat} {s : Nat → Sec} {x : Sec} {t : ByteArray} (h7 : x.en = 24) (h6 : x.sz % 24 = 0) (hc : cont b x = some t) : openOf b 64 n s x = match strsOf b n s x with | .error e => .error e | .ok names => .ok (t, names) := by
  unfold openOf strsOf
  rw [if_pos ⟨h7, h6⟩, hc]
  by_cases h : x.li < n ∧ (s x.li).ty = 3
  · simp only [if_pos h]
    cases cont b (s x.li) <;> rfl
  · simp only [if_neg h]
/-- what one answers, by the plain words -/
def OneC64 (b : ByteArray) (o : Int) (n : Nat) (s : Nat → Sec) (x : Sec) (w : World) (r : Ending) (w' : World) : Prop :=
  Below w.heap.size w w' ∧ ((∃ e, oneOf b 64 o n s x = .error e ∧ r = .returned (.tuple #[.slice none 0 0, .int .i64 e])) ∨ (∃ l v, oneOf b 64 o n s x = .ok l ∧ r = .returned (.tuple #[v, .int .i64 0]) ∧ w'.ownsRow w.heap.size 42 7 v l.length (symsV l)))
theorem one_64 (b : ByteArray) (B n : Nat) (v : Value) (s : Nat → Sec) (x : Sec) (o h2 h3 h4 h5 h6 h7 : Int) (w : World) (hS : SecsIn B w v n s) (hn : n ≤ 26214) (hB : SecB s) (hb : b.size ≤ 1048576) (ho : o = 0 ∨ o = 1) (hx : x.off < 18446744073709551616 ∧ x.sz < 18446744073709551616) (hx1 : x.ty = 2) :
    Calls Tryd.prog 19 #[.string b, .agg #[.int .i64 64, .int .i64 o, .int .i64 h2, .int .i64 h3, .int .u64 h4, .int .i64 h5, .int .i64 h6, .int .i64 h7], v, .agg x.v] w (OneC64 b o n s x w) := by
  have hm : b.size ≤ maxLen := by unfold maxLen; omega
  obtain ⟨x0, x1, x2, x3, x4, x5, x6, x7⟩ := x
  by_cases h7' : x7 = 24
  case neg =>
    refine (one_55a_64 b v o h2 h3 h4 h5 h6 h7 x0 x1 x2 x3 x4 x5 x6 x7 w h7').mono fun r w' ⟨h1, h2⟩ => ⟨h2, Or.inl ⟨55, one_err ?_, h1⟩⟩
    unfold openOf
    rw [if_neg]
    intro h
    exact h7' h.1
  subst h7'
  by_cases h6' : x6 % 24 = 0
  case neg =>
    refine (one_55b_64 b v o h2 h3 h4 h5 h6 h7 x0 x1 x2 x3 x4 x5 x6 w hx.2 h6').mono fun r w' ⟨h1, h2⟩ => ⟨h2, Or.inl ⟨55, one_err ?_, h1⟩⟩
    unfold openOf
    rw [if_neg]
    intro h
    exact h6' h.2
  cases hc : cont b ⟨x0, x1, x2, x3, x4, x5, x6, 24⟩ with
  | none =>
    refine (one_54_64 b v o h2 h3 h4 h5 h6 h7 x0 x1 x2 x3 x4 x5 x6 w hx.2 h6' (fun w => dcont_no b _ hm hx hc w)).mono fun r w' ⟨h1, h2⟩ => ⟨h2, Or.inl ⟨54, one_err ?_, h1⟩⟩
    unfold openOf
    rw [if_pos ⟨rfl, h6'⟩, hc]
  | some t =>
    have hop := open_strs_64 (n := n) (s := s) (x := ⟨x0, x1, x2, x3, x4, x5, x6, 24⟩) rfl h6' hc
    have hst (wx : World) (hbx : Below w.heap.size w wx) := strings_c b B n v s ⟨x0, x1, x2, x3, x4, x5, x6, 24⟩ wx (hS.kept hbx) hn hB hm
    cases hss : strsOf b n s ⟨x0, x1, x2, x3, x4, x5, x6, 24⟩ with
    | error e =>
      rw [hss] at hop
      refine (one_str_64 b t e v o h2 h3 h4 h5 h6 h7 x0 x1 x2 x3 x4 x5 x6 w hx.2 h6' (strs_ne_64 hss) (fun w => dcont_ok b t _ hm hc w) (fun wx hbx => (hst wx hbx).mono fun r w' ⟨h1, h2⟩ => ?_)).mono fun r w' ⟨h1, h2⟩ => ⟨h2, Or.inl ⟨e, one_err hop, h1⟩⟩
      rcases h2 with ⟨e', h3, h4⟩ | ⟨t', h3, h4⟩
      · rw [hss] at h3
        obtain rfl := Except.error.inj h3
        exact ⟨h4, h1⟩
      · rw [hss] at h3; cases h3
    | ok names =>
      rw [hss] at hop
      obtain ⟨hz1, hz2, hz3⟩ := open_size hop hx1 hb
      have hzL : t.size = t.size / 24 * 24 := by
        have h3 : t.size % 24 = 0 := hz3
        omega
      refine (one_go_64 b t names (t.size / 24) v o h2 h3 h4 h5 h6 h7 x0 x1 x2 x3 x4 x5 x6 w hx.2 h6' hz1 hz2 ho hzL (fun w => dcont_ok b t _ hm hc w) (fun wx hbx => (hst wx hbx).mono fun r w' ⟨h1, h2⟩ => ?_)).mono fun r w' ⟨h1, h2⟩ => ⟨h1, ?_⟩
      · rcases h2 with ⟨e', h3, h4⟩ | ⟨t', h3, h4⟩
        · rw [hss] at h3; cases h3
        · rw [hss] at h3
          obtain rfl := Except.ok.inj h3
          exact ⟨h4, h1⟩
      · rcases h2 with ⟨l, v', h3, h4, h5⟩ | ⟨h3, h4⟩
        · exact Or.inr ⟨l, v', one_some hop h3, h4, h5⟩
        · exact Or.inl ⟨56, one_none hop h3, h4⟩
end Go.Proofs.YtkmehjikllilaaaDoor

-- The document's Table, class 64: contract.
namespace Go.Proofs.YtkmehjikllilaaaDoor
open Go.ChangeShapes Go.WideShapes Go.ChangeAt Go.RowKit
set_option linter.unusedVariables false
set_option maxRecDepth 100000
theorem dsecs_low_64 {B C g n cp : Nat} {w w' : World} {s : Nat → Sec} (h : SecsIn B w (.slice (some ⟨g, 0, none⟩) n cp) n s) (hg : g < C) (hb : Below C w w') : SecsIn B w' (.slice (some ⟨g, 0, none⟩) n cp) n s := by
  obtain ⟨ao, c, hv, hr⟩ := h
  refine ⟨ao, c, hv, fun hn => ?_⟩
  obtain ⟨g', cur, h1, h2, h3, h4⟩ := hr hn
  subst h1
  obtain rfl : g = g' := by
    have h := Value.slice.inj hv
    exact congrArg Addr.block (Option.some.inj h.1)
  exact ⟨g, cur, rfl, h2, (hb.block g hg).trans h3, h4⟩
set_option maxHeartbeats 4000000 in
theorem dtable_64 (b : ByteArray) (n : Nat) (s : Nat → Sec) (o h2 h3 h4 h5 h6 h7 : Int) (w : World) (hb : b.size ≤ 1048576) (ho : o = 0 ∨ o = 1) (hn : n ≤ 26214) (hsb : SecB s) (hP : DSecs b n s 0)
    (hH : ∀ w : World, Calls Tryd.prog 18 #[.string b] w fun r w' => r = .returned (.tuple #[.agg #[.int .i64 64, .int .i64 o, .int .i64 h2, .int .i64 h3, .int .u64 h4, .int .i64 h5, .int .i64 h6, .int .i64 h7], .int .i64 0]) ∧ Below w.heap.size w w') :
    Calls Tryd.prog 14 #[.string b] w fun r w' => ∃ v, r = .returned (.tuple #[v, .int .i64 (tabE b 64 o n s 0)]) ∧ w'.ownsRow w.heap.size 42 7 v (tabL b 64 o n s 0).length (symsV (tabL b 64 o n s 0)) ∧ Below w.heap.size w w' := by
  have HP := Hid.mk' hP
  have HH := Hid.mk' hH
  obtain ⟨i0, hi, hz0, hz1, hz2⟩ := info_parts' infoSym
  have HALL := Hid.mk' (And.intro hb (And.intro hn (And.intro hsb ho)))
  clear hb hsb ho hP hH
  go_enter Tryd.func14, Tryd.ntmps14
  go_wp2_with (first
    | (go_at_call 17; refine (HP.out _).mono ?_; rintro r w1 ⟨v, rfl, hS, hb1⟩; obtain ⟨ao, cp, rfl, hS0⟩ := hS)
    | (go_at_call 18; refine (HH.out _).mono ?_; rintro r w3 ⟨rfl, hb2⟩))
  have hs1 := hb1.size
  have hs2 := hb2.size
  have hWK : (w3.alloc (.cells #[.int .i64 64, .int .i64 o, .int .i64 h2, .int .i64 h3, .int .u64 h4, .int .i64 h5, .int .i64 h6, .int .i64 h7] 56)).heap[w3.heap.size]? = some (.cells #[.int .i64 64, .int .i64 o, .int .i64 h2, .int .i64 h3, .int .u64 h4, .int .i64 h5, .int .i64 h6, .int .i64 h7] 56 (0, 0)) := heap_alloc_new w3 _
  have hb23 : Below w1.heap.size w1 (w3.alloc (.cells #[.int .i64 64, .int .i64 o, .int .i64 h2, .int .i64 h3, .int .u64 h4, .int .i64 h5, .int .i64 h6, .int .i64 h7] 56)) := Below.alloc hb2 hs2 _
  have hWB : Below w.heap.size w (w3.alloc (.cells #[.int .i64 64, .int .i64 o, .int .i64 h2, .int .i64 h3, .int .u64 h4, .int .i64 h5, .int .i64 h6, .int .i64 h7] 56)) := hb1.trans (hb23.mono hs1)
  have hWS : SecsIn 0 (w3.alloc (.cells #[.int .i64 64, .int .i64 o, .int .i64 h2, .int .i64 h3, .int .u64 h4, .int .i64 h5, .int .i64 h6, .int .i64 h7] 56)) (.slice ao n cp) n s := SecsIn.kept ⟨ao, cp, rfl, fun h => by obtain ⟨g, cur, h1, _, h3, h4⟩ := hS0 h; exact ⟨g, cur, h1, Nat.zero_le _, h3, h4⟩⟩ hb23
  have hWZ : (w3.alloc (.cells #[.int .i64 64, .int .i64 o, .int .i64 h2, .int .i64 h3, .int .u64 h4, .int .i64 h5, .int .i64 h6, .int .i64 h7] 56)).heap.size = w3.heap.size + 1 := size_alloc _ _
  have hwK : w.heap.size ≤ w3.heap.size := by omega
  clear hb23 hb1 hb2 hS0 HP HH hs1 hs2
  generalize (w3.alloc (.cells #[.int .i64 64, .int .i64 o, .int .i64 h2, .int .i64 h3, .int .u64 h4, .int .i64 h5, .int .i64 h6, .int .i64 h7] 56)) = W at hWK hWB hWS hWZ ⊢
  generalize w3.heap.size = K at hWK hWZ hwK ⊢
  clear w3
  have HGK : Hid (∀ g : Nat, ao = some ⟨g, 0, none⟩ → g < K + 1 ∨ n = 0) := by
    intro g hg
    obtain ⟨ao', cp', hv, hr⟩ := hWS
    obtain ⟨rfl, _, rfl⟩ : ao = ao' ∧ n = n ∧ cp = cp' := by simpa using hv
    by_cases h0 : n = 0
    · exact Or.inr h0
    · obtain ⟨g', cur, h1, _, h3, _⟩ := hr (by omega)
      rw [hg] at h1
      obtain rfl : g = g' := congrArg Addr.block (Option.some.inj h1)
      exact Or.inl (by rw [← hWZ]; exact (Array.getElem?_eq_some_iff.1 h3).1)
  go_loopw [8, 9] (fun u a wx => ∃ (i : Nat) (l : List Sym), i ≤ n ∧ a = .int .i64 i ∧ tabOf b 64 o n s i = .ok l ∧ wx.ownsRow (K + 1) 42 7 u l.length (symsV l) ∧ wx.heap[K]? = some (.cells #[.int .i64 64, .int .i64 o, .int .i64 h2, .int .i64 h3, .int .u64 h4, .int .i64 h5, .int .i64 h6, .int .i64 h7] 56 (0, 0)) ∧ SecsIn 0 wx (.slice ao n cp) n s ∧ Below w.heap.size w wx ∧ K + 1 ≤ wx.heap.size) (fun _ a _ => n - (intOf a).toNat)
  case atStart => exact ⟨0, [], Nat.zero_le _, rfl, rfl, World.ownsRow_nil _ _ _ _, hWK, hWS, hWB, by omega⟩
  case round =>
    clear hWK hWS hWB hWZ W
    obtain ⟨i, l, hi', rfl, hl, hown, hR, hS, hB, hlt⟩ := hrel
    by_cases hin : i < n
    · obtain ⟨hb, hn', hsb, ho⟩ := HALL.out
      obtain ⟨ao', cp', hv, hr⟩ := hS
      obtain ⟨rfl, _, rfl⟩ : ao = ao' ∧ n = n ∧ cp = cp' := by simpa using hv
      obtain ⟨g, cur, rfl, _, hg, hcur⟩ := hr (Nat.lt_of_le_of_lt (Nat.zero_le _) hin)
      have hS : SecsIn 0 wr (.slice (some ⟨g, 0, none⟩) n cp) n s := ⟨_, cp, rfl, fun _ => ⟨g, cur, rfl, Nat.zero_le _, hg, hcur⟩⟩
      have hgg : g < K + 1 := (HGK.out g rfl).resolve_right (by omega)
      have hxb := hsb i
      have hy := hcur i
      have hiI : (i : Int) < (n : Int) := Int.ofNat_lt.2 hin
      have hi0 : (0 : Int) ≤ (i : Int) := Int.natCast_nonneg _
      have hll := tab_length hb i l hl
      have hlm : l.length ≤ 1718091776 := by omega
      clear hr hcur hv hll
      cases hsx : s i with
      | mk x0 x1 x2 x3 x4 x5 x6 x7 =>
        rw [hsx] at hy hxb
        have a1 : wr.cell? ⟨g, i * 8 + 1, none⟩ = some (.int .i64 (x1 : Int)) := (cell_of_row _ _ _ _ _ _ hg).trans (hy 1 hin (by omega))
        by_cases h2' : x1 = 2
        case neg =>
          have HNX := Hid.mk' (tab_at_not hl (by rw [hsx]; exact h2'))
          have h2n : ((x1 : Int) != 2) = true := bne_iff_ne.2 (by omega)
          have HK := Hid.mk' (And.intro hown (And.intro hR (And.intro hS (And.intro hB hlt))))
          clear hown hR hS hB hg hy hxb hl hsx h2' hb ho hsb hlm hn'
          go_wp2
          go_roundw
          case rel => exact ⟨i + 1, l, hin, by go_num, HNX.out, HK.out⟩
          case measure => clear HK HNX HALL HGK; simp [intOf]; omega
        subst h2'
        have h2s : (s i).ty = 2 := by rw [hsx]
        have HO : Hid (∀ wx : World, Below wr.heap.size wr wx → Calls Tryd.prog 19 #[.string b, .agg #[.int .i64 64, .int .i64 o, .int .i64 h2, .int .i64 h3, .int .u64 h4, .int .i64 h5, .int .i64 h6, .int .i64 h7], .slice (some ⟨g, 0, none⟩) n cp, .agg #[.int .i64 (x0 : Int), .int .i64 2, .int .u64 (x2 : Int), .int .i64 (x3 : Int), .int .i64 (x4 : Int), .int .u64 (x5 : Int), .int .u64 (x6 : Int), .int .u64 (x7 : Int)]] wx (OneC64 b o n s ⟨x0, 2, x2, x3, x4, x5, x6, x7⟩ wx)) := fun wx hbx => one_64 b 0 n _ s ⟨x0, 2, x2, x3, x4, x5, x6, x7⟩ o h2 h3 h4 h5 h6 h7 wx (hS.kept hbx) hn' hsb hb ho hxb rfl
        have d0 : ∀ w' : World, Below wr.heap.size wr w' → w'.cell? ⟨g, i * 8, none⟩ = some (.int .i64 (x0 : Int)) := fun w' hb => (hb.cell (Array.getElem?_eq_some_iff.1 hg).1).trans ((cell_of_row _ _ _ _ _ _ hg).trans (hy 0 hin (by omega)))
        have d1 : ∀ w' : World, Below wr.heap.size wr w' → w'.cell? ⟨g, i * 8 + 1, none⟩ = some (.int .i64 2) := fun w' hb => (hb.cell (Array.getElem?_eq_some_iff.1 hg).1).trans ((cell_of_row _ _ _ _ _ _ hg).trans (hy 1 hin (by omega)))
        have d2 : ∀ w' : World, Below wr.heap.size wr w' → w'.cell? ⟨g, i * 8 + 2, none⟩ = some (.int .u64 (x2 : Int)) := fun w' hb => (hb.cell (Array.getElem?_eq_some_iff.1 hg).1).trans ((cell_of_row _ _ _ _ _ _ hg).trans (hy 2 hin (by omega)))
        have d3 : ∀ w' : World, Below wr.heap.size wr w' → w'.cell? ⟨g, i * 8 + 3, none⟩ = some (.int .i64 (x3 : Int)) := fun w' hb => (hb.cell (Array.getElem?_eq_some_iff.1 hg).1).trans ((cell_of_row _ _ _ _ _ _ hg).trans (hy 3 hin (by omega)))
        have d4 : ∀ w' : World, Below wr.heap.size wr w' → w'.cell? ⟨g, i * 8 + 4, none⟩ = some (.int .i64 (x4 : Int)) := fun w' hb => (hb.cell (Array.getElem?_eq_some_iff.1 hg).1).trans ((cell_of_row _ _ _ _ _ _ hg).trans (hy 4 hin (by omega)))
        have d5 : ∀ w' : World, Below wr.heap.size wr w' → w'.cell? ⟨g, i * 8 + 5, none⟩ = some (.int .u64 (x5 : Int)) := fun w' hb => (hb.cell (Array.getElem?_eq_some_iff.1 hg).1).trans ((cell_of_row _ _ _ _ _ _ hg).trans (hy 5 hin (by omega)))
        have d6 : ∀ w' : World, Below wr.heap.size wr w' → w'.cell? ⟨g, i * 8 + 6, none⟩ = some (.int .u64 (x6 : Int)) := fun w' hb => (hb.cell (Array.getElem?_eq_some_iff.1 hg).1).trans ((cell_of_row _ _ _ _ _ _ hg).trans (hy 6 hin (by omega)))
        have d7 : ∀ w' : World, Below wr.heap.size wr w' → w'.cell? ⟨g, i * 8 + 7, none⟩ = some (.int .u64 (x7 : Int)) := fun w' hb => (hb.cell (Array.getElem?_eq_some_iff.1 hg).1).trans ((cell_of_row _ _ _ _ _ _ hg).trans (hy 7 hin (by omega)))
        have k0 : ∀ w' : World, Below wr.heap.size wr w' → w'.cell? ⟨K, 0, none⟩ = some (.int .i64 64) := fun w' hb => (hb.cell (Array.getElem?_eq_some_iff.1 hR).1).trans (cell_of_row _ _ 0 _ _ _ hR)
        have k1 : ∀ w' : World, Below wr.heap.size wr w' → w'.cell? ⟨K, 1, none⟩ = some (.int .i64 o) := fun w' hb => (hb.cell (Array.getElem?_eq_some_iff.1 hR).1).trans (cell_of_row _ _ 1 _ _ _ hR)
        have k2 : ∀ w' : World, Below wr.heap.size wr w' → w'.cell? ⟨K, 2, none⟩ = some (.int .i64 h2) := fun w' hb => (hb.cell (Array.getElem?_eq_some_iff.1 hR).1).trans (cell_of_row _ _ 2 _ _ _ hR)
        have k3 : ∀ w' : World, Below wr.heap.size wr w' → w'.cell? ⟨K, 3, none⟩ = some (.int .i64 h3) := fun w' hb => (hb.cell (Array.getElem?_eq_some_iff.1 hR).1).trans (cell_of_row _ _ 3 _ _ _ hR)
        have k4 : ∀ w' : World, Below wr.heap.size wr w' → w'.cell? ⟨K, 4, none⟩ = some (.int .u64 h4) := fun w' hb => (hb.cell (Array.getElem?_eq_some_iff.1 hR).1).trans (cell_of_row _ _ 4 _ _ _ hR)
        have k5 : ∀ w' : World, Below wr.heap.size wr w' → w'.cell? ⟨K, 5, none⟩ = some (.int .i64 h5) := fun w' hb => (hb.cell (Array.getElem?_eq_some_iff.1 hR).1).trans (cell_of_row _ _ 5 _ _ _ hR)
        have k6 : ∀ w' : World, Below wr.heap.size wr w' → w'.cell? ⟨K, 6, none⟩ = some (.int .i64 h6) := fun w' hb => (hb.cell (Array.getElem?_eq_some_iff.1 hR).1).trans (cell_of_row _ _ 6 _ _ _ hR)
        have k7 : ∀ w' : World, Below wr.heap.size wr w' → w'.cell? ⟨K, 7, none⟩ = some (.int .i64 h7) := fun w' hb => (hb.cell (Array.getElem?_eq_some_iff.1 hR).1).trans (cell_of_row _ _ 7 _ _ _ hR)
        have hbr := Below.refl wr.heap.size wr
        have hSc : ∀ w4 : World, Below wr.heap.size wr w4 → SecsIn 0 w4 (.slice (some ⟨g, 0, none⟩) n cp) n s := fun w4 hb => hS.kept hb
        clear hS hg hy hxb hsb hb ho hn'
        cases hone : oneOf b 64 o n s ⟨x0, 2, x2, x3, x4, x5, x6, x7⟩ with
        | error e =>
          have HT := Hid.mk' (tab_err (tab_at_err hl hin h2s (by rw [hsx]; exact hone)))
          have he0 : e ≠ 0 := one_ne hone
          have hen : (e != 0) = true := bne_iff_ne.2 he0
          have HO' : Hid (∀ wx : World, Below wr.heap.size wr wx → Calls Tryd.prog 19 #[.string b, .agg #[.int .i64 64, .int .i64 o, .int .i64 h2, .int .i64 h3, .int .u64 h4, .int .i64 h5, .int .i64 h6, .int .i64 h7], .slice (some ⟨g, 0, none⟩) n cp, .agg #[.int .i64 (x0 : Int), .int .i64 2, .int .u64 (x2 : Int), .int .i64 (x3 : Int), .int .i64 (x4 : Int), .int .u64 (x5 : Int), .int .u64 (x6 : Int), .int .u64 (x7 : Int)]] wx fun r w' => r = .returned (.tuple #[.slice none 0 0, .int .i64 e]) ∧ Below wr.heap.size wr w') := fun wx hbx => (HO.out wx hbx).mono fun r w' ⟨h1, h2⟩ => by
            rcases h2 with ⟨e', h3, h4⟩ | ⟨l', v', h3, _⟩
            · rw [hone] at h3
              obtain rfl := Except.error.inj h3
              exact ⟨h4, hbx.trans (h1.mono hbx.size)⟩
            · rw [hone] at h3; cases h3
          have HB := Hid.mk' (And.intro hB hlt)
          clear hone hl hsx hown hR hB hlt hlm h2s HO he0 hSc hgg
          go_wp2_with fail
          go_region_held3 (fun w' => Below wr.heap.size wr w') (first | (with_reducible assumption) | (with_reducible exact Below.drew (by with_reducible assumption))) (first
            | (go_at_call 19; refine (HO'.out _ (by first | assumption | exact hbr.drew)).mono ?_; rintro r w4 ⟨rfl, hb4⟩))
          all_goals
            go_wp2
            go_ret2
            rw [HT.out.1, HT.out.2]
            exact ⟨_, rfl, World.ownsRow_nil _ _ _ _, HB.out.1.trans (Below.mono (by first | assumption | exact Below.drew (by assumption)) (by have := HB.out.2; omega))⟩
        | ok m =>
          have HNX := Hid.mk' (tab_at_ok hl h2s (by rw [hsx]; exact hone))
          have hml := one_length hone rfl HALL.out.1
          have HO' : Hid (∀ wx : World, Below wr.heap.size wr wx → Calls Tryd.prog 19 #[.string b, .agg #[.int .i64 64, .int .i64 o, .int .i64 h2, .int .i64 h3, .int .u64 h4, .int .i64 h5, .int .i64 h6, .int .i64 h7], .slice (some ⟨g, 0, none⟩) n cp, .agg #[.int .i64 (x0 : Int), .int .i64 2, .int .u64 (x2 : Int), .int .i64 (x3 : Int), .int .i64 (x4 : Int), .int .u64 (x5 : Int), .int .u64 (x6 : Int), .int .u64 (x7 : Int)]] wx fun r w' => ∃ v, r = .returned (.tuple #[v, .int .i64 0]) ∧ w'.ownsRow (K + 1) 42 7 v m.length (symsV m) ∧ Below wr.heap.size wr w') := fun wx hbx => (HO.out wx hbx).mono fun r w' ⟨h1, h2⟩ => by
            rcases h2 with ⟨e', h3, h4⟩ | ⟨l', v', h3, h4, h5⟩
            · rw [hone] at h3; cases h3
            · rw [hone] at h3
              obtain rfl := Except.ok.inj h3
              exact ⟨v', h4, own_base h5 (Nat.le_trans hlt hbx.size), hbx.trans (h1.mono hbx.size)⟩
          have hc3 : l.length + m.length ≤ maxLen := by unfold maxLen; omega
          have hc4 : (l.length + m.length) * 64 ≤ 140737488355328 := by omega
          have HB := Hid.mk' (And.intro hB (And.intro hlt (And.intro hSc (And.intro hgg hR))))
          have HOW := Hid.mk' hown
          clear hone hl hsx hown hR hB hlt hlm h2s HO hSc hgg hml
          go_wp2_with fail
          go_region_held3 (fun w' => Below wr.heap.size wr w') (first | (with_reducible assumption) | (with_reducible exact Below.drew (by with_reducible assumption))) (first
            | (go_at_call 19; refine (HO'.out _ (by first | assumption | exact hbr.drew)).mono ?_; rintro r w4 ⟨v4, rfl, ho4, hb4⟩))
          all_goals
            have hb4' : Below wr.heap.size wr w4 := by first | assumption
            go_wp2_with (first
              | (at_builtin; refine wpList_append_rows rfl _ _ 45 rfl (K + 1) 42 i0 (.agg #[.string ⟨#[]⟩, .int .i64 0, .int .i64 0, .int .i64 0, .int .i64 0, .int .u64 0, .int .u64 0]) 7 64 Tryd.underlying45 hi hz0 hz1 hz2 rfl (by decide) _ _ _ rfl (own_below HOW.out hb4') (K + 1) v4 _ _ rfl ho4 (symsV_one _) hc3 hc4 (Nat.le_trans HB.out.2.1 hb4'.size) ?_; intro v5 w5 hown5 hgrow))
            obtain ⟨hB, hlt, hSc, hgg, hR⟩ := HB.out
            have hrow : ∀ q, u8.ownBlock = some q → K + 1 ≤ q := fun q hq => (HOW.out.lt q hq).1
            have hbR : Below (K + 1) w4 w5 := Below.grown (Below.refl _ _) hgrow (Nat.le_trans hlt hb4'.size) hrow
            have HF : Hid (w5.ownsRow (K + 1) 42 7 v5 (l ++ m).length (symsV (l ++ m)) ∧ w5.heap[K]? = some (.cells #[.int .i64 64, .int .i64 o, .int .i64 h2, .int .i64 h3, .int .u64 h4, .int .i64 h5, .int .i64 h6, .int .i64 h7] 56 (0, 0)) ∧ SecsIn 0 w5 (.slice (some ⟨g, 0, none⟩) n cp) n s ∧ Below w.heap.size w w5 ∧ K + 1 ≤ w5.heap.size) := ⟨by rw [List.length_append, symsV_append]; exact hown5, (hbR.block K (Nat.lt_succ_self K)).trans ((hb4'.block K (by omega)).trans hR), dsecs_low_64 (hSc w4 hb4') hgg hbR, (hB.trans (hb4'.mono hB.size)).trans (hbR.mono (by omega)), Nat.le_trans (Nat.le_trans hlt hb4'.size) hbR.size⟩
            clear hB hlt hSc hgg hR hrow hbR hown5 hgrow ho4
            go_wp2
            go_roundw
            case rel => exact ⟨i + 1, l ++ m, hin, by go_num, HNX.out, HF.out⟩
            case measure => clear HF HNX HALL HGK; simp [intOf]; omega
    · obtain rfl : i = n := Nat.le_antisymm hi' (Nat.not_lt.1 hin)
      have HT := Hid.mk' (tab_ok hl)
      have hiI : ¬ (i : Int) < (i : Int) := Int.lt_irrefl _
      go_wp2
      go_ret2
      rw [HT.out.1, HT.out.2]
      exact ⟨_, rfl, own_base hown (by omega), hB⟩
end Go.Proofs.YtkmehjikllilaaaDoor

-- Both Tables answer the same.
namespace Go.Proofs.YtkmehjikllilaaaDoor
open Go.ChangeShapes Go.WideShapes Go.ChangeAt Go.RowKit
set_option linter.unusedVariables false
set_option maxRecDepth 100000
theorem table_no1 (b : ByteArray) (w : World) (hM : Magic w) (hm : b.size ≤ maxLen) (hE : identE b ≠ 0) : Calls Tryd.prog 16 #[.string b] w fun r w' => r = .returned (.tuple #[.slice none 0 0, .int .i64 (identE b)]) ∧ Below w.heap.size w w' := by
  have HI := Hid.mk' (ident_no b w hM hm hE)
  have hen : (identE b != 0) = true := bne_iff_ne.2 hE
  generalize identE b = e at HI hen
  go_enter Tryd.func16, Tryd.ntmps16
  go_wp2_with (first | (go_at_call 20; refine (HI.out).mono ?_; rintro r w1 ⟨rfl, hb1⟩))
  go_ret2
  exact ⟨rfl, hb1⟩
theorem table_no2 (b : ByteArray) (n : Nat) (s : Nat → Sec) (e : Int) (w : World) (hM : Magic w) (hm : b.size ≤ maxLen) (hE : identE b = 0) (he : e ≠ 0) (hP : PSecs b n s e) : Calls Tryd.prog 16 #[.string b] w fun r w' => r = .returned (.tuple #[.slice none 0 0, .int .i64 e]) ∧ Below w.heap.size w w' := by
  have HI := Hid.mk' (ident_ok b w hM hm hE)
  have HP := Hid.mk' hP
  have hen : (e != 0) = true := bne_iff_ne.2 he
  clear hP
  generalize cls b = c at HI
  generalize ord b = o at HI
  go_enter Tryd.func16, Tryd.ntmps16
  go_wp2_with (first
    | (go_at_call 20; refine (HI.out).mono ?_; rintro r w1 ⟨rfl, hb1⟩; have hM1 := hM.kept hb1)
    | (go_at_call 21; refine (HP.out _ hM1).mono ?_; rintro r w2 ⟨v, rfl, hS, hb2⟩))
  go_ret2
  exact ⟨rfl, hb1.trans (hb2.mono hb1.size)⟩
theorem dtable_no (b : ByteArray) (n : Nat) (s : Nat → Sec) (e : Int) (w : World) (he : e ≠ 0) (hP : DSecs b n s e) : Calls Tryd.prog 14 #[.string b] w fun r w' => r = .returned (.tuple #[.slice none 0 0, .int .i64 e]) ∧ Below w.heap.size w w' := by
  have HP := Hid.mk' hP
  have hen : (e != 0) = true := bne_iff_ne.2 he
  clear hP
  go_enter Tryd.func14, Tryd.ntmps14
  go_wp2_with (first
    | (go_at_call 17; refine (HP.out _).mono ?_; rintro r w2 ⟨v, rfl, hS, hb2⟩))
  go_ret2
  exact ⟨rfl, hb2⟩
/-- what Table answers, of the program and of the document -/
def PTab (b : ByteArray) (l : List Sym) (e : Int) : Prop := ∀ w : World, Magic w → Calls Tryd.prog 16 #[.string b] w fun r w' => ∃ v, r = .returned (.tuple #[v, .int .i64 e]) ∧ w'.ownsRow w.heap.size 42 7 v l.length (symsV l) ∧ Below w.heap.size w w'
def DTab (b : ByteArray) (l : List Sym) (e : Int) : Prop := ∀ w : World, Calls Tryd.prog 14 #[.string b] w fun r w' => ∃ v, r = .returned (.tuple #[v, .int .i64 e]) ∧ w'.ownsRow w.heap.size 42 7 v l.length (symsV l) ∧ Below w.heap.size w w'
theorem tables_both (b : ByteArray) (hb : b.size ≤ 1048576) : ∃ l e, l.length ≤ 1717960704 ∧ (e ≠ 0 → l = []) ∧ PTab b l e ∧ DTab b l e := by
  have hm : b.size ≤ maxLen := by unfold maxLen; omega
  obtain ⟨n, s, e, hn, hsb, _, hP, hD, hH, hI⟩ := secs_both b hb
  by_cases he : e = 0
  case neg =>
    refine ⟨[], e, Nat.zero_le _, fun _ => rfl, fun w hM => ?_, fun w => ?_⟩
    · by_cases hE : identE b = 0
      · exact (table_no2 b n s e w hM hm hE he hP).mono fun r w' ⟨h1, h2⟩ => ⟨_, h1, World.ownsRow_nil _ _ _ _, h2⟩
      · rw [hI hE]
        exact (table_no1 b w hM hm hE).mono fun r w' ⟨h1, h2⟩ => ⟨_, h1, World.ownsRow_nil _ _ _ _, h2⟩
    · exact (dtable_no b n s e w he hD).mono fun r w' ⟨h1, h2⟩ => ⟨_, h1, World.ownsRow_nil _ _ _ _, h2⟩
  subst he
  obtain ⟨hE, x2, x3, x4, x5, x6, x7, hH⟩ := hH rfl
  have ho := ord_ok b hE
  have hlen (c : Nat) : (tabL b c (ord b) n s 0).length ≤ 1717960704 := by
    cases ht : tabOf b c (ord b) n s n with
    | error f => rw [(tab_err ht).2]; exact Nat.zero_le _
    | ok l =>
      rw [(tab_ok ht).2]
      have := tab_length hb n l ht
      omega
  have hnil (c : Nat) : tabE b c (ord b) n s 0 ≠ 0 → tabL b c (ord b) n s 0 = [] := fun h => by
    cases ht : tabOf b c (ord b) n s n with
    | error f => exact (tab_err ht).2
    | ok l => exact absurd (tab_ok ht).1 h
  rcases cls_ok b hE with hc | hc
  · rw [hc] at hH
    exact ⟨_, _, hlen 32, hnil 32, fun w hM => table_32 b n s w hM hb hE hc hn hsb hP, fun w => dtable_32 b n s (ord b) x2 x3 x4 x5 x6 x7 w hb ho hn hsb hD hH⟩
  · rw [hc] at hH
    exact ⟨_, _, hlen 64, hnil 64, fun w hM => table_64 b n s w hM hb hE hc hn hsb hP, fun w => dtable_64 b n s (ord b) x2 x3 x4 x5 x6 x7 w hb ho hn hsb hD hH⟩
end Go.Proofs.YtkmehjikllilaaaDoor

-- Which symbols are told, which are wanted: plain, and contracts.
namespace Go.Proofs.YtkmehjikllilaaaDoor
open Go.ChangeShapes Go.WideShapes Go.ChangeAt Go.RowKit
set_option linter.unusedVariables false
set_option maxRecDepth 100000
def offB (x : Sym) : Bool := ((x.bind : Int) == 1 || (x.bind : Int) == 2) && (x.sect : Int) != 0 && !x.name.toList.isEmpty
def needB (x : Sym) : Bool := (x.bind : Int) == 1 && (x.sect : Int) == 0 && !x.name.toList.isEmpty
set_option maxHeartbeats 1000000 in
theorem isOffered_c (xn : ByteArray) (xb xt xo xs xv xz : Nat) (w : World) : Calls Tryd.prog 13 #[.agg #[.string xn, .int .i64 (xb : Int), .int .i64 (xt : Int), .int .i64 (xo : Int), .int .i64 (xs : Int), .int .u64 (xv : Int), .int .u64 (xz : Int)]] w fun r w' => r = .returned (.bool (offB ⟨xn, xb, xt, xo, xs, xv, xz⟩)) ∧ Below w.heap.size w w' := by
  have hbx : (w.alloc (.cells #[.string xn, .int .i64 (xb : Int), .int .i64 (xt : Int), .int .i64 (xo : Int), .int .i64 (xs : Int), .int .u64 (xv : Int), .int .u64 (xz : Int)] 42)).heap[w.heap.size]? = some (.cells #[.string xn, .int .i64 (xb : Int), .int .i64 (xt : Int), .int .i64 (xo : Int), .int .i64 (xs : Int), .int .u64 (xv : Int), .int .u64 (xz : Int)] 42 (0, 0)) := heap_alloc_new w _
  have hB : Below w.heap.size w (w.alloc (.cells #[.string xn, .int .i64 (xb : Int), .int .i64 (xt : Int), .int .i64 (xo : Int), .int .i64 (xs : Int), .int .u64 (xv : Int), .int .u64 (xz : Int)] 42)) := Below.alloc (Below.refl _ _) (Nat.le_refl _) _
  have hw : ∀ z : Bool, z = offB ⟨xn, xb, xt, xo, xs, xv, xz⟩ → z = offB ⟨xn, xb, xt, xo, xs, xv, xz⟩ := fun _ h => h
  clear hbx
  go_enter Tryd.func13, Tryd.ntmps13
  go_wp2
  all_goals
    go_ret
    refine ⟨congrArg (fun z => Ending.returned (Value.bool z)) ?_, Below.alloc (Below.refl _ _) (Nat.le_refl _) _⟩
    clear hw hB
    unfold offB
    simp_all
set_option maxHeartbeats 1000000 in
theorem told_c (xn : ByteArray) (xb xt xo xs xv xz : Nat) (w : World) : Calls Tryd.prog 15 #[.agg #[.string xn, .int .i64 (xb : Int), .int .i64 (xt : Int), .int .i64 (xo : Int), .int .i64 (xs : Int), .int .u64 (xv : Int), .int .u64 (xz : Int)]] w fun r w' => r = .returned (.bool (offB ⟨xn, xb, xt, xo, xs, xv, xz⟩)) ∧ Below w.heap.size w w' := by
  have hbx : (w.alloc (.cells #[.string xn, .int .i64 (xb : Int), .int .i64 (xt : Int), .int .i64 (xo : Int), .int .i64 (xs : Int), .int .u64 (xv : Int), .int .u64 (xz : Int)] 42)).heap[w.heap.size]? = some (.cells #[.string xn, .int .i64 (xb : Int), .int .i64 (xt : Int), .int .i64 (xo : Int), .int .i64 (xs : Int), .int .u64 (xv : Int), .int .u64 (xz : Int)] 42 (0, 0)) := heap_alloc_new w _
  have hB : Below w.heap.size w (w.alloc (.cells #[.string xn, .int .i64 (xb : Int), .int .i64 (xt : Int), .int .i64 (xo : Int), .int .i64 (xs : Int), .int .u64 (xv : Int), .int .u64 (xz : Int)] 42)) := Below.alloc (Below.refl _ _) (Nat.le_refl _) _
  have hw : ∀ z : Bool, z = offB ⟨xn, xb, xt, xo, xs, xv, xz⟩ → z = offB ⟨xn, xb, xt, xo, xs, xv, xz⟩ := fun _ h => h
  clear hbx
  go_enter Tryd.func15, Tryd.ntmps15
  go_wp2
  all_goals
    go_ret
    refine ⟨congrArg (fun z => Ending.returned (Value.bool z)) ?_, Below.alloc (Below.refl _ _) (Nat.le_refl _) _⟩
    clear hw hB
    unfold offB
    simp_all
end Go.Proofs.YtkmehjikllilaaaDoor

-- The statement's sameSymbols: contract.
namespace Go.Proofs.YtkmehjikllilaaaDoor
open Go.ChangeShapes Go.WideShapes Go.ChangeAt Go.RowKit
set_option linter.unusedVariables false
set_option maxRecDepth 100000
theorem eqSym (xn : ByteArray) (xb xt xo xs xv xz : Nat) (w : World) : (Op.equalIn 10000 42 (.agg #[.string xn, .int .i64 (xb : Int), .int .i64 (xt : Int), .int .i64 (xo : Int), .int .i64 (xs : Int), .int .u64 (xv : Int), .int .u64 (xz : Int)]) (.agg #[.string xn, .int .i64 (xb : Int), .int .i64 (xt : Int), .int .i64 (xo : Int), .int .i64 (xs : Int), .int .u64 (xv : Int), .int .u64 (xz : Int)])).run Tryd.prog w = .ok true w := by
  have u3 := Tryd.underlying3
  have a3 := Tryd.isAgg3
  have z3 := Tryd.sizeOf3
  have u4 := Tryd.underlying40
  have a4 := Tryd.isAgg40
  have z4 := Tryd.sizeOf40
  have u9 := Tryd.underlying9
  have a9 := Tryd.isAgg9
  have z9 := Tryd.sizeOf9
  have hS : Tryd.prog.underlying 42 = some (.struct (Tryd.prog.fieldsOf 42)) := by kernel_rfl
  rw [show (10000 : Nat) = 9999 + 1 from rfl, run_equalIn_agg w 9999 42 _ _ hS (by kernel_rfl)]
  simp only [Program.fieldsOf, Tryd.underlying42]
  go_simp
theorem symsV_get : ∀ (l : List Sym) (i m : Nat) (x : Sym), l[i]? = some x → m < 7 → (symsV l)[i * 7 + m]? = (symV x)[m]?
  | [], i, m, x, h, _ => by simp at h
  | y :: l, 0, m, x, h, hm => by
    obtain rfl : y = x := by simpa using h
    rw [symsV_cons, List.getElem?_append_left (by show 0 * 7 + m < 7; omega), Nat.zero_mul, Nat.zero_add]
  | y :: l, i + 1, m, x, h, hm => by
    have hl : (symV y).length = 7 := rfl
    rw [symsV_cons, List.getElem?_append_right (by rw [hl]; omega), hl, show (i + 1) * 7 + m - 7 = i * 7 + m by omega]
    exact symsV_get l i m x (by simpa using h) hm
theorem own_syms {w : World} {B : Nat} {v : Value} {l : List Sym} (h : w.ownsRow B 42 7 v l.length (symsV l)) : ∃ ao c, v = .slice ao l.length c ∧ (0 < l.length → ∃ g, ao = some ⟨g, 0, none⟩ ∧ B ≤ g ∧ ∀ i m x, l[i]? = some x → m < 7 → w.cell? ⟨g, i * 7 + m, none⟩ = (symV x)[m]?) := by
  rcases h.2 with ⟨hv, hn⟩ | ⟨g, cap, cur, hv, hb, hg, h1, h2, h3, h4⟩
  · rw [hn]
    exact ⟨none, 0, hv, fun h => absurd h (Nat.lt_irrefl _)⟩
  · refine ⟨_, _, hv, fun _ => ⟨g, rfl, hb, fun i m x hx hm => ?_⟩⟩
    have hi := (List.getElem?_eq_some_iff.1 hx).1
    rw [cell_of_row _ _ _ _ _ _ hg, ← symsV_get l i m x hx hm, ← h4, List.getElem?_take, if_pos (by omega), Array.getElem?_toList]
end Go.Proofs.YtkmehjikllilaaaDoor

-- syms: the names that a function literal gathers: contracts.
namespace Go.Proofs.YtkmehjikllilaaaDoor
open Go.ChangeShapes Go.WideShapes Go.ChangeAt Go.RowKit
set_option linter.unusedVariables false
set_option maxRecDepth 100000
/-- nothing below B has turned but block k -/
structure Kz (k B : Nat) (w w' : World) : Prop where
  os : w'.os = w.os
  tape : w'.tape = w.tape
  output : w'.output = w.output
  size : w.heap.size ≤ w'.heap.size
  block : ∀ j, j ≠ k → j < B → w'.heap[j]? = w.heap[j]?
theorem Kz.refl (k B : Nat) (w : World) : Kz k B w w := ⟨rfl, rfl, rfl, Nat.le_refl _, fun _ _ _ => rfl⟩
theorem Kz.of {k B : Nat} {w w' : World} (h : Below B w w') : Kz k B w w' := ⟨h.os, h.tape, h.output, h.size, fun j _ hj => h.block j hj⟩
theorem Kz.trans {k B : Nat} {a b c : World} (h : Kz k B a b) (g : Kz k B b c) : Kz k B a c :=
  ⟨g.os.trans h.os, g.tape.trans h.tape, g.output.trans h.output, Nat.le_trans h.size g.size, fun j h1 h2 => (g.block j h1 h2).trans (h.block j h1 h2)⟩
theorem Kz.set {k B : Nat} {a w : World} (h : Kz k B a w) (i : Nat) (v : Value) : Kz k B a (w.setCell ⟨k, i, none⟩ v) := by
  have hb : Below 0 w (w.setCell ⟨k, i, none⟩ v) := Below.setCell (Below.refl _ _) (Nat.zero_le _) _
  exact ⟨hb.os.trans h.os, hb.tape.trans h.tape, hb.output.trans h.output, Nat.le_trans h.size hb.size, fun j h1 h2 => (Below.heap_setCell w _ _ j h1).trans (h.block j h1 h2)⟩
theorem Kz.below {k B C : Nat} {w w' : World} (h : Kz k B w w') (hk : C ≤ k) (hB : C ≤ B) : Below C w w' := ⟨h.os, h.tape, h.output, h.size, fun j hj => h.block j (by omega) (by omega)⟩
/-- a list of names in memory, of its own -/
def NmAt (B c : Nat) (k : List ByteArray) (w : World) : Prop := ∃ v, w.heap[c]? = some (.cells #[v] 34 (0, 0)) ∧ w.ownsRow B 9 1 v k.length (k.map .string)
theorem infoStr : (Tryd.prog.info? 9).map (fun i => (i.zero, i.size, i.bytes)) = some (some (.string ⟨#[]⟩), 1, 16) := by kernel_rfl
set_option maxHeartbeats 1000000 in
theorem clo_off (xn : ByteArray) (xb xt xo xs xv xz : Nat) (c B : Nat) (k : List ByteArray) (w : World) (hN : NmAt B c k w) (hcB : c < B) (hB : B ≤ w.heap.size) (hk : k.length ≤ 1717960704) :
    Calls Tryd.prog 12 #[.agg #[.string xn, .int .i64 (xb : Int), .int .i64 (xt : Int), .int .i64 (xo : Int), .int .i64 (xs : Int), .int .u64 (xv : Int), .int .u64 (xz : Int)], .pointer (some ⟨c, 0, none⟩)] w fun r w' => r = .returned (.tuple #[]) ∧ NmAt B c (if offB ⟨xn, xb, xt, xo, xs, xv, xz⟩ then k ++ [xn] else k) w' ∧ Kz c B w w' := by
  obtain ⟨v, hc, hown⟩ := hN
  have hbx : (w.alloc (.cells #[.string xn, .int .i64 (xb : Int), .int .i64 (xt : Int), .int .i64 (xo : Int), .int .i64 (xs : Int), .int .u64 (xv : Int), .int .u64 (xz : Int)] 42)).heap[w.heap.size]? = some (.cells #[.string xn, .int .i64 (xb : Int), .int .i64 (xt : Int), .int .i64 (xo : Int), .int .i64 (xs : Int), .int .u64 (xv : Int), .int .u64 (xz : Int)] 42 (0, 0)) := heap_alloc_new w _
  have hzb : (w.alloc (.cells #[.string xn, .int .i64 (xb : Int), .int .i64 (xt : Int), .int .i64 (xo : Int), .int .i64 (xs : Int), .int .u64 (xv : Int), .int .u64 (xz : Int)] 42)).heap.size = w.heap.size + 1 := size_alloc _ _
  have hB0 : Below w.heap.size w (w.alloc (.cells #[.string xn, .int .i64 (xb : Int), .int .i64 (xt : Int), .int .i64 (xo : Int), .int .i64 (xs : Int), .int .u64 (xv : Int), .int .u64 (xz : Int)] 42)) := Below.alloc (Below.refl _ _) (Nat.le_refl _) _
  have HP : Hid (∀ w : World, Calls Tryd.prog 13 #[.agg #[.string xn, .int .i64 (xb : Int), .int .i64 (xt : Int), .int .i64 (xo : Int), .int .i64 (xs : Int), .int .u64 (xv : Int), .int .u64 (xz : Int)]] w fun r w' => r = .returned (.bool (offB ⟨xn, xb, xt, xo, xs, xv, xz⟩)) ∧ Below w.heap.size w w') := fun w => isOffered_c xn xb xt xo xs xv xz w
  obtain ⟨i0, hi, hz0, hz1, hz2⟩ := info_parts' infoStr
  have HK := Hid.mk' (And.intro hB0 (And.intro hzb (And.intro hc hown)))
  clear hB0 hzb hc hown
  cases hp : offB ⟨xn, xb, xt, xo, xs, xv, xz⟩ with
  | false =>
    rw [hp] at HP
    go_enter Tryd.func12, Tryd.ntmps12
    go_wp2_with (first
      | (refine wpList_load_row rfl _ _ rfl w.heap.size rfl _ _ _ _ hbx Tryd.underlying42 rfl (by kernel_rfl) ?_)
      | (go_at_call 13; refine (HP.out _).mono ?_; rintro r w1 ⟨rfl, hb1⟩))
    go_end0
    obtain ⟨hB0, hzb, hc, hown⟩ := HK.out
    have hb : Below w.heap.size w w1 := hB0.trans (hb1.mono (by rw [hzb]; exact Nat.le_succ _))
    exact ⟨rfl, ⟨v, (hb.block c (by omega)).trans hc, own_below hown hb⟩, Kz.of (hb.mono hB)⟩
  | true =>
    rw [hp] at HP
    go_enter Tryd.func12, Tryd.ntmps12
    go_wp2_with (first
      | (refine wpList_load_row rfl _ _ rfl w.heap.size rfl _ _ _ _ hbx Tryd.underlying42 rfl (by kernel_rfl) ?_))
    go_at_call 13
    refine (HP.out _).mono ?_
    rintro r w1 ⟨rfl, hb1⟩
    obtain ⟨hB0, hzb, hc, hown⟩ := HK.out
    have hb : Below w.heap.size w w1 := hB0.trans (hb1.mono (by rw [hzb]; exact Nat.le_succ _))
    have hbx1 : w1.heap[w.heap.size]? = some (.cells #[.string xn, .int .i64 (xb : Int), .int .i64 (xt : Int), .int .i64 (xo : Int), .int .i64 (xs : Int), .int .u64 (xv : Int), .int .u64 (xz : Int)] 42 (0, 0)) := (hb1.block _ (by rw [hzb]; exact Nat.lt_succ_self _)).trans hbx
    have hc1 : w1.heap[c]? = some (.cells #[v] 34 (0, 0)) := (hb.block c (by omega)).trans hc
    have q0 : w1.cell? ⟨c, 0, none⟩ = some v := cell_of_row _ _ 0 _ _ _ hc1
    have q1 : w1.cell? ⟨w.heap.size, 0, none⟩ = some (.string xn) := cell_of_row _ _ 0 _ _ _ hbx1
    have hOW := (own_below hown hb).alloc (.cells #[.string xn] 9)
    have hB1 : B ≤ w1.heap.size := Nat.le_trans hB hb.size
    have hc3 : k.length + 1 ≤ maxLen := by unfold maxLen; omega
    have hc4 : (k.length + 1) * 16 ≤ 140737488355328 := by omega
    have HK1 := Hid.mk' (And.intro hb (And.intro hc1 (And.intro hown hB1)))
    clear HK hB0 hzb hc hown hb hc1 hbx hbx1 hb1 hB1 HP
    go_wp2_with (first
      | (at_builtin; refine wpList_append_own _ rfl _ _ 34 rfl B 9 i0 (.string ⟨#[]⟩) 1 16 Tryd.underlying34 hi hz0 hz1 hz2 rfl (by decide) _ _ _ rfl hOW ⟨w1.heap.size, 0, none⟩ 1 1 [.string xn] rfl rfl ?c1 (by intro u hu; simp at hu; subst hu; rfl) ?c3 ?c4 ?c5 ?_))
    case c1 =>
      intro q u hu
      rw [Addr.add_mid, Nat.zero_add, cell_of_row _ _ _ _ _ _ (heap_alloc_new w1 _)]
      simpa using hu
    case c3 => exact hc3
    case c4 => exact hc4
    case c5 => rw [size_alloc]; exact Nat.le_succ_of_le HK1.out.2.2.2
    intro v' w5 hown5 hgrow _
    obtain ⟨ao5, n5, c5, rfl⟩ : ∃ a n c, v' = Value.slice a n c := by rcases hown5.2 with ⟨h, _⟩ | ⟨g, cap, cur, h, _⟩ <;> exact ⟨_, _, _, h⟩
    obtain ⟨hb, hc1, hown, hB1⟩ := HK1.out
    have hrow : ∀ q, v.ownBlock = some q → B ≤ q := fun q hq => (hown.lt q hq).1
    have hbR : Below B w1 w5 := Below.grown (Below.alloc (Below.refl _ _) hB1 _) hgrow (by rw [size_alloc]; omega) hrow
    have hk5 : w5.heap[c]? = some (.cells #[v] 34 (0, 0)) := (hbR.block c hcB).trans hc1
    have q5 : w5.cell? ⟨c, 0, none⟩ = some v := cell_of_row _ _ 0 _ _ _ hk5
    have z5 : w5.frozen? ⟨c, 0, none⟩ = false := frozen_of_row _ _ 0 _ _ hk5
    have HK5 := Hid.mk' (And.intro hb (And.intro hbR (And.intro hk5 hown5)))
    clear hb hc1 hown hB1 hrow hbR hk5 hown5 hgrow HK1 hOW
    go_wp2
    go_end0
    obtain ⟨hb, hbR, hk5, hown5⟩ := HK5.out
    have hkz : Kz c B w5 (w5.setCell ⟨c, 0, none⟩ (.slice ao5 n5 c5)) := (Kz.refl _ _ _).set _ _
    refine ⟨rfl, ⟨.slice ao5 n5 c5, (set_row _ hk5).trans rfl, ?_⟩, ((Kz.of (hb.mono hB)).trans (Kz.of hbR)).trans hkz⟩
    rw [List.length_append, List.map_append]
    have hh : (w5.setCell ⟨c, 0, none⟩ (.slice ao5 n5 c5)).ownsRow B 9 1 (.slice ao5 n5 c5) (k.length + 1) (k.map .string ++ [.string xn]) := by
      refine ⟨hown5.1, ?_⟩
      rcases hown5.2 with h1 | ⟨g, cap, cur, h1, h2, h3, h4⟩
      · exact Or.inl h1
      · exact Or.inr ⟨g, cap, cur, h1, h2, (Below.heap_setCell w5 _ _ g (by show g ≠ c; omega)).trans h3, h4⟩
    exact hh
end Go.Proofs.YtkmehjikllilaaaDoor

-- syms.each, Globals and Needs: contracts.
namespace Go.Proofs.YtkmehjikllilaaaDoor
open Go.ChangeShapes Go.WideShapes Go.ChangeAt Go.RowKit
set_option linter.unusedVariables false
set_option maxRecDepth 100000
theorem take_step (l : List Sym) (f : Sym → Bool) (i : Nat) (x : Sym) (h : l[i]? = some x) : ((l.take (i + 1)).filter f).map Sym.name = if f x then ((l.take i).filter f).map Sym.name ++ [x.name] else ((l.take i).filter f).map Sym.name := by
  obtain ⟨hi, hx⟩ := List.getElem?_eq_some_iff.1 h
  rw [List.take_succ_eq_append_getElem hi, List.filter_append, List.map_append, hx]
  by_cases hf : f x = true
  · rw [if_pos hf, List.filter_cons_of_pos hf]; rfl
  · rw [if_neg hf, List.filter_cons_of_neg hf]; simp
theorem own_slice {w : World} {B : Nat} {e : TypeId} {z : Nat} {v : Value} {n : Nat} {xs : List Value} (h : w.ownsRow B e z v n xs) : ∃ a m c, v = Value.slice a m c := by
  rcases h.2 with ⟨h, _⟩ | ⟨g, cap, cur, h, _⟩
  · exact ⟨_, _, _, h⟩
  · exact ⟨_, _, _, h⟩
theorem NmAt.kept {B c : Nat} {k : List ByteArray} {w w' : World} (h : NmAt B c k w) (hb : Below w.heap.size w w') : NmAt B c k w' := by
  obtain ⟨v, h1, h2⟩ := h
  exact ⟨v, (hb.block c (Array.getElem?_eq_some_iff.1 h1).1).trans h1, own_below h2 hb⟩
set_option maxHeartbeats 1000000 in
theorem each_off (b : ByteArray) (l : List Sym) (e : Int) (hT : PTab b l e) (hne : e ≠ 0 → l = []) (c : Nat) (w : World) (hM : Magic w) (hc : w.heap[c]? = some (.cells #[.slice none 0 0] 34 (0, 0))) (hl : l.length ≤ 1717960704) :
    Calls Tryd.prog 11 #[.string b, (.func (.func 12) #[] #[.pointer (some ⟨c, 0, none⟩)])] w fun r w' => r = .returned (.tuple #[]) ∧ NmAt w.heap.size c ((l.filter offB).map Sym.name) w' ∧ Kz c w.heap.size w w' := by
  have HT := Hid.mk' (hT w hM)
  have hcl : c < w.heap.size := (Array.getElem?_eq_some_iff.1 hc).1
  clear hT
  by_cases he : e = 0
  case neg =>
    have hen : (e != 0) = true := bne_iff_ne.2 he
    obtain rfl := hne he
    clear hne
    go_enter Tryd.func11, Tryd.ntmps11
    go_wp2_with (first | (go_at_call 16; refine (HT.out).mono ?_; rintro r w1 ⟨v1, rfl, hs1, hb1⟩))
    exact bodyPost_ret (results_none rfl _ _ _) rfl ⟨rfl, ⟨_, (hb1.block c hcl).trans hc, World.ownsRow_nil _ _ _ _⟩, Kz.of hb1⟩
  subst he
  clear hne
  go_enter Tryd.func11, Tryd.ntmps11
  go_wp2_with (first | (go_at_call 16; refine (HT.out).mono ?_; rintro r w1 ⟨v1, rfl, hs1, hb1⟩; obtain ⟨ao, cp, rfl, hA⟩ := own_syms hs1))
  have HA := Hid.mk' hA
  have hsz := hb1.size
  have hc1 : w1.heap[c]? = some (.cells #[.slice none 0 0] 34 (0, 0)) := (hb1.block c hcl).trans hc
  have HB1 := Hid.mk' (And.intro hb1 (And.intro hcl hsz))
  obtain ⟨n, hln⟩ : ∃ n, l.length = n := ⟨_, rfl⟩
  have HLN := Hid.mk' hln
  rw [hln] at hl ⊢
  have h0 : NmAt w1.heap.size c (((l.take 0).filter offB).map Sym.name) w1 := ⟨_, hc1, World.ownsRow_nil _ _ _ _⟩
  clear hA hs1 hb1 hc hc1 HT hM hln
  go_loopw [17] (fun a wx => ∃ i : Nat, i ≤ n ∧ a = .int .i64 i ∧ NmAt w1.heap.size c (((l.take i).filter offB).map Sym.name) wx ∧ Kz c w1.heap.size w1 wx) (fun a _ => n - (intOf a).toNat)
  case atStart => exact ⟨0, Nat.zero_le _, rfl, h0, Kz.refl _ _ _⟩
  case round =>
    clear h0
    obtain ⟨i, hi, rfl, hN, hK⟩ := hrel
    by_cases hin : i < n
    · have hlt : i < l.length := by rw [HLN.out]; exact hin
      have hx : l[i]? = some l[i] := List.getElem?_eq_getElem hlt
      obtain ⟨g, rfl, hgw, hg⟩ := HA.out (by rw [HLN.out]; omega)
      have hkl : (((l.take i).filter offB).map Sym.name).length ≤ 1717960704 := by
        rw [List.length_map]
        refine Nat.le_trans (List.length_filter_le _ _) ?_
        rw [List.length_take, HLN.out]
        omega
      have hts := take_step l offB i _ hx
      generalize l[i] = x at hx hts
      obtain ⟨xn, xb, xt, xo, xs, xv, xz⟩ := x
      have hgB : g < w1.heap.size := lt_of_cell ((hg i 0 _ hx (by omega)).trans rfl)
      have cw (m : Nat) : wr.cell? ⟨g, m, none⟩ = w1.cell? ⟨g, m, none⟩ := World.cell?_of_block (w := w1) (hK.block g (by have := HB1.out.2.1; show g ≠ c; omega) hgB)
      have a0 : wr.cell? ⟨g, i * 7, none⟩ = some (.string xn) := by rw [cw]; exact hg i 0 _ hx (by omega)
      have a1 : wr.cell? ⟨g, i * 7 + 1, none⟩ = some (.int .i64 (xb : Int)) := by rw [cw]; exact hg i 1 _ hx (by omega)
      have a2 : wr.cell? ⟨g, i * 7 + 2, none⟩ = some (.int .i64 (xt : Int)) := by rw [cw]; exact hg i 2 _ hx (by omega)
      have a3 : wr.cell? ⟨g, i * 7 + 3, none⟩ = some (.int .i64 (xo : Int)) := by rw [cw]; exact hg i 3 _ hx (by omega)
      have a4 : wr.cell? ⟨g, i * 7 + 4, none⟩ = some (.int .i64 (xs : Int)) := by rw [cw]; exact hg i 4 _ hx (by omega)
      have a5 : wr.cell? ⟨g, i * 7 + 5, none⟩ = some (.int .u64 (xv : Int)) := by rw [cw]; exact hg i 5 _ hx (by omega)
      have a6 : wr.cell? ⟨g, i * 7 + 6, none⟩ = some (.int .u64 (xz : Int)) := by rw [cw]; exact hg i 6 _ hx (by omega)
      have hiI : (i : Int) < (n : Int) := Int.ofNat_lt.2 hin
      have hi0 : (0 : Int) ≤ (i : Int) := Int.natCast_nonneg _
      have hbx : (wr.alloc (.cells #[.string xn, .int .i64 (xb : Int), .int .i64 (xt : Int), .int .i64 (xo : Int), .int .i64 (xs : Int), .int .u64 (xv : Int), .int .u64 (xz : Int)] 42)).heap[wr.heap.size]? = some (.cells #[.string xn, .int .i64 (xb : Int), .int .i64 (xt : Int), .int .i64 (xo : Int), .int .i64 (xs : Int), .int .u64 (xv : Int), .int .u64 (xz : Int)] 42 (0, 0)) := heap_alloc_new wr _
      have hbA : Below wr.heap.size wr (wr.alloc (.cells #[.string xn, .int .i64 (xb : Int), .int .i64 (xt : Int), .int .i64 (xo : Int), .int .i64 (xs : Int), .int .u64 (xv : Int), .int .u64 (xz : Int)] 42)) := Below.alloc (Below.refl _ _) (Nat.le_refl _) _
      have hcc : c < w1.heap.size := Nat.lt_of_lt_of_le HB1.out.2.1 HB1.out.2.2
      have HC := Hid.mk' (clo_off xn xb xt xo xs xv xz c w1.heap.size _ (wr.alloc (.cells #[.string xn, .int .i64 (xb : Int), .int .i64 (xt : Int), .int .i64 (xo : Int), .int .i64 (xs : Int), .int .u64 (xv : Int), .int .u64 (xz : Int)] 42)) (hN.kept hbA) hcc (Nat.le_trans hK.size hbA.size) hkl)
      have HTS := Hid.mk' hts
      have HKZ := Hid.mk' (And.intro hK (Kz.of (k := c) (hbA.mono hK.size)))
      clear hg hx cw hgB hgw hkl hts hN hK hbA hlt
      go_wp2_with (first
        | (refine wpList_load_row rfl _ _ rfl wr.heap.size rfl _ _ _ _ hbx Tryd.underlying42 rfl (by kernel_rfl) ?_)
        | (go_at_call 12; refine (HC.out).mono ?_; rintro r w4 ⟨rfl, hN4, hK4⟩))
      have HF : Hid (NmAt w1.heap.size c (((l.take (i + 1)).filter offB).map Sym.name) w4 ∧ Kz c w1.heap.size w1 w4) := ⟨by rw [HTS.out]; exact hN4, (HKZ.out.1.trans HKZ.out.2).trans hK4⟩
      clear hN4 hK4
      go_roundw
      case rel => exact ⟨i + 1, hin, by go_num, HF.out⟩
      case measure => clear HF HTS HKZ HC HA HB1; simp [intOf]; omega
    · obtain rfl : i = n := Nat.le_antisymm hi (Nat.not_lt.1 hin)
      have hiI : ¬ (i : Int) < (i : Int) := Int.lt_irrefl _
      have HF := Hid.mk' (And.intro hN hK)
      clear hN hK
      go_wp2
      go_end0
      obtain ⟨hN, hK⟩ := HF.out
      obtain ⟨hb1, hcl, hsz⟩ := HB1.out
      rw [← HLN.out, List.take_length] at hN
      obtain ⟨v, h1, h2⟩ := hN
      refine ⟨rfl, ⟨v, h1, own_base h2 hsz⟩, (Kz.of hb1).trans ⟨hK.os, hK.tape, hK.output, hK.size, fun j h1 h2 => hK.block j h1 (by omega)⟩⟩
set_option maxHeartbeats 1000000 in
theorem Globals_c (b : ByteArray) (l : List Sym) (e : Int) (hT : PTab b l e) (hne : e ≠ 0 → l = []) (hl : l.length ≤ 1717960704) (w : World) (hM : Magic w) :
    Calls Tryd.prog 8 #[.string b] w fun r w' => ∃ v, r = .returned v ∧ w'.ownsRow w.heap.size 9 1 v ((l.filter offB).map Sym.name).length (((l.filter offB).map Sym.name).map .string) ∧ Below w.heap.size w w' := by
  have hmf : ∀ (fn : Fn) (first cap : Array Value) (w : World), (Instr.makeFunc fn first cap).run Tryd.prog w = .ok (.func fn first cap) w := fun _ _ _ _ => rfl
  have hM1 : Magic (w.alloc (.cells #[.slice none 0 0] 34)) := hM.kept (Below.alloc (Below.refl _ _) (Nat.le_refl _) _)
  have HE := Hid.mk' (each_off b l e hT hne w.heap.size _ hM1 (heap_alloc_new w _) hl)
  clear hT hne
  go_enter Tryd.func8, Tryd.ntmps8
  go_wp2_with (first
    | (go_at_call 11; refine (HE.out).mono ?_; rintro r w1 ⟨rfl, ⟨v, hv, hown⟩, hK⟩; obtain ⟨ao5, n5, c5, rfl⟩ := own_slice hown; have q0 : w1.cell? ⟨w.heap.size, 0, none⟩ = some (.slice ao5 n5 c5) := cell_of_row _ _ 0 _ _ _ hv; have HF := Hid.mk' (And.intro hown hK); clear hown hK hv))
  go_ret
  obtain ⟨hown, hK⟩ := HF.out
  rw [size_alloc] at hown hK
  exact ⟨_, rfl, own_base hown (Nat.le_succ _), (Below.alloc (Below.refl _ _) (Nat.le_refl _) _).trans (hK.below (Nat.le_refl _) (Nat.le_succ _))⟩
end Go.Proofs.YtkmehjikllilaaaDoor
