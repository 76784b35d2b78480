import Derived.Test.YtaeigacinefhnabDoorM10
import Derived.Test.YtaeigacinefhnabDoorM3
import Derived.Test.YtaeigacinefhnabDoorM5
import Derived.Test.YtaeigacinefhnabDoorM2
import Derived.Deep.RegionHeld3
import Derived.Deep.RegionWith

-- The document's one by the plain words, class 32: contract.
namespace Go.Proofs.YtaeigacinefhnabDoor
open Go.ChangeShapes Go.WideShapes Go.ChangeAt Go.RowKit
set_option linter.unusedVariables false
set_option maxRecDepth 100000
theorem strs_ne_32 {b : ByteArray} {n : Nat} {s : Nat → Sec} {x : Sec} {e : Int} (h : strsOf b n s x = .error e) : e ≠ 0 := by
  unfold strsOf at h
  split at h
  · split at h
    · cases h; decide
    · cases h
  · cases h; decide
theorem open_strs_32 {b : ByteArray} {n : Nat} {s : Nat → Sec} {x : Sec} {t : ByteArray} (h7 : x.en = 16) (h6 : x.sz % 16 = 0) (hc : cont b x = some t) : openOf b 32 n s x = match strsOf b n s x with | .error e => .error e | .ok names => .ok (t, names) := by
  unfold openOf strsOf
  rw [if_pos ⟨h7, h6⟩, hc]
  by_cases h : x.li < n ∧ (s x.li).ty = 3
  · simp only [if_pos h]
    cases cont b (s x.li) <;> rfl
  · simp only [if_neg h]
/-- what one answers, by the plain words -/
def OneC32 (b : ByteArray) (o : Int) (n : Nat) (s : Nat → Sec) (x : Sec) (w : World) (r : Ending) (w' : World) : Prop :=
  Below w.heap.size w w' ∧ ((∃ e, oneOf b 32 o n s x = .error e ∧ r = .returned (.tuple #[.slice none 0 0, .int .i64 e])) ∨ (∃ l v, oneOf b 32 o n s x = .ok l ∧ r = .returned (.tuple #[v, .int .i64 0]) ∧ w'.ownsRow w.heap.size 61 7 v l.length (symsV l)))
theorem one_32 (b : ByteArray) (B n : Nat) (v : Value) (s : Nat → Sec) (x : Sec) (o h2 h3 h4 h5 h6 h7 : Int) (w : World) (hS : SecsIn B w v n s) (hn : n ≤ 26214) (hB : SecB s) (hb : b.size ≤ 1048576) (ho : o = 0 ∨ o = 1) (hx : x.off < 18446744073709551616 ∧ x.sz < 18446744073709551616) (hx1 : x.ty = 2) :
    Calls Tryd.prog 47 #[.string b, .agg #[.int .i64 32, .int .i64 o, .int .i64 h2, .int .i64 h3, .int .u64 h4, .int .i64 h5, .int .i64 h6, .int .i64 h7], v, .agg x.v] w (OneC32 b o n s x w) := by
  have hm : b.size ≤ maxLen := by unfold maxLen; omega
  obtain ⟨x0, x1, x2, x3, x4, x5, x6, x7⟩ := x
  by_cases h7' : x7 = 16
  case neg =>
    refine (one_55a_32 b v o h2 h3 h4 h5 h6 h7 x0 x1 x2 x3 x4 x5 x6 x7 w h7').mono fun r w' ⟨h1, h2⟩ => ⟨h2, Or.inl ⟨55, one_err ?_, h1⟩⟩
    unfold openOf
    rw [if_neg]
    intro h
    exact h7' h.1
  subst h7'
  by_cases h6' : x6 % 16 = 0
  case neg =>
    refine (one_55b_32 b v o h2 h3 h4 h5 h6 h7 x0 x1 x2 x3 x4 x5 x6 w hx.2 h6').mono fun r w' ⟨h1, h2⟩ => ⟨h2, Or.inl ⟨55, one_err ?_, h1⟩⟩
    unfold openOf
    rw [if_neg]
    intro h
    exact h6' h.2
  cases hc : cont b ⟨x0, x1, x2, x3, x4, x5, x6, 16⟩ with
  | none =>
    refine (one_54_32 b v o h2 h3 h4 h5 h6 h7 x0 x1 x2 x3 x4 x5 x6 w hx.2 h6' (fun w => dcont_no b _ hm hx hc w)).mono fun r w' ⟨h1, h2⟩ => ⟨h2, Or.inl ⟨54, one_err ?_, h1⟩⟩
    unfold openOf
    rw [if_pos ⟨rfl, h6'⟩, hc]
  | some t =>
    have hop := open_strs_32 (n := n) (s := s) (x := ⟨x0, x1, x2, x3, x4, x5, x6, 16⟩) rfl h6' hc
    have hst (wx : World) (hbx : Below w.heap.size w wx) := strings_c b B n v s ⟨x0, x1, x2, x3, x4, x5, x6, 16⟩ wx (hS.kept hbx) hn hB hm
    cases hss : strsOf b n s ⟨x0, x1, x2, x3, x4, x5, x6, 16⟩ with
    | error e =>
      rw [hss] at hop
      refine (one_str_32 b t e v o h2 h3 h4 h5 h6 h7 x0 x1 x2 x3 x4 x5 x6 w hx.2 h6' (strs_ne_32 hss) (fun w => dcont_ok b t _ hm hc w) (fun wx hbx => (hst wx hbx).mono fun r w' ⟨h1, h2⟩ => ?_)).mono fun r w' ⟨h1, h2⟩ => ⟨h2, Or.inl ⟨e, one_err hop, h1⟩⟩
      rcases h2 with ⟨e', h3, h4⟩ | ⟨t', h3, h4⟩
      · rw [hss] at h3
        obtain rfl := Except.error.inj h3
        exact ⟨h4, h1⟩
      · rw [hss] at h3; cases h3
    | ok names =>
      rw [hss] at hop
      obtain ⟨hz1, hz2, hz3⟩ := open_size hop hx1 hb
      have hzL : t.size = t.size / 16 * 16 := by
        have h3 : t.size % 16 = 0 := hz3
        omega
      refine (one_go_32 b t names (t.size / 16) v o h2 h3 h4 h5 h6 h7 x0 x1 x2 x3 x4 x5 x6 w hx.2 h6' hz1 hz2 ho hzL (fun w => dcont_ok b t _ hm hc w) (fun wx hbx => (hst wx hbx).mono fun r w' ⟨h1, h2⟩ => ?_)).mono fun r w' ⟨h1, h2⟩ => ⟨h1, ?_⟩
      · rcases h2 with ⟨e', h3, h4⟩ | ⟨t', h3, h4⟩
        · rw [hss] at h3; cases h3
        · rw [hss] at h3
          obtain rfl := Except.ok.inj h3
          exact ⟨h4, h1⟩
      · rcases h2 with ⟨l, v', h3, h4, h5⟩ | ⟨h3, h4⟩
        · exact Or.inr ⟨l, v', one_some hop h3, h4, h5⟩
        · exact Or.inl ⟨56, one_none hop h3, h4⟩
end Go.Proofs.YtaeigacinefhnabDoor

-- The document's one by the plain words, class 64: contract.
namespace Go.Proofs.YtaeigacinefhnabDoor
open Go.ChangeShapes Go.WideShapes Go.ChangeAt Go.RowKit
set_option linter.unusedVariables false
set_option maxRecDepth 100000
theorem strs_ne_64 {b : ByteArray} {n : Nat} {s : Nat → Sec} {x : Sec} {e : Int} (h : strsOf b n s x = .error e) : e ≠ 0 := by
  unfold strsOf at h
  split at h
  · split at h
    · cases h; decide
    · cases h
  · cases h; decide
theorem open_strs_64 {b : ByteArray} {n : Nat} {s : Nat → Sec} {x : Sec} {t : ByteArray} (h7 : x.en = 24) (h6 : x.sz % 24 = 0) (hc : cont b x = some t) : openOf b 64 n s x = match strsOf b n s x with | .error e => .error e | .ok names => .ok (t, names) := by
  unfold openOf strsOf
  rw [if_pos ⟨h7, h6⟩, hc]
  by_cases h : x.li < n ∧ (s x.li).ty = 3
  · simp only [if_pos h]
    cases cont b (s x.li) <;> rfl
  · simp only [if_neg h]
/-- what one answers, by the plain words -/
def OneC64 (b : ByteArray) (o : Int) (n : Nat) (s : Nat → Sec) (x : Sec) (w : World) (r : Ending) (w' : World) : Prop :=
  Below w.heap.size w w' ∧ ((∃ e, oneOf b 64 o n s x = .error e ∧ r = .returned (.tuple #[.slice none 0 0, .int .i64 e])) ∨ (∃ l v, oneOf b 64 o n s x = .ok l ∧ r = .returned (.tuple #[v, .int .i64 0]) ∧ w'.ownsRow w.heap.size 61 7 v l.length (symsV l)))
theorem one_64 (b : ByteArray) (B n : Nat) (v : Value) (s : Nat → Sec) (x : Sec) (o h2 h3 h4 h5 h6 h7 : Int) (w : World) (hS : SecsIn B w v n s) (hn : n ≤ 26214) (hB : SecB s) (hb : b.size ≤ 1048576) (ho : o = 0 ∨ o = 1) (hx : x.off < 18446744073709551616 ∧ x.sz < 18446744073709551616) (hx1 : x.ty = 2) :
    Calls Tryd.prog 47 #[.string b, .agg #[.int .i64 64, .int .i64 o, .int .i64 h2, .int .i64 h3, .int .u64 h4, .int .i64 h5, .int .i64 h6, .int .i64 h7], v, .agg x.v] w (OneC64 b o n s x w) := by
  have hm : b.size ≤ maxLen := by unfold maxLen; omega
  obtain ⟨x0, x1, x2, x3, x4, x5, x6, x7⟩ := x
  by_cases h7' : x7 = 24
  case neg =>
    refine (one_55a_64 b v o h2 h3 h4 h5 h6 h7 x0 x1 x2 x3 x4 x5 x6 x7 w h7').mono fun r w' ⟨h1, h2⟩ => ⟨h2, Or.inl ⟨55, one_err ?_, h1⟩⟩
    unfold openOf
    rw [if_neg]
    intro h
    exact h7' h.1
  subst h7'
  by_cases h6' : x6 % 24 = 0
  case neg =>
    refine (one_55b_64 b v o h2 h3 h4 h5 h6 h7 x0 x1 x2 x3 x4 x5 x6 w hx.2 h6').mono fun r w' ⟨h1, h2⟩ => ⟨h2, Or.inl ⟨55, one_err ?_, h1⟩⟩
    unfold openOf
    rw [if_neg]
    intro h
    exact h6' h.2
  cases hc : cont b ⟨x0, x1, x2, x3, x4, x5, x6, 24⟩ with
  | none =>
    refine (one_54_64 b v o h2 h3 h4 h5 h6 h7 x0 x1 x2 x3 x4 x5 x6 w hx.2 h6' (fun w => dcont_no b _ hm hx hc w)).mono fun r w' ⟨h1, h2⟩ => ⟨h2, Or.inl ⟨54, one_err ?_, h1⟩⟩
    unfold openOf
    rw [if_pos ⟨rfl, h6'⟩, hc]
  | some t =>
    have hop := open_strs_64 (n := n) (s := s) (x := ⟨x0, x1, x2, x3, x4, x5, x6, 24⟩) rfl h6' hc
    have hst (wx : World) (hbx : Below w.heap.size w wx) := strings_c b B n v s ⟨x0, x1, x2, x3, x4, x5, x6, 24⟩ wx (hS.kept hbx) hn hB hm
    cases hss : strsOf b n s ⟨x0, x1, x2, x3, x4, x5, x6, 24⟩ with
    | error e =>
      rw [hss] at hop
      refine (one_str_64 b t e v o h2 h3 h4 h5 h6 h7 x0 x1 x2 x3 x4 x5 x6 w hx.2 h6' (strs_ne_64 hss) (fun w => dcont_ok b t _ hm hc w) (fun wx hbx => (hst wx hbx).mono fun r w' ⟨h1, h2⟩ => ?_)).mono fun r w' ⟨h1, h2⟩ => ⟨h2, Or.inl ⟨e, one_err hop, h1⟩⟩
      rcases h2 with ⟨e', h3, h4⟩ | ⟨t', h3, h4⟩
      · rw [hss] at h3
        obtain rfl := Except.error.inj h3
        exact ⟨h4, h1⟩
      · rw [hss] at h3; cases h3
    | ok names =>
      rw [hss] at hop
      obtain ⟨hz1, hz2, hz3⟩ := open_size hop hx1 hb
      have hzL : t.size = t.size / 24 * 24 := by
        have h3 : t.size % 24 = 0 := hz3
        omega
      refine (one_go_64 b t names (t.size / 24) v o h2 h3 h4 h5 h6 h7 x0 x1 x2 x3 x4 x5 x6 w hx.2 h6' hz1 hz2 ho hzL (fun w => dcont_ok b t _ hm hc w) (fun wx hbx => (hst wx hbx).mono fun r w' ⟨h1, h2⟩ => ?_)).mono fun r w' ⟨h1, h2⟩ => ⟨h1, ?_⟩
      · rcases h2 with ⟨e', h3, h4⟩ | ⟨t', h3, h4⟩
        · rw [hss] at h3; cases h3
        · rw [hss] at h3
          obtain rfl := Except.ok.inj h3
          exact ⟨h4, h1⟩
      · rcases h2 with ⟨l, v', h3, h4, h5⟩ | ⟨h3, h4⟩
        · exact Or.inr ⟨l, v', one_some hop h3, h4, h5⟩
        · exact Or.inl ⟨56, one_none hop h3, h4⟩
end Go.Proofs.YtaeigacinefhnabDoor

-- The document's Table, class 32: contract.
namespace Go.Proofs.YtaeigacinefhnabDoor
open Go.ChangeShapes Go.WideShapes Go.ChangeAt Go.RowKit
set_option linter.unusedVariables false
set_option maxRecDepth 100000
theorem dsecs_low_32 {B C g n cp : Nat} {w w' : World} {s : Nat → Sec} (h : SecsIn B w (.slice (some ⟨g, 0, none⟩) n cp) n s) (hg : g < C) (hb : Below C w w') : SecsIn B w' (.slice (some ⟨g, 0, none⟩) n cp) n s := by
  obtain ⟨ao, c, hv, hr⟩ := h
  refine ⟨ao, c, hv, fun hn => ?_⟩
  obtain ⟨g', cur, h1, h2, h3, h4⟩ := hr hn
  subst h1
  obtain rfl : g = g' := by
    have h := Value.slice.inj hv
    exact congrArg Addr.block (Option.some.inj h.1)
  exact ⟨g, cur, rfl, h2, (hb.block g hg).trans h3, h4⟩
set_option maxHeartbeats 4000000 in
theorem dtable_32 (b : ByteArray) (n : Nat) (s : Nat → Sec) (o h2 h3 h4 h5 h6 h7 : Int) (w : World) (hb : b.size ≤ 1048576) (ho : o = 0 ∨ o = 1) (hn : n ≤ 26214) (hsb : SecB s) (hP : DSecs b n s 0)
    (hH : ∀ w : World, Calls Tryd.prog 46 #[.string b] w fun r w' => r = .returned (.tuple #[.agg #[.int .i64 32, .int .i64 o, .int .i64 h2, .int .i64 h3, .int .u64 h4, .int .i64 h5, .int .i64 h6, .int .i64 h7], .int .i64 0]) ∧ Below w.heap.size w w') :
    Calls Tryd.prog 20 #[.string b] w fun r w' => ∃ v, r = .returned (.tuple #[v, .int .i64 (tabE b 32 o n s 0)]) ∧ w'.ownsRow w.heap.size 61 7 v (tabL b 32 o n s 0).length (symsV (tabL b 32 o n s 0)) ∧ Below w.heap.size w w' := by
  have HP := Hid.mk' hP
  have HH := Hid.mk' hH
  obtain ⟨i0, hi, hz0, hz1, hz2⟩ := info_parts' infoSym
  have HALL := Hid.mk' (And.intro hb (And.intro hn (And.intro hsb ho)))
  clear hb hsb ho hP hH
  go_enter Tryd.func20, Tryd.ntmps20
  go_wp2_with (first
    | (go_at_call 45; refine (HP.out _).mono ?_; rintro r w1 ⟨v, rfl, hS, hb1⟩; obtain ⟨ao, cp, rfl, hS0⟩ := hS)
    | (go_at_call 46; refine (HH.out _).mono ?_; rintro r w3 ⟨rfl, hb2⟩))
  have hs1 := hb1.size
  have hs2 := hb2.size
  have hWK : (w3.alloc (.cells #[.int .i64 32, .int .i64 o, .int .i64 h2, .int .i64 h3, .int .u64 h4, .int .i64 h5, .int .i64 h6, .int .i64 h7] 86)).heap[w3.heap.size]? = some (.cells #[.int .i64 32, .int .i64 o, .int .i64 h2, .int .i64 h3, .int .u64 h4, .int .i64 h5, .int .i64 h6, .int .i64 h7] 86 (0, 0)) := heap_alloc_new w3 _
  have hb23 : Below w1.heap.size w1 (w3.alloc (.cells #[.int .i64 32, .int .i64 o, .int .i64 h2, .int .i64 h3, .int .u64 h4, .int .i64 h5, .int .i64 h6, .int .i64 h7] 86)) := Below.alloc hb2 hs2 _
  have hWB : Below w.heap.size w (w3.alloc (.cells #[.int .i64 32, .int .i64 o, .int .i64 h2, .int .i64 h3, .int .u64 h4, .int .i64 h5, .int .i64 h6, .int .i64 h7] 86)) := hb1.trans (hb23.mono hs1)
  have hWS : SecsIn 0 (w3.alloc (.cells #[.int .i64 32, .int .i64 o, .int .i64 h2, .int .i64 h3, .int .u64 h4, .int .i64 h5, .int .i64 h6, .int .i64 h7] 86)) (.slice ao n cp) n s := SecsIn.kept ⟨ao, cp, rfl, fun h => by obtain ⟨g, cur, h1, _, h3, h4⟩ := hS0 h; exact ⟨g, cur, h1, Nat.zero_le _, h3, h4⟩⟩ hb23
  have hWZ : (w3.alloc (.cells #[.int .i64 32, .int .i64 o, .int .i64 h2, .int .i64 h3, .int .u64 h4, .int .i64 h5, .int .i64 h6, .int .i64 h7] 86)).heap.size = w3.heap.size + 1 := size_alloc _ _
  have hwK : w.heap.size ≤ w3.heap.size := by omega
  clear hb23 hb1 hb2 hS0 HP HH hs1 hs2
  generalize (w3.alloc (.cells #[.int .i64 32, .int .i64 o, .int .i64 h2, .int .i64 h3, .int .u64 h4, .int .i64 h5, .int .i64 h6, .int .i64 h7] 86)) = W at hWK hWB hWS hWZ ⊢
  generalize w3.heap.size = K at hWK hWZ hwK ⊢
  clear w3
  have HGK : Hid (∀ g : Nat, ao = some ⟨g, 0, none⟩ → g < K + 1 ∨ n = 0) := by
    intro g hg
    obtain ⟨ao', cp', hv, hr⟩ := hWS
    obtain ⟨rfl, _, rfl⟩ : ao = ao' ∧ n = n ∧ cp = cp' := by simpa using hv
    by_cases h0 : n = 0
    · exact Or.inr h0
    · obtain ⟨g', cur, h1, _, h3, _⟩ := hr (by omega)
      rw [hg] at h1
      obtain rfl : g = g' := congrArg Addr.block (Option.some.inj h1)
      exact Or.inl (by rw [← hWZ]; exact (Array.getElem?_eq_some_iff.1 h3).1)
  go_loopw [8, 9] (fun u a wx => ∃ (i : Nat) (l : List Sym), i ≤ n ∧ a = .int .i64 i ∧ tabOf b 32 o n s i = .ok l ∧ wx.ownsRow (K + 1) 61 7 u l.length (symsV l) ∧ wx.heap[K]? = some (.cells #[.int .i64 32, .int .i64 o, .int .i64 h2, .int .i64 h3, .int .u64 h4, .int .i64 h5, .int .i64 h6, .int .i64 h7] 86 (0, 0)) ∧ SecsIn 0 wx (.slice ao n cp) n s ∧ Below w.heap.size w wx ∧ K + 1 ≤ wx.heap.size) (fun _ a _ => n - (intOf a).toNat)
  case atStart => exact ⟨0, [], Nat.zero_le _, rfl, rfl, World.ownsRow_nil _ _ _ _, hWK, hWS, hWB, by omega⟩
  case round =>
    clear hWK hWS hWB hWZ W
    obtain ⟨i, l, hi', rfl, hl, hown, hR, hS, hB, hlt⟩ := hrel
    by_cases hin : i < n
    · obtain ⟨hb, hn', hsb, ho⟩ := HALL.out
      obtain ⟨ao', cp', hv, hr⟩ := hS
      obtain ⟨rfl, _, rfl⟩ : ao = ao' ∧ n = n ∧ cp = cp' := by simpa using hv
      obtain ⟨g, cur, rfl, _, hg, hcur⟩ := hr (Nat.lt_of_le_of_lt (Nat.zero_le _) hin)
      have hS : SecsIn 0 wr (.slice (some ⟨g, 0, none⟩) n cp) n s := ⟨_, cp, rfl, fun _ => ⟨g, cur, rfl, Nat.zero_le _, hg, hcur⟩⟩
      have hgg : g < K + 1 := (HGK.out g rfl).resolve_right (by omega)
      have hxb := hsb i
      have hy := hcur i
      have hiI : (i : Int) < (n : Int) := Int.ofNat_lt.2 hin
      have hi0 : (0 : Int) ≤ (i : Int) := Int.natCast_nonneg _
      have hll := tab_length hb i l hl
      have hlm : l.length ≤ 1718091776 := by omega
      clear hr hcur hv hll
      cases hsx : s i with
      | mk x0 x1 x2 x3 x4 x5 x6 x7 =>
        rw [hsx] at hy hxb
        have a1 : wr.cell? ⟨g, i * 8 + 1, none⟩ = some (.int .i64 (x1 : Int)) := (cell_of_row _ _ _ _ _ _ hg).trans (hy 1 hin (by omega))
        by_cases h2' : x1 = 2
        case neg =>
          have HNX := Hid.mk' (tab_at_not hl (by rw [hsx]; exact h2'))
          have h2n : ((x1 : Int) != 2) = true := bne_iff_ne.2 (by omega)
          have HK := Hid.mk' (And.intro hown (And.intro hR (And.intro hS (And.intro hB hlt))))
          clear hown hR hS hB hg hy hxb hl hsx h2' hb ho hsb hlm hn'
          go_wp2
          go_roundw
          case rel => exact ⟨i + 1, l, hin, by go_num, HNX.out, HK.out⟩
          case measure => clear HK HNX HALL HGK; simp [intOf]; omega
        subst h2'
        have h2s : (s i).ty = 2 := by rw [hsx]
        have HO : Hid (∀ wx : World, Below wr.heap.size wr wx → Calls Tryd.prog 47 #[.string b, .agg #[.int .i64 32, .int .i64 o, .int .i64 h2, .int .i64 h3, .int .u64 h4, .int .i64 h5, .int .i64 h6, .int .i64 h7], .slice (some ⟨g, 0, none⟩) n cp, .agg #[.int .i64 (x0 : Int), .int .i64 2, .int .u64 (x2 : Int), .int .i64 (x3 : Int), .int .i64 (x4 : Int), .int .u64 (x5 : Int), .int .u64 (x6 : Int), .int .u64 (x7 : Int)]] wx (OneC32 b o n s ⟨x0, 2, x2, x3, x4, x5, x6, x7⟩ wx)) := fun wx hbx => one_32 b 0 n _ s ⟨x0, 2, x2, x3, x4, x5, x6, x7⟩ o h2 h3 h4 h5 h6 h7 wx (hS.kept hbx) hn' hsb hb ho hxb rfl
        have d0 : ∀ w' : World, Below wr.heap.size wr w' → w'.cell? ⟨g, i * 8, none⟩ = some (.int .i64 (x0 : Int)) := fun w' hb => (hb.cell (Array.getElem?_eq_some_iff.1 hg).1).trans ((cell_of_row _ _ _ _ _ _ hg).trans (hy 0 hin (by omega)))
        have d1 : ∀ w' : World, Below wr.heap.size wr w' → w'.cell? ⟨g, i * 8 + 1, none⟩ = some (.int .i64 2) := fun w' hb => (hb.cell (Array.getElem?_eq_some_iff.1 hg).1).trans ((cell_of_row _ _ _ _ _ _ hg).trans (hy 1 hin (by omega)))
        have d2 : ∀ w' : World, Below wr.heap.size wr w' → w'.cell? ⟨g, i * 8 + 2, none⟩ = some (.int .u64 (x2 : Int)) := fun w' hb => (hb.cell (Array.getElem?_eq_some_iff.1 hg).1).trans ((cell_of_row _ _ _ _ _ _ hg).trans (hy 2 hin (by omega)))
        have d3 : ∀ w' : World, Below wr.heap.size wr w' → w'.cell? ⟨g, i * 8 + 3, none⟩ = some (.int .i64 (x3 : Int)) := fun w' hb => (hb.cell (Array.getElem?_eq_some_iff.1 hg).1).trans ((cell_of_row _ _ _ _ _ _ hg).trans (hy 3 hin (by omega)))
        have d4 : ∀ w' : World, Below wr.heap.size wr w' → w'.cell? ⟨g, i * 8 + 4, none⟩ = some (.int .i64 (x4 : Int)) := fun w' hb => (hb.cell (Array.getElem?_eq_some_iff.1 hg).1).trans ((cell_of_row _ _ _ _ _ _ hg).trans (hy 4 hin (by omega)))
        have d5 : ∀ w' : World, Below wr.heap.size wr w' → w'.cell? ⟨g, i * 8 + 5, none⟩ = some (.int .u64 (x5 : Int)) := fun w' hb => (hb.cell (Array.getElem?_eq_some_iff.1 hg).1).trans ((cell_of_row _ _ _ _ _ _ hg).trans (hy 5 hin (by omega)))
        have d6 : ∀ w' : World, Below wr.heap.size wr w' → w'.cell? ⟨g, i * 8 + 6, none⟩ = some (.int .u64 (x6 : Int)) := fun w' hb => (hb.cell (Array.getElem?_eq_some_iff.1 hg).1).trans ((cell_of_row _ _ _ _ _ _ hg).trans (hy 6 hin (by omega)))
        have d7 : ∀ w' : World, Below wr.heap.size wr w' → w'.cell? ⟨g, i * 8 + 7, none⟩ = some (.int .u64 (x7 : Int)) := fun w' hb => (hb.cell (Array.getElem?_eq_some_iff.1 hg).1).trans ((cell_of_row _ _ _ _ _ _ hg).trans (hy 7 hin (by omega)))
        have k0 : ∀ w' : World, Below wr.heap.size wr w' → w'.cell? ⟨K, 0, none⟩ = some (.int .i64 32) := fun w' hb => (hb.cell (Array.getElem?_eq_some_iff.1 hR).1).trans (cell_of_row _ _ 0 _ _ _ hR)
        have k1 : ∀ w' : World, Below wr.heap.size wr w' → w'.cell? ⟨K, 1, none⟩ = some (.int .i64 o) := fun w' hb => (hb.cell (Array.getElem?_eq_some_iff.1 hR).1).trans (cell_of_row _ _ 1 _ _ _ hR)
        have k2 : ∀ w' : World, Below wr.heap.size wr w' → w'.cell? ⟨K, 2, none⟩ = some (.int .i64 h2) := fun w' hb => (hb.cell (Array.getElem?_eq_some_iff.1 hR).1).trans (cell_of_row _ _ 2 _ _ _ hR)
        have k3 : ∀ w' : World, Below wr.heap.size wr w' → w'.cell? ⟨K, 3, none⟩ = some (.int .i64 h3) := fun w' hb => (hb.cell (Array.getElem?_eq_some_iff.1 hR).1).trans (cell_of_row _ _ 3 _ _ _ hR)
        have k4 : ∀ w' : World, Below wr.heap.size wr w' → w'.cell? ⟨K, 4, none⟩ = some (.int .u64 h4) := fun w' hb => (hb.cell (Array.getElem?_eq_some_iff.1 hR).1).trans (cell_of_row _ _ 4 _ _ _ hR)
        have k5 : ∀ w' : World, Below wr.heap.size wr w' → w'.cell? ⟨K, 5, none⟩ = some (.int .i64 h5) := fun w' hb => (hb.cell (Array.getElem?_eq_some_iff.1 hR).1).trans (cell_of_row _ _ 5 _ _ _ hR)
        have k6 : ∀ w' : World, Below wr.heap.size wr w' → w'.cell? ⟨K, 6, none⟩ = some (.int .i64 h6) := fun w' hb => (hb.cell (Array.getElem?_eq_some_iff.1 hR).1).trans (cell_of_row _ _ 6 _ _ _ hR)
        have k7 : ∀ w' : World, Below wr.heap.size wr w' → w'.cell? ⟨K, 7, none⟩ = some (.int .i64 h7) := fun w' hb => (hb.cell (Array.getElem?_eq_some_iff.1 hR).1).trans (cell_of_row _ _ 7 _ _ _ hR)
        have hbr := Below.refl wr.heap.size wr
        have hSc : ∀ w4 : World, Below wr.heap.size wr w4 → SecsIn 0 w4 (.slice (some ⟨g, 0, none⟩) n cp) n s := fun w4 hb => hS.kept hb
        clear hS hg hy hxb hsb hb ho hn'
        cases hone : oneOf b 32 o n s ⟨x0, 2, x2, x3, x4, x5, x6, x7⟩ with
        | error e =>
          have HT := Hid.mk' (tab_err (tab_at_err hl hin h2s (by rw [hsx]; exact hone)))
          have he0 : e ≠ 0 := one_ne hone
          have hen : (e != 0) = true := bne_iff_ne.2 he0
          have HO' : Hid (∀ wx : World, Below wr.heap.size wr wx → Calls Tryd.prog 47 #[.string b, .agg #[.int .i64 32, .int .i64 o, .int .i64 h2, .int .i64 h3, .int .u64 h4, .int .i64 h5, .int .i64 h6, .int .i64 h7], .slice (some ⟨g, 0, none⟩) n cp, .agg #[.int .i64 (x0 : Int), .int .i64 2, .int .u64 (x2 : Int), .int .i64 (x3 : Int), .int .i64 (x4 : Int), .int .u64 (x5 : Int), .int .u64 (x6 : Int), .int .u64 (x7 : Int)]] wx fun r w' => r = .returned (.tuple #[.slice none 0 0, .int .i64 e]) ∧ Below wr.heap.size wr w') := fun wx hbx => (HO.out wx hbx).mono fun r w' ⟨h1, h2⟩ => by
            rcases h2 with ⟨e', h3, h4⟩ | ⟨l', v', h3, _⟩
            · rw [hone] at h3
              obtain rfl := Except.error.inj h3
              exact ⟨h4, hbx.trans (h1.mono hbx.size)⟩
            · rw [hone] at h3; cases h3
          have HB := Hid.mk' (And.intro hB hlt)
          clear hone hl hsx hown hR hB hlt hlm h2s HO he0 hSc hgg
          go_wp2_with fail
          go_region_held3 (fun w' => Below wr.heap.size wr w') (first | (with_reducible assumption) | (with_reducible exact Below.drew (by with_reducible assumption))) (first
            | (go_at_call 47; refine (HO'.out _ (by first | assumption | exact hbr.drew)).mono ?_; rintro r w4 ⟨rfl, hb4⟩))
          all_goals
            go_wp2
            go_ret2
            rw [HT.out.1, HT.out.2]
            exact ⟨_, rfl, World.ownsRow_nil _ _ _ _, HB.out.1.trans (Below.mono (by first | assumption | exact Below.drew (by assumption)) (by have := HB.out.2; omega))⟩
        | ok m =>
          have HNX := Hid.mk' (tab_at_ok hl h2s (by rw [hsx]; exact hone))
          have hml := one_length hone rfl HALL.out.1
          have HO' : Hid (∀ wx : World, Below wr.heap.size wr wx → Calls Tryd.prog 47 #[.string b, .agg #[.int .i64 32, .int .i64 o, .int .i64 h2, .int .i64 h3, .int .u64 h4, .int .i64 h5, .int .i64 h6, .int .i64 h7], .slice (some ⟨g, 0, none⟩) n cp, .agg #[.int .i64 (x0 : Int), .int .i64 2, .int .u64 (x2 : Int), .int .i64 (x3 : Int), .int .i64 (x4 : Int), .int .u64 (x5 : Int), .int .u64 (x6 : Int), .int .u64 (x7 : Int)]] wx fun r w' => ∃ v, r = .returned (.tuple #[v, .int .i64 0]) ∧ w'.ownsRow (K + 1) 61 7 v m.length (symsV m) ∧ Below wr.heap.size wr w') := fun wx hbx => (HO.out wx hbx).mono fun r w' ⟨h1, h2⟩ => by
            rcases h2 with ⟨e', h3, h4⟩ | ⟨l', v', h3, h4, h5⟩
            · rw [hone] at h3; cases h3
            · rw [hone] at h3
              obtain rfl := Except.ok.inj h3
              exact ⟨v', h4, own_base h5 (Nat.le_trans hlt hbx.size), hbx.trans (h1.mono hbx.size)⟩
          have hc3 : l.length + m.length ≤ maxLen := by unfold maxLen; omega
          have hc4 : (l.length + m.length) * 64 ≤ 140737488355328 := by omega
          have HB := Hid.mk' (And.intro hB (And.intro hlt (And.intro hSc (And.intro hgg hR))))
          have HOW := Hid.mk' hown
          clear hone hl hsx hown hR hB hlt hlm h2s HO hSc hgg hml
          go_wp2_with fail
          go_region_held3 (fun w' => Below wr.heap.size wr w') (first | (with_reducible assumption) | (with_reducible exact Below.drew (by with_reducible assumption))) (first
            | (go_at_call 47; refine (HO'.out _ (by first | assumption | exact hbr.drew)).mono ?_; rintro r w4 ⟨v4, rfl, ho4, hb4⟩))
          all_goals
            have hb4' : Below wr.heap.size wr w4 := by first | assumption
            go_wp2_with (first
              | (at_builtin; refine wpList_append_rows rfl _ _ 27 rfl (K + 1) 61 i0 (.agg #[.string ⟨#[]⟩, .int .i64 0, .int .i64 0, .int .i64 0, .int .i64 0, .int .u64 0, .int .u64 0]) 7 64 Tryd.underlying27 hi hz0 hz1 hz2 rfl (by decide) _ _ _ rfl (own_below HOW.out hb4') (K + 1) v4 _ _ rfl ho4 (symsV_one _) hc3 hc4 (Nat.le_trans HB.out.2.1 hb4'.size) ?_; intro v5 w5 hown5 hgrow))
            obtain ⟨hB, hlt, hSc, hgg, hR⟩ := HB.out
            have hrow : ∀ q, u8.ownBlock = some q → K + 1 ≤ q := fun q hq => (HOW.out.lt q hq).1
            have hbR : Below (K + 1) w4 w5 := Below.grown (Below.refl _ _) hgrow (Nat.le_trans hlt hb4'.size) hrow
            have HF : Hid (w5.ownsRow (K + 1) 61 7 v5 (l ++ m).length (symsV (l ++ m)) ∧ w5.heap[K]? = some (.cells #[.int .i64 32, .int .i64 o, .int .i64 h2, .int .i64 h3, .int .u64 h4, .int .i64 h5, .int .i64 h6, .int .i64 h7] 86 (0, 0)) ∧ SecsIn 0 w5 (.slice (some ⟨g, 0, none⟩) n cp) n s ∧ Below w.heap.size w w5 ∧ K + 1 ≤ w5.heap.size) := ⟨by rw [List.length_append, symsV_append]; exact hown5, (hbR.block K (Nat.lt_succ_self K)).trans ((hb4'.block K (by omega)).trans hR), dsecs_low_32 (hSc w4 hb4') hgg hbR, (hB.trans (hb4'.mono hB.size)).trans (hbR.mono (by omega)), Nat.le_trans (Nat.le_trans hlt hb4'.size) hbR.size⟩
            clear hB hlt hSc hgg hR hrow hbR hown5 hgrow ho4
            go_wp2
            go_roundw
            case rel => exact ⟨i + 1, l ++ m, hin, by go_num, HNX.out, HF.out⟩
            case measure => clear HF HNX HALL HGK; simp [intOf]; omega
    · obtain rfl : i = n := Nat.le_antisymm hi' (Nat.not_lt.1 hin)
      have HT := Hid.mk' (tab_ok hl)
      have hiI : ¬ (i : Int) < (i : Int) := Int.lt_irrefl _
      go_wp2
      go_ret2
      rw [HT.out.1, HT.out.2]
      exact ⟨_, rfl, own_base hown (by omega), hB⟩
end Go.Proofs.YtaeigacinefhnabDoor

-- The document's Table, class 64: contract.
namespace Go.Proofs.YtaeigacinefhnabDoor
open Go.ChangeShapes Go.WideShapes Go.ChangeAt Go.RowKit
set_option linter.unusedVariables false
set_option maxRecDepth 100000
theorem dsecs_low_64 {B C g n cp : Nat} {w w' : World} {s : Nat → Sec} (h : SecsIn B w (.slice (some ⟨g, 0, none⟩) n cp) n s) (hg : g < C) (hb : Below C w w') : SecsIn B w' (.slice (some ⟨g, 0, none⟩) n cp) n s := by
  obtain ⟨ao, c, hv, hr⟩ := h
  refine ⟨ao, c, hv, fun hn => ?_⟩
  obtain ⟨g', cur, h1, h2, h3, h4⟩ := hr hn
  subst h1
  obtain rfl : g = g' := by
    have h := Value.slice.inj hv
    exact congrArg Addr.block (Option.some.inj h.1)
  exact ⟨g, cur, rfl, h2, (hb.block g hg).trans h3, h4⟩
set_option maxHeartbeats 4000000 in
theorem dtable_64 (b : ByteArray) (n : Nat) (s : Nat → Sec) (o h2 h3 h4 h5 h6 h7 : Int) (w : World) (hb : b.size ≤ 1048576) (ho : o = 0 ∨ o = 1) (hn : n ≤ 26214) (hsb : SecB s) (hP : DSecs b n s 0)
    (hH : ∀ w : World, Calls Tryd.prog 46 #[.string b] w fun r w' => r = .returned (.tuple #[.agg #[.int .i64 64, .int .i64 o, .int .i64 h2, .int .i64 h3, .int .u64 h4, .int .i64 h5, .int .i64 h6, .int .i64 h7], .int .i64 0]) ∧ Below w.heap.size w w') :
    Calls Tryd.prog 20 #[.string b] w fun r w' => ∃ v, r = .returned (.tuple #[v, .int .i64 (tabE b 64 o n s 0)]) ∧ w'.ownsRow w.heap.size 61 7 v (tabL b 64 o n s 0).length (symsV (tabL b 64 o n s 0)) ∧ Below w.heap.size w w' := by
  have HP := Hid.mk' hP
  have HH := Hid.mk' hH
  obtain ⟨i0, hi, hz0, hz1, hz2⟩ := info_parts' infoSym
  have HALL := Hid.mk' (And.intro hb (And.intro hn (And.intro hsb ho)))
  clear hb hsb ho hP hH
  go_enter Tryd.func20, Tryd.ntmps20
  go_wp2_with (first
    | (go_at_call 45; refine (HP.out _).mono ?_; rintro r w1 ⟨v, rfl, hS, hb1⟩; obtain ⟨ao, cp, rfl, hS0⟩ := hS)
    | (go_at_call 46; refine (HH.out _).mono ?_; rintro r w3 ⟨rfl, hb2⟩))
  have hs1 := hb1.size
  have hs2 := hb2.size
  have hWK : (w3.alloc (.cells #[.int .i64 64, .int .i64 o, .int .i64 h2, .int .i64 h3, .int .u64 h4, .int .i64 h5, .int .i64 h6, .int .i64 h7] 86)).heap[w3.heap.size]? = some (.cells #[.int .i64 64, .int .i64 o, .int .i64 h2, .int .i64 h3, .int .u64 h4, .int .i64 h5, .int .i64 h6, .int .i64 h7] 86 (0, 0)) := heap_alloc_new w3 _
  have hb23 : Below w1.heap.size w1 (w3.alloc (.cells #[.int .i64 64, .int .i64 o, .int .i64 h2, .int .i64 h3, .int .u64 h4, .int .i64 h5, .int .i64 h6, .int .i64 h7] 86)) := Below.alloc hb2 hs2 _
  have hWB : Below w.heap.size w (w3.alloc (.cells #[.int .i64 64, .int .i64 o, .int .i64 h2, .int .i64 h3, .int .u64 h4, .int .i64 h5, .int .i64 h6, .int .i64 h7] 86)) := hb1.trans (hb23.mono hs1)
  have hWS : SecsIn 0 (w3.alloc (.cells #[.int .i64 64, .int .i64 o, .int .i64 h2, .int .i64 h3, .int .u64 h4, .int .i64 h5, .int .i64 h6, .int .i64 h7] 86)) (.slice ao n cp) n s := SecsIn.kept ⟨ao, cp, rfl, fun h => by obtain ⟨g, cur, h1, _, h3, h4⟩ := hS0 h; exact ⟨g, cur, h1, Nat.zero_le _, h3, h4⟩⟩ hb23
  have hWZ : (w3.alloc (.cells #[.int .i64 64, .int .i64 o, .int .i64 h2, .int .i64 h3, .int .u64 h4, .int .i64 h5, .int .i64 h6, .int .i64 h7] 86)).heap.size = w3.heap.size + 1 := size_alloc _ _
  have hwK : w.heap.size ≤ w3.heap.size := by omega
  clear hb23 hb1 hb2 hS0 HP HH hs1 hs2
  generalize (w3.alloc (.cells #[.int .i64 64, .int .i64 o, .int .i64 h2, .int .i64 h3, .int .u64 h4, .int .i64 h5, .int .i64 h6, .int .i64 h7] 86)) = W at hWK hWB hWS hWZ ⊢
  generalize w3.heap.size = K at hWK hWZ hwK ⊢
  clear w3
  have HGK : Hid (∀ g : Nat, ao = some ⟨g, 0, none⟩ → g < K + 1 ∨ n = 0) := by
    intro g hg
    obtain ⟨ao', cp', hv, hr⟩ := hWS
    obtain ⟨rfl, _, rfl⟩ : ao = ao' ∧ n = n ∧ cp = cp' := by simpa using hv
    by_cases h0 : n = 0
    · exact Or.inr h0
    · obtain ⟨g', cur, h1, _, h3, _⟩ := hr (by omega)
      rw [hg] at h1
      obtain rfl : g = g' := congrArg Addr.block (Option.some.inj h1)
      exact Or.inl (by rw [← hWZ]; exact (Array.getElem?_eq_some_iff.1 h3).1)
  go_loopw [8, 9] (fun u a wx => ∃ (i : Nat) (l : List Sym), i ≤ n ∧ a = .int .i64 i ∧ tabOf b 64 o n s i = .ok l ∧ wx.ownsRow (K + 1) 61 7 u l.length (symsV l) ∧ wx.heap[K]? = some (.cells #[.int .i64 64, .int .i64 o, .int .i64 h2, .int .i64 h3, .int .u64 h4, .int .i64 h5, .int .i64 h6, .int .i64 h7] 86 (0, 0)) ∧ SecsIn 0 wx (.slice ao n cp) n s ∧ Below w.heap.size w wx ∧ K + 1 ≤ wx.heap.size) (fun _ a _ => n - (intOf a).toNat)
  case atStart => exact ⟨0, [], Nat.zero_le _, rfl, rfl, World.ownsRow_nil _ _ _ _, hWK, hWS, hWB, by omega⟩
  case round =>
    clear hWK hWS hWB hWZ W
    obtain ⟨i, l, hi', rfl, hl, hown, hR, hS, hB, hlt⟩ := hrel
    by_cases hin : i < n
    · obtain ⟨hb, hn', hsb, ho⟩ := HALL.out
      obtain ⟨ao', cp', hv, hr⟩ := hS
      obtain ⟨rfl, _, rfl⟩ : ao = ao' ∧ n = n ∧ cp = cp' := by simpa using hv
      obtain ⟨g, cur, rfl, _, hg, hcur⟩ := hr (Nat.lt_of_le_of_lt (Nat.zero_le _) hin)
      have hS : SecsIn 0 wr (.slice (some ⟨g, 0, none⟩) n cp) n s := ⟨_, cp, rfl, fun _ => ⟨g, cur, rfl, Nat.zero_le _, hg, hcur⟩⟩
      have hgg : g < K + 1 := (HGK.out g rfl).resolve_right (by omega)
      have hxb := hsb i
      have hy := hcur i
      have hiI : (i : Int) < (n : Int) := Int.ofNat_lt.2 hin
      have hi0 : (0 : Int) ≤ (i : Int) := Int.natCast_nonneg _
      have hll := tab_length hb i l hl
      have hlm : l.length ≤ 1718091776 := by omega
      clear hr hcur hv hll
      cases hsx : s i with
      | mk x0 x1 x2 x3 x4 x5 x6 x7 =>
        rw [hsx] at hy hxb
        have a1 : wr.cell? ⟨g, i * 8 + 1, none⟩ = some (.int .i64 (x1 : Int)) := (cell_of_row _ _ _ _ _ _ hg).trans (hy 1 hin (by omega))
        by_cases h2' : x1 = 2
        case neg =>
          have HNX := Hid.mk' (tab_at_not hl (by rw [hsx]; exact h2'))
          have h2n : ((x1 : Int) != 2) = true := bne_iff_ne.2 (by omega)
          have HK := Hid.mk' (And.intro hown (And.intro hR (And.intro hS (And.intro hB hlt))))
          clear hown hR hS hB hg hy hxb hl hsx h2' hb ho hsb hlm hn'
          go_wp2
          go_roundw
          case rel => exact ⟨i + 1, l, hin, by go_num, HNX.out, HK.out⟩
          case measure => clear HK HNX HALL HGK; simp [intOf]; omega
        subst h2'
        have h2s : (s i).ty = 2 := by rw [hsx]
        have HO : Hid (∀ wx : World, Below wr.heap.size wr wx → Calls Tryd.prog 47 #[.string b, .agg #[.int .i64 64, .int .i64 o, .int .i64 h2, .int .i64 h3, .int .u64 h4, .int .i64 h5, .int .i64 h6, .int .i64 h7], .slice (some ⟨g, 0, none⟩) n cp, .agg #[.int .i64 (x0 : Int), .int .i64 2, .int .u64 (x2 : Int), .int .i64 (x3 : Int), .int .i64 (x4 : Int), .int .u64 (x5 : Int), .int .u64 (x6 : Int), .int .u64 (x7 : Int)]] wx (OneC64 b o n s ⟨x0, 2, x2, x3, x4, x5, x6, x7⟩ wx)) := fun wx hbx => one_64 b 0 n _ s ⟨x0, 2, x2, x3, x4, x5, x6, x7⟩ o h2 h3 h4 h5 h6 h7 wx (hS.kept hbx) hn' hsb hb ho hxb rfl
        have d0 : ∀ w' : World, Below wr.heap.size wr w' → w'.cell? ⟨g, i * 8, none⟩ = some (.int .i64 (x0 : Int)) := fun w' hb => (hb.cell (Array.getElem?_eq_some_iff.1 hg).1).trans ((cell_of_row _ _ _ _ _ _ hg).trans (hy 0 hin (by omega)))
        have d1 : ∀ w' : World, Below wr.heap.size wr w' → w'.cell? ⟨g, i * 8 + 1, none⟩ = some (.int .i64 2) := fun w' hb => (hb.cell (Array.getElem?_eq_some_iff.1 hg).1).trans ((cell_of_row _ _ _ _ _ _ hg).trans (hy 1 hin (by omega)))
        have d2 : ∀ w' : World, Below wr.heap.size wr w' → w'.cell? ⟨g, i * 8 + 2, none⟩ = some (.int .u64 (x2 : Int)) := fun w' hb => (hb.cell (Array.getElem?_eq_some_iff.1 hg).1).trans ((cell_of_row _ _ _ _ _ _ hg).trans (hy 2 hin (by omega)))
        have d3 : ∀ w' : World, Below wr.heap.size wr w' → w'.cell? ⟨g, i * 8 + 3, none⟩ = some (.int .i64 (x3 : Int)) := fun w' hb => (hb.cell (Array.getElem?_eq_some_iff.1 hg).1).trans ((cell_of_row _ _ _ _ _ _ hg).trans (hy 3 hin (by omega)))
        have d4 : ∀ w' : World, Below wr.heap.size wr w' → w'.cell? ⟨g, i * 8 + 4, none⟩ = some (.int .i64 (x4 : Int)) := fun w' hb => (hb.cell (Array.getElem?_eq_some_iff.1 hg).1).trans ((cell_of_row _ _ _ _ _ _ hg).trans (hy 4 hin (by omega)))
        have d5 : ∀ w' : World, Below wr.heap.size wr w' → w'.cell? ⟨g, i * 8 + 5, none⟩ = some (.int .u64 (x5 : Int)) := fun w' hb => (hb.cell (Array.getElem?_eq_some_iff.1 hg).1).trans ((cell_of_row _ _ _ _ _ _ hg).trans (hy 5 hin (by omega)))
        have d6 : ∀ w' : World, Below wr.heap.size wr w' → w'.cell? ⟨g, i * 8 + 6, none⟩ = some (.int .u64 (x6 : Int)) := fun w' hb => (hb.cell (Array.getElem?_eq_some_iff.1 hg).1).trans ((cell_of_row _ _ _ _ _ _ hg).trans (hy 6 hin (by omega)))
        have d7 : ∀ w' : World, Below wr.heap.size wr w' → w'.cell? ⟨g, i * 8 + 7, none⟩ = some (.int .u64 (x7 : Int)) := fun w' hb => (hb.cell (Array.getElem?_eq_some_iff.1 hg).1).trans ((cell_of_row _ _ _ _ _ _ hg).trans (hy 7 hin (by omega)))
        have k0 : ∀ w' : World, Below wr.heap.size wr w' → w'.cell? ⟨K, 0, none⟩ = some (.int .i64 64) := fun w' hb => (hb.cell (Array.getElem?_eq_some_iff.1 hR).1).trans (cell_of_row _ _ 0 _ _ _ hR)
        have k1 : ∀ w' : World, Below wr.heap.size wr w' → w'.cell? ⟨K, 1, none⟩ = some (.int .i64 o) := fun w' hb => (hb.cell (Array.getElem?_eq_some_iff.1 hR).1).trans (cell_of_row _ _ 1 _ _ _ hR)
        have k2 : ∀ w' : World, Below wr.heap.size wr w' → w'.cell? ⟨K, 2, none⟩ = some (.int .i64 h2) := fun w' hb => (hb.cell (Array.getElem?_eq_some_iff.1 hR).1).trans (cell_of_row _ _ 2 _ _ _ hR)
        have k3 : ∀ w' : World, Below wr.heap.size wr w' → w'.cell? ⟨K, 3, none⟩ = some (.int .i64 h3) := fun w' hb => (hb.cell (Array.getElem?_eq_some_iff.1 hR).1).trans (cell_of_row _ _ 3 _ _ _ hR)
        have k4 : ∀ w' : World, Below wr.heap.size wr w' → w'.cell? ⟨K, 4, none⟩ = some (.int .u64 h4) := fun w' hb => (hb.cell (Array.getElem?_eq_some_iff.1 hR).1).trans (cell_of_row _ _ 4 _ _ _ hR)
        have k5 : ∀ w' : World, Below wr.heap.size wr w' → w'.cell? ⟨K, 5, none⟩ = some (.int .i64 h5) := fun w' hb => (hb.cell (Array.getElem?_eq_some_iff.1 hR).1).trans (cell_of_row _ _ 5 _ _ _ hR)
        have k6 : ∀ w' : World, Below wr.heap.size wr w' → w'.cell? ⟨K, 6, none⟩ = some (.int .i64 h6) := fun w' hb => (hb.cell (Array.getElem?_eq_some_iff.1 hR).1).trans (cell_of_row _ _ 6 _ _ _ hR)
        have k7 : ∀ w' : World, Below wr.heap.size wr w' → w'.cell? ⟨K, 7, none⟩ = some (.int .i64 h7) := fun w' hb => (hb.cell (Array.getElem?_eq_some_iff.1 hR).1).trans (cell_of_row _ _ 7 _ _ _ hR)
        have hbr := Below.refl wr.heap.size wr
        have hSc : ∀ w4 : World, Below wr.heap.size wr w4 → SecsIn 0 w4 (.slice (some ⟨g, 0, none⟩) n cp) n s := fun w4 hb => hS.kept hb
        clear hS hg hy hxb hsb hb ho hn'
        cases hone : oneOf b 64 o n s ⟨x0, 2, x2, x3, x4, x5, x6, x7⟩ with
        | error e =>
          have HT := Hid.mk' (tab_err (tab_at_err hl hin h2s (by rw [hsx]; exact hone)))
          have he0 : e ≠ 0 := one_ne hone
          have hen : (e != 0) = true := bne_iff_ne.2 he0
          have HO' : Hid (∀ wx : World, Below wr.heap.size wr wx → Calls Tryd.prog 47 #[.string b, .agg #[.int .i64 64, .int .i64 o, .int .i64 h2, .int .i64 h3, .int .u64 h4, .int .i64 h5, .int .i64 h6, .int .i64 h7], .slice (some ⟨g, 0, none⟩) n cp, .agg #[.int .i64 (x0 : Int), .int .i64 2, .int .u64 (x2 : Int), .int .i64 (x3 : Int), .int .i64 (x4 : Int), .int .u64 (x5 : Int), .int .u64 (x6 : Int), .int .u64 (x7 : Int)]] wx fun r w' => r = .returned (.tuple #[.slice none 0 0, .int .i64 e]) ∧ Below wr.heap.size wr w') := fun wx hbx => (HO.out wx hbx).mono fun r w' ⟨h1, h2⟩ => by
            rcases h2 with ⟨e', h3, h4⟩ | ⟨l', v', h3, _⟩
            · rw [hone] at h3
              obtain rfl := Except.error.inj h3
              exact ⟨h4, hbx.trans (h1.mono hbx.size)⟩
            · rw [hone] at h3; cases h3
          have HB := Hid.mk' (And.intro hB hlt)
          clear hone hl hsx hown hR hB hlt hlm h2s HO he0 hSc hgg
          go_wp2_with fail
          go_region_held3 (fun w' => Below wr.heap.size wr w') (first | (with_reducible assumption) | (with_reducible exact Below.drew (by with_reducible assumption))) (first
            | (go_at_call 47; refine (HO'.out _ (by first | assumption | exact hbr.drew)).mono ?_; rintro r w4 ⟨rfl, hb4⟩))
          all_goals
            go_wp2
            go_ret2
            rw [HT.out.1, HT.out.2]
            exact ⟨_, rfl, World.ownsRow_nil _ _ _ _, HB.out.1.trans (Below.mono (by first | assumption | exact Below.drew (by assumption)) (by have := HB.out.2; omega))⟩
        | ok m =>
          have HNX := Hid.mk' (tab_at_ok hl h2s (by rw [hsx]; exact hone))
          have hml := one_length hone rfl HALL.out.1
          have HO' : Hid (∀ wx : World, Below wr.heap.size wr wx → Calls Tryd.prog 47 #[.string b, .agg #[.int .i64 64, .int .i64 o, .int .i64 h2, .int .i64 h3, .int .u64 h4, .int .i64 h5, .int .i64 h6, .int .i64 h7], .slice (some ⟨g, 0, none⟩) n cp, .agg #[.int .i64 (x0 : Int), .int .i64 2, .int .u64 (x2 : Int), .int .i64 (x3 : Int), .int .i64 (x4 : Int), .int .u64 (x5 : Int), .int .u64 (x6 : Int), .int .u64 (x7 : Int)]] wx fun r w' => ∃ v, r = .returned (.tuple #[v, .int .i64 0]) ∧ w'.ownsRow (K + 1) 61 7 v m.length (symsV m) ∧ Below wr.heap.size wr w') := fun wx hbx => (HO.out wx hbx).mono fun r w' ⟨h1, h2⟩ => by
            rcases h2 with ⟨e', h3, h4⟩ | ⟨l', v', h3, h4, h5⟩
            · rw [hone] at h3; cases h3
            · rw [hone] at h3
              obtain rfl := Except.ok.inj h3
              exact ⟨v', h4, own_base h5 (Nat.le_trans hlt hbx.size), hbx.trans (h1.mono hbx.size)⟩
          have hc3 : l.length + m.length ≤ maxLen := by unfold maxLen; omega
          have hc4 : (l.length + m.length) * 64 ≤ 140737488355328 := by omega
          have HB := Hid.mk' (And.intro hB (And.intro hlt (And.intro hSc (And.intro hgg hR))))
          have HOW := Hid.mk' hown
          clear hone hl hsx hown hR hB hlt hlm h2s HO hSc hgg hml
          go_wp2_with fail
          go_region_held3 (fun w' => Below wr.heap.size wr w') (first | (with_reducible assumption) | (with_reducible exact Below.drew (by with_reducible assumption))) (first
            | (go_at_call 47; refine (HO'.out _ (by first | assumption | exact hbr.drew)).mono ?_; rintro r w4 ⟨v4, rfl, ho4, hb4⟩))
          all_goals
            have hb4' : Below wr.heap.size wr w4 := by first | assumption
            go_wp2_with (first
              | (at_builtin; refine wpList_append_rows rfl _ _ 27 rfl (K + 1) 61 i0 (.agg #[.string ⟨#[]⟩, .int .i64 0, .int .i64 0, .int .i64 0, .int .i64 0, .int .u64 0, .int .u64 0]) 7 64 Tryd.underlying27 hi hz0 hz1 hz2 rfl (by decide) _ _ _ rfl (own_below HOW.out hb4') (K + 1) v4 _ _ rfl ho4 (symsV_one _) hc3 hc4 (Nat.le_trans HB.out.2.1 hb4'.size) ?_; intro v5 w5 hown5 hgrow))
            obtain ⟨hB, hlt, hSc, hgg, hR⟩ := HB.out
            have hrow : ∀ q, u8.ownBlock = some q → K + 1 ≤ q := fun q hq => (HOW.out.lt q hq).1
            have hbR : Below (K + 1) w4 w5 := Below.grown (Below.refl _ _) hgrow (Nat.le_trans hlt hb4'.size) hrow
            have HF : Hid (w5.ownsRow (K + 1) 61 7 v5 (l ++ m).length (symsV (l ++ m)) ∧ w5.heap[K]? = some (.cells #[.int .i64 64, .int .i64 o, .int .i64 h2, .int .i64 h3, .int .u64 h4, .int .i64 h5, .int .i64 h6, .int .i64 h7] 86 (0, 0)) ∧ SecsIn 0 w5 (.slice (some ⟨g, 0, none⟩) n cp) n s ∧ Below w.heap.size w w5 ∧ K + 1 ≤ w5.heap.size) := ⟨by rw [List.length_append, symsV_append]; exact hown5, (hbR.block K (Nat.lt_succ_self K)).trans ((hb4'.block K (by omega)).trans hR), dsecs_low_64 (hSc w4 hb4') hgg hbR, (hB.trans (hb4'.mono hB.size)).trans (hbR.mono (by omega)), Nat.le_trans (Nat.le_trans hlt hb4'.size) hbR.size⟩
            clear hB hlt hSc hgg hR hrow hbR hown5 hgrow ho4
            go_wp2
            go_roundw
            case rel => exact ⟨i + 1, l ++ m, hin, by go_num, HNX.out, HF.out⟩
            case measure => clear HF HNX HALL HGK; simp [intOf]; omega
    · obtain rfl : i = n := Nat.le_antisymm hi' (Nat.not_lt.1 hin)
      have HT := Hid.mk' (tab_ok hl)
      have hiI : ¬ (i : Int) < (i : Int) := Int.lt_irrefl _
      go_wp2
      go_ret2
      rw [HT.out.1, HT.out.2]
      exact ⟨_, rfl, own_base hown (by omega), hB⟩
end Go.Proofs.YtaeigacinefhnabDoor
