import Derived.Test.YtaeigacinefhnaaDoorM8
import Derived.Test.YtaeigacinefhnaaDoorM11

-- Both Tables answer the same.
namespace Go.Proofs.YtaeigacinefhnaaDoor
open Go.ChangeShapes Go.WideShapes Go.ChangeAt Go.RowKit
set_option linter.unusedVariables false
set_option maxRecDepth 100000
theorem table_no1 (b : ByteArray) (w : World) (hM : Magic w) (hm : b.size ≤ maxLen) (hE : identE b ≠ 0) : Calls Tryd.prog 15 #[.string b] w fun r w' => r = .returned (.tuple #[.slice none 0 0, .int .i64 (identE b)]) ∧ Below w.heap.size w w' := by
  have HI := Hid.mk' (ident_no b w hM hm hE)
  have hen : (identE b != 0) = true := bne_iff_ne.2 hE
  generalize identE b = e at HI hen
  go_enter Tryd.func15, Tryd.ntmps15
  go_wp2_with (first | (go_at_call 30; refine (HI.out).mono ?_; rintro r w1 ⟨rfl, hb1⟩))
  go_ret2
  exact ⟨rfl, hb1⟩
theorem table_no2 (b : ByteArray) (n : Nat) (s : Nat → Sec) (e : Int) (w : World) (hM : Magic w) (hm : b.size ≤ maxLen) (hE : identE b = 0) (he : e ≠ 0) (hP : PSecs b n s e) : Calls Tryd.prog 15 #[.string b] w fun r w' => r = .returned (.tuple #[.slice none 0 0, .int .i64 e]) ∧ Below w.heap.size w w' := by
  have HI := Hid.mk' (ident_ok b w hM hm hE)
  have HP := Hid.mk' hP
  have hen : (e != 0) = true := bne_iff_ne.2 he
  clear hP
  generalize cls b = c at HI
  generalize ord b = o at HI
  go_enter Tryd.func15, Tryd.ntmps15
  go_wp2_with (first
    | (go_at_call 30; refine (HI.out).mono ?_; rintro r w1 ⟨rfl, hb1⟩; have hM1 := hM.kept hb1)
    | (go_at_call 31; refine (HP.out _ hM1).mono ?_; rintro r w2 ⟨v, rfl, hS, hb2⟩))
  go_ret2
  exact ⟨rfl, hb1.trans (hb2.mono hb1.size)⟩
theorem dtable_no (b : ByteArray) (n : Nat) (s : Nat → Sec) (e : Int) (w : World) (he : e ≠ 0) (hP : DSecs b n s e) : Calls Tryd.prog 20 #[.string b] w fun r w' => r = .returned (.tuple #[.slice none 0 0, .int .i64 e]) ∧ Below w.heap.size w w' := by
  have HP := Hid.mk' hP
  have hen : (e != 0) = true := bne_iff_ne.2 he
  clear hP
  go_enter Tryd.func20, Tryd.ntmps20
  go_wp2_with (first
    | (go_at_call 37; refine (HP.out _).mono ?_; rintro r w2 ⟨v, rfl, hS, hb2⟩))
  go_ret2
  exact ⟨rfl, hb2⟩
/-- what Table answers, of the program and of the document -/
def PTab (b : ByteArray) (l : List Sym) (e : Int) : Prop := ∀ w : World, Magic w → Calls Tryd.prog 15 #[.string b] w fun r w' => ∃ v, r = .returned (.tuple #[v, .int .i64 e]) ∧ w'.ownsRow w.heap.size 63 7 v l.length (symsV l) ∧ Below w.heap.size w w'
def DTab (b : ByteArray) (l : List Sym) (e : Int) : Prop := ∀ w : World, Calls Tryd.prog 20 #[.string b] w fun r w' => ∃ v, r = .returned (.tuple #[v, .int .i64 e]) ∧ w'.ownsRow w.heap.size 63 7 v l.length (symsV l) ∧ Below w.heap.size w w'
theorem tables_both (b : ByteArray) (hb : b.size ≤ 1048576) : ∃ l e, l.length ≤ 1717960704 ∧ (e ≠ 0 → l = []) ∧ PTab b l e ∧ DTab b l e := by
  have hm : b.size ≤ maxLen := by unfold maxLen; omega
  obtain ⟨n, s, e, hn, hsb, _, hP, hD, hH, hI⟩ := secs_both b hb
  by_cases he : e = 0
  case neg =>
    refine ⟨[], e, Nat.zero_le _, fun _ => rfl, fun w hM => ?_, fun w => ?_⟩
    · by_cases hE : identE b = 0
      · exact (table_no2 b n s e w hM hm hE he hP).mono fun r w' ⟨h1, h2⟩ => ⟨_, h1, World.ownsRow_nil _ _ _ _, h2⟩
      · rw [hI hE]
        exact (table_no1 b w hM hm hE).mono fun r w' ⟨h1, h2⟩ => ⟨_, h1, World.ownsRow_nil _ _ _ _, h2⟩
    · exact (dtable_no b n s e w he hD).mono fun r w' ⟨h1, h2⟩ => ⟨_, h1, World.ownsRow_nil _ _ _ _, h2⟩
  subst he
  obtain ⟨hE, x2, x3, x4, x5, x6, x7, hH⟩ := hH rfl
  have ho := ord_ok b hE
  have hlen (c : Nat) : (tabL b c (ord b) n s 0).length ≤ 1717960704 := by
    cases ht : tabOf b c (ord b) n s n with
    | error f => rw [(tab_err ht).2]; exact Nat.zero_le _
    | ok l =>
      rw [(tab_ok ht).2]
      have := tab_length hb n l ht
      omega
  have hnil (c : Nat) : tabE b c (ord b) n s 0 ≠ 0 → tabL b c (ord b) n s 0 = [] := fun h => by
    cases ht : tabOf b c (ord b) n s n with
    | error f => exact (tab_err ht).2
    | ok l => exact absurd (tab_ok ht).1 h
  rcases cls_ok b hE with hc | hc
  · rw [hc] at hH
    exact ⟨_, _, hlen 32, hnil 32, fun w hM => table_32 b n s w hM hb hE hc hn hsb hP, fun w => dtable_32 b n s (ord b) x2 x3 x4 x5 x6 x7 w hb ho hn hsb hD hH⟩
  · rw [hc] at hH
    exact ⟨_, _, hlen 64, hnil 64, fun w hM => table_64 b n s w hM hb hE hc hn hsb hP, fun w => dtable_64 b n s (ord b) x2 x3 x4 x5 x6 x7 w hb ho hn hsb hD hH⟩
end Go.Proofs.YtaeigacinefhnaaDoor
