import Derived.Test.YtaeigacinefhnaaDoorM1
import Derived.Test.YtaeigacinefhnaaDoorM3
import Derived.Test.YtaeigacinefhnaaDoorM8

-- elf.Content of a section, by the plain words: contracts; the document's beside it.
namespace Go.Proofs.YtaeigacinefhnaaDoor
open Go.ChangeShapes Go.WideShapes Go.ChangeAt Go.RowKit
set_option linter.unusedVariables false
set_option maxRecDepth 100000
theorem pcont_ok (b t : ByteArray) (x : Sec) (hm : b.size ≤ maxLen) (h : cont b x = some t) (w : World) : Calls Tryd.prog 51 #[.string b, .agg x.v] w fun r w' => r = .returned (.tuple #[.string t, .int .i64 0]) ∧ Below w.heap.size w w' := by
  unfold cont at h
  split at h
  · rename_i h8
    obtain rfl := Option.some.inj h
    exact Content_ok b _ _ _ _ _ _ _ _ _ w fun w => content_room b _ _ _ _ _ _ _ _ w (by rw [h8]; rfl)
  · rename_i h8
    split at h
    · rename_i hin
      obtain rfl := Option.some.inj h
      exact Content_ok b _ _ _ _ _ _ _ _ _ w fun w => content_ok b _ _ _ _ _ _ x.off x.sz w (beq_eq_false_iff_ne.2 (by omega)) hin.1 hin.2 hm
    · cases h
theorem pcont_no (b : ByteArray) (x : Sec) (hm : b.size ≤ maxLen) (hx : x.off < 18446744073709551616 ∧ x.sz < 18446744073709551616) (h : cont b x = none) (w : World) : Calls Tryd.prog 51 #[.string b, .agg x.v] w fun r w' => r = .returned (.tuple #[.string .empty, .int .i64 54]) ∧ Below w.heap.size w w' := by
  unfold cont at h
  split at h
  · cases h
  · rename_i h8
    split at h
    · cases h
    · rename_i hin
      exact Content_no b _ _ _ _ _ _ _ _ 54 w fun w => content_no b _ _ _ _ _ _ x.off x.sz w (beq_eq_false_iff_ne.2 (by omega)) hx.1 hx.2 hin hm
theorem dcont_ok (b t : ByteArray) (x : Sec) (hm : b.size ≤ maxLen) (h : cont b x = some t) (w : World) : Calls Tryd.prog 61 #[.string b, .agg x.v] w fun r w' => r = .returned (.tuple #[.string t, .int .i64 0]) ∧ Below w.heap.size w w' := by
  unfold cont at h
  split at h
  · rename_i h8
    obtain rfl := Option.some.inj h
    exact rContent_room b _ _ _ _ _ _ _ _ w (by rw [h8]; rfl)
  · rename_i h8
    split at h
    · rename_i hin
      obtain rfl := Option.some.inj h
      exact rContent_ok b _ _ _ _ _ _ x.off x.sz w (beq_eq_false_iff_ne.2 (by omega)) hin.1 hin.2 hm
    · cases h
theorem dcont_no (b : ByteArray) (x : Sec) (hm : b.size ≤ maxLen) (hx : x.off < 18446744073709551616 ∧ x.sz < 18446744073709551616) (h : cont b x = none) (w : World) : Calls Tryd.prog 61 #[.string b, .agg x.v] w fun r w' => r = .returned (.tuple #[.string .empty, .int .i64 54]) ∧ Below w.heap.size w w' := by
  unfold cont at h
  split at h
  · cases h
  · rename_i h8
    split at h
    · cases h
    · rename_i hin
      exact rContent_no b _ _ _ _ _ _ x.off x.sz w (beq_eq_false_iff_ne.2 (by omega)) hx.1 hx.2 hin hm
end Go.Proofs.YtaeigacinefhnaaDoor

-- syms: opening a symbol table by the plain words, class 32: contract.
namespace Go.Proofs.YtaeigacinefhnaaDoor
open Go.ChangeShapes Go.WideShapes Go.ChangeAt Go.RowKit
set_option linter.unusedVariables false
set_option maxRecDepth 100000
/-- what open answers -/
def Opened32 (b : ByteArray) (k : Nat) (o : Int) (n : Nat) (s : Nat → Sec) (x : Sec) (w : World) (r : Ending) (w' : World) : Prop :=
  Kq k w w' ∧ ((∃ e, e ≠ 0 ∧ openOf b 32 n s x = .error e ∧ r = .returned (.int .i64 e)) ∨ (∃ t names, openOf b 32 n s x = .ok (t, names) ∧ r = .returned (.int .i64 0) ∧ w'.heap[k]? = some (.cells (tabCells col32 o t names) 78 (0, 0))))
theorem opened_32 (b t0 n0 : ByteArray) (k B n : Nat) (o : Int) (v : Value) (s : Nat → Sec) (x : Sec) (w : World) (hF : w.heap[k]? = some (.cells (tabCells col32 o t0 n0) 78 (0, 0))) (hS : SecsIn B w v n s) (hn : n ≤ 26214) (hB : SecB s) (hx : x.off < 18446744073709551616 ∧ x.sz < 18446744073709551616) (hb : b.size ≤ 1048576) :
    Calls Tryd.prog 33 #[.pointer (some ⟨k, 0, none⟩), .string b, v, .agg x.v] w (Opened32 b k o n s x w) := by
  have hm : b.size ≤ maxLen := by unfold maxLen; omega
  obtain ⟨x0, x1, x2, x3, x4, x5, x6, x7⟩ := x
  by_cases h7 : x7 = 16
  case neg =>
    refine (open_55a_32 b t0 n0 k o v x0 x1 x2 x3 x4 x5 x6 x7 w hF h7).mono fun r w' ⟨h1, h2⟩ => ⟨h2, Or.inl ⟨55, by decide, ?_, h1⟩⟩
    unfold openOf
    rw [if_neg]
    intro h
    exact h7 h.1
  subst h7
  by_cases h6 : x6 % 16 = 0
  case neg =>
    refine (open_55b_32 b t0 n0 k o v x0 x1 x2 x3 x4 x5 x6 w hF hx.2 h6).mono fun r w' ⟨h1, h2⟩ => ⟨h2, Or.inl ⟨55, by decide, ?_, h1⟩⟩
    unfold openOf
    rw [if_neg]
    intro h
    exact h6 h.2
  have hop : openOf b 32 n s ⟨x0, x1, x2, x3, x4, x5, x6, 16⟩ = match cont b ⟨x0, x1, x2, x3, x4, x5, x6, 16⟩ with
    | none => .error 54
    | some t => if x3 < n ∧ (s x3).ty = 3 then
        match cont b (s x3) with
        | none => .error 54
        | some names => .ok (t, names)
      else .error 60 := by
    unfold openOf
    exact if_pos ⟨rfl, h6⟩
  cases hc : cont b ⟨x0, x1, x2, x3, x4, x5, x6, 16⟩ with
  | none =>
    refine (open_54a_32 b t0 n0 k o v x0 x1 x2 x3 x4 x5 x6 w hF hx.2 h6 (fun w => pcont_no b _ hm hx hc w)).mono fun r w' ⟨h1, h2⟩ => ⟨h2, Or.inl ⟨54, by decide, ?_, h1⟩⟩
    rw [hop, hc]
  | some t =>
    rw [hc] at hop
    obtain ⟨ao, cp, rfl, hr⟩ := hS
    by_cases hl : x3 < n
    case neg =>
      refine (open_60a_32 b t0 n0 t k o n cp ao x0 x1 x2 x3 x4 x5 x6 w hF hx.2 h6 (by omega) (fun w => pcont_ok b t _ hm hc w)).mono fun r w' ⟨h1, h2⟩ => ⟨h2, Or.inl ⟨60, by decide, ?_, h1⟩⟩
      rw [hop]
      exact if_neg (fun h => hl h.1)
    obtain ⟨g, cur, rfl, _, hg, hcur⟩ := hr (by omega)
    have hgk : g ≠ k := by
      rintro rfl
      rw [hg] at hF
      simp only [Option.some.injEq, Obj.cells.injEq] at hF
      exact absurd hF.2.1 (by decide)
    have hy := hcur x3
    have hby := hB x3
    cases hsx : s x3 with
    | mk y0 y1 y2 y3 y4 y5 y6 y7 =>
      rw [hsx] at hy hby hop
      by_cases h3 : y1 = 3
      case neg =>
        refine (open_60b_32 b t0 n0 t k o n cp g cur y0 y1 y2 y3 y4 y5 y6 y7 x0 x1 x2 x3 x4 x5 x6 w hF hx.2 h6 hl hn hg hgk (fun m hm => hy m hl hm) h3 (fun w => pcont_ok b t _ hm hc w)).mono fun r w' ⟨h1, h2⟩ => ⟨h2, Or.inl ⟨60, by decide, ?_, h1⟩⟩
        rw [hop]
        exact if_neg (fun h => h3 h.2)
      subst h3
      cases hd : cont b ⟨y0, 3, y2, y3, y4, y5, y6, y7⟩ with
      | none =>
        refine (open_54b_32 b t0 n0 t k o n cp g cur y0 y2 y3 y4 y5 y6 y7 x0 x1 x2 x3 x4 x5 x6 w hF hx.2 h6 hl hn hg hgk (fun m hm => hy m hl hm) (fun w => pcont_ok b t _ hm hc w) (fun w => pcont_no b _ hm hby hd w)).mono fun r w' ⟨h1, h2⟩ => ⟨h2, Or.inl ⟨54, by decide, ?_, h1⟩⟩
        rw [hop, hd]
        exact if_pos ⟨hl, rfl⟩
      | some names =>
        refine (open_ok_32 b t0 n0 t names k o n cp g cur y0 y2 y3 y4 y5 y6 y7 x0 x1 x2 x3 x4 x5 x6 w hF hx.2 h6 hl hn hg hgk (fun m hm => hy m hl hm) (fun w => pcont_ok b t _ hm hc w) (fun w => pcont_ok b names _ hm hd w)).mono fun r w' ⟨h1, h2, h3⟩ => ⟨h2, Or.inr ⟨t, names, ?_, h1, h3⟩⟩
        rw [hop, hd]
        exact if_pos ⟨hl, rfl⟩
end Go.Proofs.YtaeigacinefhnaaDoor

-- syms: opening a symbol table by the plain words, class 64: contract.
namespace Go.Proofs.YtaeigacinefhnaaDoor
open Go.ChangeShapes Go.WideShapes Go.ChangeAt Go.RowKit
set_option linter.unusedVariables false
set_option maxRecDepth 100000
/-- what open answers -/
def Opened64 (b : ByteArray) (k : Nat) (o : Int) (n : Nat) (s : Nat → Sec) (x : Sec) (w : World) (r : Ending) (w' : World) : Prop :=
  Kq k w w' ∧ ((∃ e, e ≠ 0 ∧ openOf b 64 n s x = .error e ∧ r = .returned (.int .i64 e)) ∨ (∃ t names, openOf b 64 n s x = .ok (t, names) ∧ r = .returned (.int .i64 0) ∧ w'.heap[k]? = some (.cells (tabCells col64 o t names) 78 (0, 0))))
theorem opened_64 (b t0 n0 : ByteArray) (k B n : Nat) (o : Int) (v : Value) (s : Nat → Sec) (x : Sec) (w : World) (hF : w.heap[k]? = some (.cells (tabCells col64 o t0 n0) 78 (0, 0))) (hS : SecsIn B w v n s) (hn : n ≤ 26214) (hB : SecB s) (hx : x.off < 18446744073709551616 ∧ x.sz < 18446744073709551616) (hb : b.size ≤ 1048576) :
    Calls Tryd.prog 33 #[.pointer (some ⟨k, 0, none⟩), .string b, v, .agg x.v] w (Opened64 b k o n s x w) := by
  have hm : b.size ≤ maxLen := by unfold maxLen; omega
  obtain ⟨x0, x1, x2, x3, x4, x5, x6, x7⟩ := x
  by_cases h7 : x7 = 24
  case neg =>
    refine (open_55a_64 b t0 n0 k o v x0 x1 x2 x3 x4 x5 x6 x7 w hF h7).mono fun r w' ⟨h1, h2⟩ => ⟨h2, Or.inl ⟨55, by decide, ?_, h1⟩⟩
    unfold openOf
    rw [if_neg]
    intro h
    exact h7 h.1
  subst h7
  by_cases h6 : x6 % 24 = 0
  case neg =>
    refine (open_55b_64 b t0 n0 k o v x0 x1 x2 x3 x4 x5 x6 w hF hx.2 h6).mono fun r w' ⟨h1, h2⟩ => ⟨h2, Or.inl ⟨55, by decide, ?_, h1⟩⟩
    unfold openOf
    rw [if_neg]
    intro h
    exact h6 h.2
  have hop : openOf b 64 n s ⟨x0, x1, x2, x3, x4, x5, x6, 24⟩ = match cont b ⟨x0, x1, x2, x3, x4, x5, x6, 24⟩ with
    | none => .error 54
    | some t => if x3 < n ∧ (s x3).ty = 3 then
        match cont b (s x3) with
        | none => .error 54
        | some names => .ok (t, names)
      else .error 60 := by
    unfold openOf
    exact if_pos ⟨rfl, h6⟩
  cases hc : cont b ⟨x0, x1, x2, x3, x4, x5, x6, 24⟩ with
  | none =>
    refine (open_54a_64 b t0 n0 k o v x0 x1 x2 x3 x4 x5 x6 w hF hx.2 h6 (fun w => pcont_no b _ hm hx hc w)).mono fun r w' ⟨h1, h2⟩ => ⟨h2, Or.inl ⟨54, by decide, ?_, h1⟩⟩
    rw [hop, hc]
  | some t =>
    rw [hc] at hop
    obtain ⟨ao, cp, rfl, hr⟩ := hS
    by_cases hl : x3 < n
    case neg =>
      refine (open_60a_64 b t0 n0 t k o n cp ao x0 x1 x2 x3 x4 x5 x6 w hF hx.2 h6 (by omega) (fun w => pcont_ok b t _ hm hc w)).mono fun r w' ⟨h1, h2⟩ => ⟨h2, Or.inl ⟨60, by decide, ?_, h1⟩⟩
      rw [hop]
      exact if_neg (fun h => hl h.1)
    obtain ⟨g, cur, rfl, _, hg, hcur⟩ := hr (by omega)
    have hgk : g ≠ k := by
      rintro rfl
      rw [hg] at hF
      simp only [Option.some.injEq, Obj.cells.injEq] at hF
      exact absurd hF.2.1 (by decide)
    have hy := hcur x3
    have hby := hB x3
    cases hsx : s x3 with
    | mk y0 y1 y2 y3 y4 y5 y6 y7 =>
      rw [hsx] at hy hby hop
      by_cases h3 : y1 = 3
      case neg =>
        refine (open_60b_64 b t0 n0 t k o n cp g cur y0 y1 y2 y3 y4 y5 y6 y7 x0 x1 x2 x3 x4 x5 x6 w hF hx.2 h6 hl hn hg hgk (fun m hm => hy m hl hm) h3 (fun w => pcont_ok b t _ hm hc w)).mono fun r w' ⟨h1, h2⟩ => ⟨h2, Or.inl ⟨60, by decide, ?_, h1⟩⟩
        rw [hop]
        exact if_neg (fun h => h3 h.2)
      subst h3
      cases hd : cont b ⟨y0, 3, y2, y3, y4, y5, y6, y7⟩ with
      | none =>
        refine (open_54b_64 b t0 n0 t k o n cp g cur y0 y2 y3 y4 y5 y6 y7 x0 x1 x2 x3 x4 x5 x6 w hF hx.2 h6 hl hn hg hgk (fun m hm => hy m hl hm) (fun w => pcont_ok b t _ hm hc w) (fun w => pcont_no b _ hm hby hd w)).mono fun r w' ⟨h1, h2⟩ => ⟨h2, Or.inl ⟨54, by decide, ?_, h1⟩⟩
        rw [hop, hd]
        exact if_pos ⟨hl, rfl⟩
      | some names =>
        refine (open_ok_64 b t0 n0 t names k o n cp g cur y0 y2 y3 y4 y5 y6 y7 x0 x1 x2 x3 x4 x5 x6 w hF hx.2 h6 hl hn hg hgk (fun m hm => hy m hl hm) (fun w => pcont_ok b t _ hm hc w) (fun w => pcont_ok b names _ hm hd w)).mono fun r w' ⟨h1, h2, h3⟩ => ⟨h2, Or.inr ⟨t, names, ?_, h1, h3⟩⟩
        rw [hop, hd]
        exact if_pos ⟨hl, rfl⟩
end Go.Proofs.YtaeigacinefhnaaDoor
