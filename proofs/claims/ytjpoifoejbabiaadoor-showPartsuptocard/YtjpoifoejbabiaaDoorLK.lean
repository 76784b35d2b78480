
-- ShowLine, ShowListBack: walks over any Line, List that tell so.
import Derived.Test.YtjpoifoejbabiaaDoorGT
import Derived.Test.YtjpoifoejbabiaaDoorRI
import Derived.Test.YtjpoifoejbabiaaDoorPQ
import Derived.Test.YtjpoifoejbabiaaDoorW4
namespace Go.Proofs.YtjpoifoejbabiaaDoor
open Go.ChangeShapes Go.WideShapes Go.ChangeAt Go.RowKit
set_option linter.unusedVariables false
set_option maxRecDepth 100000
set_option linter.unusedSimpArgs false
set_option maxHeartbeats 4000000 in
theorem twin14_c (v : Value) (L : List Mx) (w : World) (h : RowM w v L) (hl : L.length ≤ 2097152) :
    Calls Tryd.prog 7 #[v] w fun e w' => ∃ u, e = .returned u ∧ RowM w' u L ∧ Below w.heap.size w w' := by
  obtain ⟨i0, hi, hz0, hz1, hz2⟩ := info_parts infoMx
  obtain ⟨ao, cap, e, h1, h2, h3, h4⟩ := h
  obtain ⟨n, hnn⟩ : ∃ n, n = L.length := ⟨_, rfl⟩
  have HN := hidK hnn
  subst e
  rw [← hnn] at hl h1 h4 ⊢
  have hle : (L.flatMap mxL).length = n * 7 := by rw [flatG_len mxL 7 mxL_len, hnn]
  have hB := Below.refl w.heap.size w
  cases ao with
  | none =>
    have hc := h3 rfl
    subst hc
    have hn0 : n = 0 := by omega
    have hL : L = [] := List.eq_nil_of_length_eq_zero (by omega)
    have ho : w.ownsRow w.heap.size 26 7 (.slice none 0 0) 0 (([] : List Mx).flatMap mxL) := ⟨rfl, .inl ⟨rfl, rfl⟩⟩
    subst hn0
    subst hL
    clear h1 h2 h3 h4 hnn hle
    go_enter Tryd.func7, Tryd.ntmps7
    go_wp2_with (refine wpList_append_own_none rfl (.const (.slice none 0 0)) (.tmp 3) 22 rfl w.heap.size 26 i0 7 Tryd.underlying22 hi _ _ _ rfl ho rfl ?_)
    go_ret
    exact ⟨_, rfl, OwnM.row (L := []) ho, hB⟩
  | some ad =>
    have hcl : ∀ j u, (L.flatMap mxL)[j]? = some u → w.cell? (ad.add j) = some u := by
      intro j u hu
      have hj : j < (L.flatMap mxL).length := (List.getElem?_eq_some_iff.1 hu).1
      obtain ⟨b, off, e, hc⟩ := h4 (by omega)
      injection e with e
      subst e
      rw [Addr.add_mid]
      exact hc j u hu
    clear h1 h2 h3 h4 hnn
    go_enter Tryd.func7, Tryd.ntmps7
    go_wp2_with (refine wpList_append_own _ rfl (.const (.slice none 0 0)) (.tmp 3) 22 rfl w.heap.size 26 i0 (.agg #[.int .i64 0, .int .i64 0, .int .i64 0, .int .i64 0, .string ⟨#[]⟩, .int .i64 0, .string ⟨#[]⟩]) 7 72 Tryd.underlying22 hi hz0 hz1 hz2 rfl (by decide) (.slice none 0 0) 0 [] rfl ⟨rfl, .inl ⟨rfl, rfl⟩⟩ ad n cap (L.flatMap mxL) rfl hle hcl (flatG_one mxL_one L) (by unfold maxLen; omega) (by omega) (Nat.le_refl _) ?_; intro v1 w1 o1 g1 _; have hB1 := below_grow hB g1 (e := 26) (size := 7) (k := 0) (xs := []) ⟨rfl, .inl ⟨rfl, rfl⟩⟩ (Nat.le_refl _); rw [Nat.zero_add, List.nil_append] at o1; clear g1)
    go_ret
    refine ⟨_, rfl, ?_, hB1⟩
    have o2 : OwnM w.heap.size w1 v1 L := by unfold OwnM; rw [← HN.out]; exact o1
    exact OwnM.row o2
def LineOk (f : Nat) : Prop := ∀ (x : Mx) (w : World), okM x → x.n.size ≤ 2097152 → LTabs w → Calls Tryd.prog f #[.agg (mxL x).toArray] w fun e w' => e = .returned (.string (lineB x)) ∧ Below w.heap.size w w'
end Go.Proofs.YtjpoifoejbabiaaDoor
