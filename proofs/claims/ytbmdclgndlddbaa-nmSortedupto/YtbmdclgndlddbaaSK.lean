
-- nm.Sort's closure.
import Derived.Test.YtbmdclgndlddbaaSJ
import Derived.Test.YtbmdclgndlddbaaSH
import Derived.Test.YtbmdclgndlddbaaA0
import Derived.Deep.QuietTactic
import Derived.BigQuiet
import Derived.Laws.Cover1
import Derived.Deep.Draws
import Derived.Deep.Cut
namespace Go.Proofs.Ytbmdclgndlddbaa
open Go.ChangeShapes Go.WideShapes Go.ChangeAt Go.RowKit Go.Sort
set_option linter.unusedVariables false
set_option maxRecDepth 100000
/-- draws and new blocks alone -/
def Gr (w w' : World) : Prop := ∃ q os, w' = grow (w.drewN q) os
theorem Gr.refl (w : World) : Gr w w := ⟨0, #[], by rw [grow_empty]; rfl⟩
theorem Gr.alloc {w w' : World} (h : Gr w w') (o : Obj) : Gr w (w'.alloc o) := by
  obtain ⟨q, os, rfl⟩ := h
  exact ⟨q, os ++ #[o], by rw [← grow_grow, ← alloc_eq_grow]⟩
theorem Gr.drewN {w w' : World} (h : Gr w w') (n : Nat) : Gr w (w'.drewN n) := by
  obtain ⟨q, os, rfl⟩ := h
  refine ⟨q + n, os, ?_⟩
  show grow ((w.drewN q).drewN n) os = _
  congr 1
  simp [World.drewN, Nat.add_assoc]
theorem Gr.drew {w w' : World} (h : Gr w w') : Gr w w'.drew := h.drewN 1
theorem Gr.trans {a b c : World} (h : Gr a b) (k : Gr b c) : Gr a c := by
  obtain ⟨q, os, rfl⟩ := k
  obtain ⟨q', os', e⟩ := h.drewN q
  rw [e]
  exact ⟨q', os' ++ os, by rw [grow_grow]⟩
theorem Gr.below {w w' : World} (h : Gr w w') : Below w.heap.size w w' := by
  obtain ⟨q, os, rfl⟩ := h
  refine ⟨rfl, rfl, rfl, by rw [size_grow]; exact Nat.le_add_right _ _, fun k hk => ?_⟩
  unfold grow
  simp only []
  rw [Array.getElem?_append_left (by simpa using hk)]
  rfl
def cS (a b : ByteArray) : Int := if sltB a b = true then -1 else if sltB b a = true then 1 else 0
def cI (a b : Int) : Int := if a < b then -1 else if b < a then 1 else 0
theorem gtr_eq {a b : ByteArray} (h : sltB a b = false) : (!(Op.bytesLess a.toList b.toList || a.toList == b.toList)) = sltB b a := by
  have h1 : Op.bytesLess a.toList b.toList = false := h
  rw [h1, Bool.false_or]
  by_cases e : a = b
  · subst e; rw [sltB_irr]; simp
  · rw [strNe e]
    cases h2 : sltB b a with
    | true => rfl
    | false => exact absurd (sltB_tri h h2) e
set_option maxHeartbeats 1000000 in
theorem cmpS_c (a b : ByteArray) (w : World) : Calls Try.prog 14 #[.string a, .string b] w fun e w' => e = .returned (.int .i64 (cS a b)) ∧ w' = w := by
  have hg := @gtr_eq a b
  unfold cS
  cases h1 : sltB a b with
  | true =>
    have h2 : Op.bytesLess a.toList b.toList = true := h1
    clear hg
    go_enter Try.func14, Try.ntmps14
    go_wp2
    go_ret
    exact ⟨rfl, rfl⟩
  | false =>
    have h2 : Op.bytesLess a.toList b.toList = false := h1
    have h3 := hg h1
    clear hg
    rw [h2, Bool.false_or] at h3
    cases h4 : sltB b a with
    | true =>
      rw [h4] at h3
      have h5 : (a.toList == b.toList) = false := by cases q : (a.toList == b.toList) <;> rw [q] at h3 <;> first | rfl | cases h3
      go_enter Try.func14, Try.ntmps14
      go_wp2
      go_ret
      exact ⟨rfl, rfl⟩
    | false =>
      rw [h4] at h3
      have h5 : (a.toList == b.toList) = true := by cases q : (a.toList == b.toList) <;> rw [q] at h3 <;> first | rfl | cases h3
      go_enter Try.func14, Try.ntmps14
      go_wp2
      go_ret
      exact ⟨rfl, rfl⟩
set_option maxHeartbeats 1000000 in
theorem cmpU_c (a b : Int) (w : World) : Calls Try.prog 15 #[.int .u64 a, .int .u64 b] w fun e w' => e = .returned (.int .i64 (cI a b)) ∧ w' = w := by
  unfold cI
  by_cases h1 : a < b
  · rw [if_pos h1]
    go_enter Try.func15, Try.ntmps15
    go_wp2
    go_ret
    exact ⟨rfl, rfl⟩
  · rw [if_neg h1]
    by_cases h2 : b < a
    · rw [if_pos h2]
      go_enter Try.func15, Try.ntmps15
      go_wp2
      go_ret
      exact ⟨rfl, rfl⟩
    · rw [if_neg h2]
      go_enter Try.func15, Try.ntmps15
      go_wp2
      go_ret
      exact ⟨rfl, rfl⟩
def orL (L : List Int) : Int := (L.find? (fun x => decide (x ≠ 0))).getD 0
set_option maxHeartbeats 2000000 in
theorem or_c (v : Value) (L : List Int) (w : World) (h : RowI w v L) (hn : L.length ≤ 16) :
    Calls Try.prog 16 #[v] w fun e w' => e = .returned (.int .i64 (orL L)) ∧ w' = w := by
  obtain ⟨a1, c1, q1, _, _⟩ := h.form
  obtain ⟨n, hnn⟩ : ∃ n, n = L.length := ⟨_, rfl⟩
  have HN := hidK hnn
  have HV := hidK h
  subst q1
  rw [← hnn] at hn ⊢ HV
  clear h hnn
  go_enter Try.func16, Try.ntmps16
  go_wp2
  go_loopw [8] (fun i wx => ∃ k : Nat, i = .int .i64 k ∧ k ≤ n ∧ (∀ x ∈ L.take k, x = 0) ∧ wx = w) (fun i _ => n - (intOf i).toNat)
  case atStart => exact ⟨0, rfl, Nat.zero_le _, by simp, rfl⟩
  case round =>
    obtain ⟨k, rfl, hkn, ho, hB⟩ := hrel
    subst wr
    have HO := hidK ho
    clear ho
    by_cases hk : k < n
    · have kI : (k : Int) < (n : Int) := by omega
      have k0 : (0 : Int) ≤ (k : Int) := by omega
      have kw : IntKind.i64.wrap ((k : Int) + 1) = (k : Int) + 1 := by rw [IntKind.wrap_i64]; omega
      obtain ⟨y, hy⟩ : ∃ x, L[k]? = some x := ⟨_, List.getElem?_eq_getElem (by have := HN.out; omega)⟩
      obtain ⟨b1, o1, p1, e1, d0⟩ := HV.out.nm hy
      have HY := hidK hy
      injection e1 with e1 e1b e1c
      subst e1
      clear hy e1b e1c HV
      by_cases hxy : y = 0
      · subst hxy
        go_wp2
        go_roundw
        case rel =>
          refine ⟨k + 1, by go_num, by omega, ?_, by first | rfl | trivial⟩
          rw [takeSucc HY.out]
          intro z hz
          rcases List.mem_append.1 hz with q | q
          · exact HO.out z q
          · rw [List.mem_singleton.1 q]
        case measure => simp [intOf]; omega
      · have HXY := hidK hxy
        go_wp2
        go_ret
        refine ⟨?_, rfl⟩
        have e : L = L.take k ++ (y :: L.drop (k + 1)) := by
          conv => lhs; rw [← List.take_append_drop k L]
          rw [drop_cons' HY.out]
        unfold orL
        rw [e, List.find?_append, List.find?_eq_none.2 (fun x hx => by simp [HO.out x hx]), List.find?_cons_of_pos (by simpa using HXY.out)]
        rfl
    · obtain rfl : k = n := by omega
      clear HV
      go_wp2
      go_ret
      refine ⟨?_, rfl⟩
      have := HO.out
      rw [HN.out, List.take_length] at this
      unfold orL
      rw [List.find?_eq_none.2 (fun x hx => by simp [this x hx])]
      rfl
end Go.Proofs.Ytbmdclgndlddbaa
