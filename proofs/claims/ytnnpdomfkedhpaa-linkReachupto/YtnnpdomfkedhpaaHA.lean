
-- has, member, among; the same lists.
import Derived.Test.YtnnpdomfkedhpaaGP
import Derived.Deep.QuietTactic
namespace Go.Proofs.Ytnnpdomfkedhpaa
open Go.ChangeShapes Go.WideShapes Go.ChangeAt Go.RowKit Go.MapKept
set_option linter.unusedVariables false
set_option maxRecDepth 100000
theorem strNe18 {x y : ByteArray} (h : x ≠ y) : (x.toList == y.toList) = false := strNe h
set_option maxHeartbeats 2000000 in
theorem has_c (v : Value) (L : List ByteArray) (x : ByteArray) (w : World) (h : RowT w v L) (hn : L.length < 4611686018427387904) :
    Calls Try.prog 9 #[v, .string x] w fun e w' => e = .returned (.bool (isIn L x)) ∧ w' = w := by
  obtain ⟨a1, c1, q1, _, _⟩ := h.form
  obtain ⟨n, hnn⟩ : ∃ n, n = L.length := ⟨_, rfl⟩
  have HN := hidK hnn
  have HV := hidK h
  subst q1
  rw [← hnn] at hn ⊢ HV
  clear h hnn
  go_enter Try.func9, Try.ntmps9
  go_wp2
  go_loopw [5] (fun i wx => ∃ k : Nat, i = .int .i64 k ∧ k ≤ n ∧ x ∉ L.take k ∧ wx = w) (fun i _ => n - (intOf i).toNat)
  case atStart => exact ⟨0, rfl, Nat.zero_le _, by simp, rfl⟩
  case round =>
    obtain ⟨k, rfl, hkn, ho, hB⟩ := hrel
    subst wr
    have HO := hidK ho
    clear ho
    by_cases hk : k < n
    · have kI : (k : Int) < (n : Int) := by omega
      have k0 : (0 : Int) ≤ (k : Int) := by omega
      have kw : IntKind.i64.wrap ((k : Int) + 1) = (k : Int) + 1 := by rw [IntKind.wrap_i64]; omega
      have hkl : k < L.length := by have := HN.out; omega
      obtain ⟨y, hy⟩ : ∃ x, L[k]? = some x := ⟨_, List.getElem?_eq_getElem hkl⟩
      obtain ⟨b1, o1, p1, e1, d0⟩ := HV.out.tx hy
      have HY := hidK hy
      injection e1 with e1 e1b e1c
      subst e1
      clear hy hkl e1b e1c HV
      by_cases hxy : y = x
      · subst hxy
        go_wp2
        go_ret
        refine ⟨?_, rfl⟩
        rw [isIn_iff.2 (List.mem_of_getElem? HY.out)]
        rfl
      · have hne := strNe18 hxy
        have HNE := hidK hxy
        clear hxy
        go_wp2
        go_roundw
        case rel =>
          refine ⟨k + 1, by go_num, by omega, ?_, by first | rfl | trivial⟩
          rw [takeSucc HY.out]
          intro hm
          rcases List.mem_append.1 hm with q | q
          · exact HO.out q
          · exact HNE.out (List.mem_singleton.1 q).symm
        case measure => simp [intOf]; omega
    · obtain rfl : k = n := by omega
      clear HV
      go_wp2
      go_ret
      refine ⟨?_, rfl⟩
      have := HO.out
      rw [HN.out, List.take_length] at this
      rw [isIn_no.2 this]
      rfl
def idxI (A : List Int) (x : Int) : Int := match idx A x with
  | some i => (i : Int)
  | none => -1
theorem idxI_some {A : List Int} {x : Int} {k : Nat} (h : A[k]? = some x) (hn : x ∉ A.take k) : idxI A x = (k : Int) := by
  have : idx A x = some k := by
    unfold idx
    rw [List.findIdx?_eq_some_iff_getElem]
    obtain ⟨hl, he⟩ := List.getElem?_eq_some_iff.1 h
    refine ⟨hl, by simp [he], fun j hj => ?_⟩
    simp
    intro e
    exact hn (by rw [← e]; exact List.mem_take_iff_getElem.2 ⟨j, by omega, rfl⟩)
  unfold idxI; rw [this]
theorem idxI_none {A : List Int} {x : Int} (h : x ∉ A) : idxI A x = -1 := by
  have : idx A x = none := by
    unfold idx
    rw [List.findIdx?_eq_none_iff]
    intro y hy
    simp
    intro e; exact h (e ▸ hy)
  unfold idxI; rw [this]
end Go.Proofs.Ytnnpdomfkedhpaa
