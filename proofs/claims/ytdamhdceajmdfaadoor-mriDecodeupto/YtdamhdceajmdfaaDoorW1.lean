
-- wordsOf: a new list of words.
import Derived.Test.YtdamhdceajmdfaaDoorV1
namespace Go.Proofs.YtdamhdceajmdfaaDoor
open Go.ChangeShapes Go.WideShapes Go.ChangeAt Go.RowKit Go.MapKept
set_option linter.unusedVariables false
set_option maxRecDepth 100000
set_option linter.unusedSimpArgs false
def NmSays (r : Option (List ByteArray)) (w : World) (e : Ending) (w' : World) : Prop := Below w.heap.size w w' ∧ ∃ v, e = .returned (.tuple #[v, .bool r.isSome]) ∧ OwnT w.heap.size w' v (r.getD [])
set_option maxHeartbeats 4000000 in
theorem idxBr_c (v : Value) (L : List ByteArray) (w : World) (hv : RowT w v L) (hn : L.length < 4294967296) :
    Calls Tryd.prog 64 #[v, .func (.func 41) #[] #[]] w fun e w' => (∃ i : Int, e = .returned (.int .i64 i) ∧ decide (0 ≤ i) = L.any isBr) ∧ w' = w := by
  obtain ⟨a1, c1, q1⟩ := hv.slice
  obtain ⟨n, hnn⟩ : ∃ n, n = L.length := ⟨_, rfl⟩
  have HN := hidK hnn
  have HV := hidK hv
  rw [← hnn] at q1 hn
  clear hnn
  subst q1
  go_enter Tryd.func64, Tryd.ntmps64
  clear hv
  go_wp2
  go_loopw [8] (fun i wx => ∃ k : Nat, i = .int .i64 k ∧ k ≤ n ∧ (∀ j y, j < k → L[j]? = some y → isBr y = false) ∧ wx = w) (fun i _ => n - (intOf i).toNat)
  case atStart => exact ⟨0, rfl, Nat.zero_le _, fun j y h => absurd h (Nat.not_lt_zero _), rfl⟩
  case round =>
    obtain ⟨k, rfl, hkn, hno, hB⟩ := hrel
    have HNO := hidK hno
    clear hno
    subst hB
    by_cases hk : k < n
    · have kI : (k : Int) < (n : Int) := by omega
      have k0 : (0 : Int) ≤ (k : Int) := by omega
      have hkl : k < L.length := by have := HN.out; omega
      obtain ⟨x, hx⟩ : ∃ x, L[k]? = some x := ⟨_, List.getElem?_eq_getElem hkl⟩
      obtain ⟨b, off, cap, e1, d1⟩ := RowG.tx HV.out hx
      have HX := hidK hx
      injection e1 with e1 e2 e3
      clear e2 e3
      subst e1
      clear hx hkl
      have HF := hidK (isBracket_c x wr)
      cases hq : isBr x
      · rw [hq] at HF
        have HQ := hidK hq
        clear hq
        go_wp2_with (go_at_call 41; refine HF.out.mono ?_; rintro e w3 ⟨rfl, hb3⟩; subst hb3)
        go_roundw
        case rel =>
          refine ⟨k + 1, by go_num, by omega, fun j y hj hy => ?_, by first | rfl | trivial⟩
          by_cases e : j = k
          · subst e; rw [HX.out] at hy; injection hy with hy; rw [← hy]; exact HQ.out
          · exact HNO.out j y (by omega) hy
        case measure => simp [intOf]; omega
      · rw [hq] at HF
        have HA : Hid (L.any isBr = true) := List.any_eq_true.2 ⟨x, List.mem_of_getElem? HX.out, hq⟩
        clear hq
        go_wp2_with (go_at_call 41; refine HF.out.mono ?_; rintro e w3 ⟨rfl, hb3⟩; subst hb3)
        go_ret
        exact ⟨⟨k, rfl, by rw [HA.out]; simp⟩, rfl⟩
    · obtain rfl : k = n := by omega
      have HE : Hid (L.any isBr = false) := by
        refine List.any_eq_false.2 fun y hy => ?_
        obtain ⟨j, hj⟩ := List.getElem?_of_mem hy
        rw [HNO.out j y (by have := (List.getElem?_eq_some_iff.1 hj).1; have := HN.out; omega) hj]; simp
      clear HV
      go_wp2
      go_ret
      exact ⟨⟨-1, rfl, by rw [HE.out]; rfl⟩, rfl⟩
theorem own_z0 (w : World) : OwnT w.heap.size (w.alloc (.cells #[] 9)) (.slice (some ⟨w.heap.size, 0, none⟩) 0 0) [] :=
  ⟨rfl, .inr ⟨w.heap.size, 0, #[], rfl, Nat.le_refl _, heap_alloc_new w _, by decide, by decide, rfl, rfl⟩⟩
set_option maxHeartbeats 4000000 in
theorem cloneT_c (v : Value) (L : List ByteArray) (w : World) (hv : RowT w v L) (hn : L.length ≤ 67108864) :
    Calls Tryd.prog 61 #[v] w fun e w' => (∃ u, e = .returned u ∧ OwnT w.heap.size w' u L) ∧ Below w.heap.size w w' := by
  have HV := hidK hv
  obtain ⟨a1, c1, q1, h1, h2, h3, h4⟩ := hv
  obtain ⟨n, hnn⟩ : ∃ n, n = L.length := ⟨_, rfl⟩
  rw [← hnn] at q1
  subst q1
  cases a1 with
  | none =>
    have hL : L = [] := List.eq_nil_of_length_eq_zero (by have := h3 rfl; omega)
    clear h1 h2 h3 h4 hnn HV hn
    subst hL
    have hq : ∀ w, (binOp .eql 26 (.slice none n c1) (.slice none 0 0)).run Tryd.prog w = .ok (.bool true) w := fun w => by rfl
    go_enter Tryd.func61, Tryd.ntmps61
    go_wp2
    go_ret
    exact ⟨⟨_, rfl, ownT_nil _ _⟩, Below.refl _ _⟩
  | some ad =>
    have HO := hidK (own_z0 w).f
    have HN := hidK hn
    have HR : Hid (RowT (w.alloc (.cells #[] 9)) (.slice (some ad) n c1) L) := HV.out.on (bupK (Below.refl _ _) _)
    clear h1 h2 h3 h4 hnn HV hn
    have hq : ∀ w, (binOp .eql 26 (.slice (some ad) n c1) (.slice none 0 0)).run Tryd.prog w = .ok (.bool false) w := fun w => by rfl
    go_enter Tryd.func61, Tryd.ntmps61
    go_wp2_with (refine wpG_all (F := fun b => w.heap.size ≤ b) elT rfl _ _ rfl (.slice (some ⟨w.heap.size, 0, none⟩) 0 0) (.slice (some ad) n c1) [] L rfl rfl HO.out HR.out (fun m _ => txL_one m) (by have := HN.out; simp only [List.length_nil]; omega) (fun b hb => by rw [World.size_alloc] at hb; omega) ?_; intro v' w' o1 k1 l1)
    go_ret
    refine ⟨⟨_, rfl, ?_⟩, ?_⟩
    · rw [List.nil_append] at o1; exact o1.t
    · exact (bupK (Below.refl _ w) _).trans (k1.below (fun g hg => by simp [Value.ownBlock] at hg; omega) (by rw [World.size_alloc]; omega))
theorem contBr_c (v : Value) (L : List ByteArray) (w : World) (hv : RowT w v L) (hn : L.length < 4294967296) :
    Calls Tryd.prog 60 #[v, .func (.func 41) #[] #[]] w fun e w' => e = .returned (.bool (L.any isBr)) ∧ w' = w := by
  have H := hidK (idxBr_c v L w hv hn)
  obtain ⟨b, hb⟩ : ∃ b, b = L.any isBr := ⟨_, rfl⟩
  rw [← hb] at H ⊢
  clear hb hv hn
  go_enter Tryd.func60, Tryd.ntmps60
  go_wp2_with (go_at_call 64; refine H.out.mono ?_; rintro e w3 ⟨⟨i, rfl, hi⟩, h3⟩; subst h3)
  go_ret
  exact ⟨by rw [← hi]; rfl, rfl⟩
set_option maxHeartbeats 4000000 in
theorem wordsOf_c (v : Value) (L : List ByteArray) (w : World) (hv : RowT w v L) (hn : L.length ≤ 67108864) :
    Calls Tryd.prog 54 #[v] w fun e w' => NmSays (wordsA L) w e w' := by
  have HC := hidK (contBr_c v L w hv (by omega))
  have HK := hidK (cloneT_c v L w hv hn)
  obtain ⟨a1, c1, q1⟩ := hv.slice
  obtain ⟨n, hnn⟩ : ∃ n, n = L.length := ⟨_, rfl⟩
  rw [← hnn] at q1
  unfold wordsA
  clear hnn hv hn
  subst q1
  cases hb : L.any isBr
  · rw [hb] at HC
    clear hb
    go_enter Tryd.func54, Tryd.ntmps54
    go_wp2_with first | (go_at_call 60; refine HC.out.mono ?_; rintro e w3 ⟨rfl, h3⟩; subst h3) | (go_at_call 61; refine HK.out.mono ?_; rintro e w4 ⟨⟨u, rfl, hu⟩, h4⟩)
    go_ret2
    exact ⟨h4, _, rfl, hu⟩
  · rw [hb] at HC
    clear hb
    go_enter Tryd.func54, Tryd.ntmps54
    go_wp2_with (go_at_call 60; refine HC.out.mono ?_; rintro e w3 ⟨rfl, h3⟩; subst h3)
    go_ret2
    exact ⟨Below.refl _ _, _, rfl, ownT_nil _ _⟩
end Go.Proofs.YtdamhdceajmdfaaDoor
