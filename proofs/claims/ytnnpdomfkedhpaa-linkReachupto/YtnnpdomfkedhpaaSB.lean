
-- setOf, numbersByPlace, Clone.
import Derived.Test.YtnnpdomfkedhpaaSA
namespace Go.Proofs.Ytnnpdomfkedhpaa
open Go.ChangeShapes Go.WideShapes Go.ChangeAt Go.RowKit Go.MapKept
set_option linter.unusedVariables false
set_option maxRecDepth 100000
/-- a place -/
def paL (p : Int × Int) : List Value := [.int .i64 p.1, .int .i64 p.2]
theorem paL_len (x : Int × Int) : (paL x).length = 2 := rfl
theorem paL_one : ∀ x, ∀ u ∈ paL x, u.oneCell' = true := by
  intro x u hu
  simp only [paL, List.mem_cons, List.not_mem_nil, or_false] at hu
  rcases hu with rfl | rfl <;> rfl
abbrev RowP := RowG paL
theorem RowG.pa {w : World} {v : Value} {L : List (Int × Int)} {k : Nat} {x : Int × Int} (h : RowP w v L) (hx : L[k]? = some x) : ∃ b off cap, v = .slice (some ⟨b, off, none⟩) L.length cap ∧ w.cell? ⟨b, off + k * 2, none⟩ = some (.int .i64 x.1) ∧ w.cell? ⟨b, off + k * 2 + 1, none⟩ = some (.int .i64 x.2) := by
  obtain ⟨b, off, cap, e, _, _, hc⟩ := RowG.at paL_len h hx
  exact ⟨b, off, cap, e, hc 0 _ rfl, hc 1 _ rfl⟩
theorem below_kp {B b : Nat} {a w w' : World} (hb : Below B a w) (hk : Kp (fun k => k = b) w w') (h : B ≤ b) (hB : B ≤ a.heap.size) : Below B a w' :=
  hb.trans (hk.below (fun k e => e ▸ h) (Nat.le_trans hB hb.size))
theorem wp_make {P : Program} (w : World) {ops : Array Oper} {rest : List Oper} {o : Oper} {a : Act} {Q : Exit → Act → World → Prop} (hg : o.guard = none) (x : Operand) (t k e : TypeId) (hop : o.op = Op.makeMap t (some x)) (n : Int) (hx : a.eval x = .int .i64 n) (ht : P.underlying t = some (.map k e))
    (hK : wpList P ops Q rest (a.put o.dst (.map (some w.heap.size))) (w.alloc (.map #[] 0))) : wpList P ops Q (o :: rest) a w := by
  refine wpList_plain hg fun K' hK' => ?_
  have hrun : (Instr.makeMap t (some (.int .i64 n))).run P w = .ok (.map (some w.heap.size)) (w.alloc (.map #[] 0)) := by
    simp [Instr.makeMap, run_underlying ht, asInt, asIntOf, newObj, Result.andThen]
    rfl
  unfold Oper.wp
  simp [execOp, hop, hx, hrun, Result.andThen]
  exact hK' _ _ hK
set_option maxHeartbeats 2000000 in
theorem setOfS_c (v : Value) (L : List ByteArray) (w : World) (h : RowT w v L) (hn : L.length < 4611686018427387904) :
    Calls Try.prog 18 #[v] w fun e w' => ∃ b, e = .returned (.map (some b)) ∧ b = w.heap.size ∧ SetS w' b (setF L) ∧ Below w.heap.size w w' := by
  obtain ⟨a1, c1, q1, _, _⟩ := h.form
  obtain ⟨n, hnn⟩ : ∃ n, n = L.length := ⟨_, rfl⟩
  have HN := hidK hnn
  have HV := hidK h
  subst q1
  rw [← hnn] at hn ⊢ HV
  clear h hnn
  have HM : Hid (SetS (w.alloc (.map #[] 0)) w.heap.size (setF ([] : List ByteArray))) := (MpAt.made IsSt Value.string w).congr (fun x => rfl)
  go_enter Try.func18, Try.ntmps18
  go_wp2_with (refine wp_make _ rfl _ 60 9 77 rfl _ rfl mapS_u ?_)
  go_loopw [11] (fun i wx => ∃ k : Nat, i = .int .i64 k ∧ k ≤ n ∧ SetS wx w.heap.size (setF (L.take k)) ∧ Below w.heap.size w wx) (fun i _ => n - (intOf i).toNat)
  case atStart => exact ⟨0, rfl, Nat.zero_le _, HM.out, (Below.refl _ _).alloc (Nat.le_refl _) _⟩
  case round =>
    obtain ⟨k, rfl, hkn, ho, hB⟩ := hrel
    have HO := hidK ho
    clear ho
    by_cases hk : k < n
    · have kI : (k : Int) < (n : Int) := by omega
      have k0 : (0 : Int) ≤ (k : Int) := by omega
      have hkl : k < L.length := by have := HN.out; omega
      obtain ⟨x, hx⟩ : ∃ x, L[k]? = some x := ⟨_, List.getElem?_eq_getElem hkl⟩
      obtain ⟨b1, o1, p1, e1, d0⟩ := (HV.out.on hB).tx hx
      have HX := hidK hx
      injection e1 with e1 e1b e1c
      subst e1
      have HA := hidK (addS_c w.heap.size (L.take k) x wr HO.out)
      clear hx hkl e1b e1c HV
      go_wp2_with (go_at_call 23; refine HA.out.mono ?_; rintro e w1 ⟨rfl, hs1, hk1⟩; have HS := hidK hs1; have HB1 := hidK (below_kp hB hk1 (Nat.le_refl _) (Nat.le_refl _)); clear hs1 hk1)
      go_roundw
      case rel => exact ⟨k + 1, by go_num, by omega, by rw [takeSucc HX.out]; exact HS.out, HB1.out⟩
      case measure => simp [intOf]; omega
    · obtain rfl : k = n := by omega
      clear HV
      go_wp2
      go_ret
      refine ⟨_, rfl, rfl, ?_, hB⟩
      have := HO.out
      rw [HN.out, List.take_length] at this
      exact this
end Go.Proofs.Ytnnpdomfkedhpaa
