
-- first: a contract.
import Derived.Test.YtaaagdmhokgcjaaPI
import Derived.Test.YtaaagdmhokgcjaaU2
namespace Go.Proofs.Ytaaagdmhokgcjaa
open Go.ChangeShapes Go.WideShapes Go.ChangeAt Go.RowKit
set_option linter.unusedVariables false
set_option maxRecDepth 100000
set_option linter.unusedSimpArgs false
theorem results_cell_tmp_row13 {P : Program} {fn : Func} {p u : Tmp} {ty : TypeId} (h : fn.results = #[.cell p ty, .tmp u]) (tmps : Array Value) (w : World) (g : Nat) (t : TypeId) (cs : Array Value) (fr : Nat × Nat) (d : TypeDesc) (x : Value)
    (hp : tmps.getD p undef = .pointer (some ⟨g, 0, none⟩)) (hx : tmps.getD u undef = x) (hg : w.heap[g]? = some (.cells cs t fr))
    (hu : P.underlying ty = some d) (hd : (match d with | .struct _ | .array _ _ => true | _ => false) = true) (hi : (P.info? ty).map (·.size) = some cs.size) :
    (results fn tmps).run P w = .ok (.tuple #[.agg cs, x]) w := by
  rw [results_cell_tmp h, hp, hx]
  simp [asAddr, Result.andThen, run_loadVar_row w g t ty cs fr d hg hu hd hi]
theorem fst13_drop {L : List Mx} {k : Nat} {x : Mx} {q : ByteArray} (h : L[k]? = some x) : fst13 (L.drop k) q = if x.n = q then some x else fst13 (L.drop (k + 1)) q := by
  rw [dropCons h]
  unfold fst13
  rw [List.find?_cons]
  by_cases e : x.n = q <;> simp [e]
set_option maxHeartbeats 8000000 in
theorem first_c (v : Value) (L : List Mx) (q : ByteArray) (y : Mx) (w : World) (h : RowM w v L) (hn : L.length ≤ 67108864) (hy : fst13 L q = some y) :
    Calls Try.prog 20 #[v, .string q] w fun e w' => e = .returned (.tuple #[.agg #[.int .i64 y.d, .int .i64 y.u, .int .i64 y.g, .int .i64 y.m, .string y.n, .int .i64 y.s, .string y.dt], .bool true]) ∧ Below w.heap.size w w' := by
  obtain ⟨a1, c1, q1, _, _⟩ := h.form
  obtain ⟨n, hnn⟩ : ∃ n, n = L.length := ⟨_, rfl⟩
  have HN := hidK hnn
  obtain ⟨W0, hW0⟩ : ∃ W0, W0 = w.alloc (.cells #[.int .i64 0, .int .i64 0, .int .i64 0, .int .i64 0, .string ⟨#[]⟩, .int .i64 0, .string ⟨#[]⟩] 32) := ⟨_, rfl⟩
  have hb0 : Below w.heap.size w W0 := by rw [hW0]; exact bupK (Below.refl _ _) _
  have hZ0 : W0.heap[w.heap.size]? = some (.cells #[.int .i64 0, .int .i64 0, .int .i64 0, .int .i64 0, .string ⟨#[]⟩, .int .i64 0, .string ⟨#[]⟩] 32 (0, 0)) := by rw [hW0]; exact heap_alloc_new w _
  have HV := hidK (h.on hb0)
  have HY := hidK hy
  have HB0 := hidK hb0
  have HZ0 := hidK hZ0
  subst q1
  rw [← hnn] at hn ⊢ HV
  clear h hnn hy hb0 hZ0
  go_enter Try.func20, Try.ntmps20
  go_upto_region 1 with fail
  rw [← hW0]
  clear hW0
  go_wp2
  go_loopw [6] (fun i wx => ∃ k : Nat, i = .int .i64 k ∧ k ≤ n ∧ fst13 (L.drop k) q = some y ∧ wx = W0) (fun i _ => n - (intOf i).toNat)
  case atStart => exact ⟨0, rfl, Nat.zero_le _, HY.out, rfl⟩
  case round =>
    obtain ⟨k, rfl, hkn, hz, rfl⟩ := hrel
    have HZ := hidK hz
    clear hz
    by_cases hk : k < n
    · have kI : (k : Int) < (n : Int) := by omega
      have k0 : (0 : Int) ≤ (k : Int) := by omega
      have hkl : k < L.length := by have := HN.out; omega
      obtain ⟨⟨dd, uu, gg, mm, nn, zz, dt⟩, hx⟩ : ∃ x, L[k]? = some x := ⟨_, List.getElem?_eq_getElem hkl⟩
      obtain ⟨b1, o1, p1, e1, d0, d1, d2, d3, d4, d5, d6⟩ := HV.out.mx hx
      have HX := hidK hx
      simp only [] at d0 d1 d2 d3 d4 d5 d6
      injection e1 with e1 e1b e1c
      subst e1
      clear hx hkl e1b e1c HV
      by_cases hq : nn = q
      · subst hq
        have ey : y = ⟨dd, uu, gg, mm, nn, zz, dt⟩ := by have h5 := HZ.out; rw [fst13_drop HX.out, if_pos rfl] at h5; injection h5 with h5; exact h5.symm
        subst ey
        go_wp2_with (refine wpList_store_row_G rfl rfl 32 (.tmp 4) (.tmp 23) rfl w.heap.size 0 (.agg #[.int .i64 dd, .int .i64 uu, .int .i64 gg, .int .i64 mm, .string nn, .int .i64 zz, .string dt]) rfl rfl 32 #[.int .i64 0, .int .i64 0, .int .i64 0, .int .i64 0, .string ⟨#[]⟩, .int .i64 0, .string ⟨#[]⟩] #[.int .i64 dd, .int .i64 uu, .int .i64 gg, .int .i64 mm, .string nn, .int .i64 zz, .string dt] HZ0.out (by kernel_rfl) rfl rfl rfl ?_; intro W3 hW3 hG3)
        refine bodyPost_ret (results_cell_tmp_row13 rfl _ _ w.heap.size _ _ _ _ _ rfl rfl hW3 Try.underlying32 rfl (by kernel_rfl)) rfl ?_
        exact ⟨rfl, below_some HB0.out hG3 (Nat.le_refl _) (Nat.le_refl _)⟩
      · have h1 := strNe hq
        have HE : Hid (fst13 (L.drop (k + 1)) q = some y) := by have h5 := HZ.out; rw [fst13_drop HX.out, if_neg hq] at h5; exact h5
        clear hq
        go_wp2
        go_roundw
        case rel => exact ⟨k + 1, by go_num, by omega, HE.out, trivial⟩
        case measure => simp [intOf]; omega
    · obtain rfl : k = n := by omega
      have h5 := HZ.out
      rw [List.drop_eq_nil_of_le (by have := HN.out; omega)] at h5
      cases h5
end Go.Proofs.Ytaaagdmhokgcjaa
