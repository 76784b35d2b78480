
-- OrderEdges, walked.
import Derived.Test.YtiedimmbcmpfbaaTN
import Derived.Test.YtiedimmbcmpfbaaSO
namespace Go.Proofs.Ytiedimmbcmpfbaa
open Go.ChangeShapes Go.WideShapes Go.ChangeAt Go.RowKit Go.MapKept
set_option linter.unusedVariables false
set_option maxRecDepth 100000
theorem Tw.nodes {B : Nat} {w : World} {v : Value} {us : List Nv} {Ns : List No} (h : Tw noL 3 29 B w v us mkN) (hl : us.length = Ns.length) (ht : NdTw B w us Ns) : NodesAt (fun b => w.heap.size ≤ b) w v us Ns :=
  ⟨RowG.rowN (by decide) noL_len (h.row elN) (fun b h => h), hl, fun i x N h1 h2 => ⟨(ht i x N h1 h2).1, RowG.rowN (by decide) txL_len ((ht i x N h1 h2).2.1.row elT) (fun b h => h), RowG.rowN (by decide) txL_len ((ht i x N h1 h2).2.2.row elT) (fun b h => h)⟩⟩
set_option maxHeartbeats 16000000 in
theorem orderEdges_w (v : Value) (vs : List Nv) (Ns : List No) (w : World) (h : NodesAt (fun b => w.heap.size ≤ b) w v vs Ns) (hn : Ns.length ≤ 1048576) (hd : ∀ N ∈ Ns, N.df.length ≤ 1048576 ∧ N.nd.length ≤ 1048576) :
    Calls Try.prog 3 #[v] w fun e w' => e = .returned (.bool true) ∧ Below w.heap.size w w' := by
  have hd1 : ∀ N ∈ Ns, N.df.length ≤ 4398046511104 ∧ N.nd.length ≤ 4398046511104 := fun N hN => by have := hd N hN; omega
  have hd2 : ∀ N ∈ Ns, N.df.length < 4611686018427387904 ∧ N.nd.length < 4611686018427387904 := fun N hN => by have := hd N hN; omega
  obtain ⟨n, hnn⟩ : ∃ n, n = Ns.length := ⟨_, rfl⟩
  have HL : Hid ((edgesP Ns Ns.length).length < 4611686018427387904) := by show _ < _; have := (edgesP_ok Ns Ns.length).len hn; omega
  have H1 := hidK (nodes_c v vs Ns w h hn hd1)
  have H2 : Hid (∀ W u us, NodesAt (fun b => W.heap.size ≤ b) W u us Ns → Calls Try.prog 5 #[u] W fun e w' => ∃ a l c, e = .returned (.slice a l c) ∧ OwnF (fun b => W.heap.size ≤ b) edL 2 38 w' (.slice a l c) (edgesP Ns Ns.length) ∧ Below W.heap.size W w') := fun W u us hh => edges_c u us Ns W hh hn hd1
  have H3 : Hid (∀ W, Below w.heap.size w W → Calls Try.prog 6 #[v] W fun e w' => ∃ a l c, e = .returned (.slice a l c) ∧ OwnF (fun b => W.heap.size ≤ b) edL 2 38 w' (.slice a l c) (edgesP Ns Ns.length) ∧ Below W.heap.size W w') := fun W hb => redges_c v vs Ns W (h.on hb) hn hd1
  have H4 : Hid (∀ W u us, Below w.heap.size w W → NdS W u us Ns → Calls Try.prog 7 #[u, v] W fun e w' => e = .returned (.bool true) ∧ Below W.heap.size W w') := fun W u us hb hu => sameNodes_c u v us vs Ns W hu ((h.on hb).nds) (by omega) hd2
  have H5 : Hid (∀ W u t, RowEd W u (edgesP Ns Ns.length) → RowEd W t (edgesP Ns Ns.length) → Calls Try.prog 8 #[u, t] W fun e w' => e = .returned (.bool true) ∧ Below W.heap.size W w') := fun W u t h1 h2 => sameEdges_c u t _ W h1 h2 HL.out
  obtain ⟨a1, c1, q1, _, _⟩ := h.row.row.form
  rw [h.len, ← hnn] at q1
  have HN := hidK hnn
  rw [← hnn] at hn
  subst q1
  clear h hd hd1 hd2 hnn HL
  go_enter Try.func3, Try.ntmps3
  go_upto_region 2 with (go_at_call 4; refine H1.out.mono ?_; rintro e w1 ⟨ai, li, ci, us, rfl, ht, hu, hnt, hb⟩; have HT := hidK ht; have HU := hidK hu; have HNT := hidK hnt; have HB1 := hidK hb; clear ht hu hnt hb)
  have HA2 := hidK (H2.out w1 _ us (HT.out.nodes HU.out HNT.out))
  go_upto_region 3 with (go_at_call 5; refine HA2.out.mono ?_; rintro e w2 ⟨al, ll, cl, rfl, ho, hb⟩; have HO2 := hidK ho; have HB2 := hidK hb; clear ho hb)
  have HBW2 : Hid (Below w.heap.size w w2) := HB1.out.trans (HB2.out.mono HB1.out.size)
  have HA3 := hidK (H3.out w2 HBW2.out)
  go_upto_region 4 with (go_at_call 6; refine HA3.out.mono ?_; rintro e w3 ⟨am, lm, cm, rfl, ho, hb⟩; have HO3 := hidK ho; have HB3 := hidK hb; clear ho hb)
  have HBW3 : Hid (Below w.heap.size w w3) := HBW2.out.trans (HB3.out.mono HBW2.out.size)
  have HB13 : Hid (Below w1.heap.size w1 w3) := HB2.out.trans (HB3.out.mono HB2.out.size)
  have HA4 := hidK (H4.out w3 _ us HBW3.out ((HT.out.nodes HU.out HNT.out).on HB13.out).nds)
  go_upto_region 5 with fail
  obtain ⟨g, cap, e1, hc1, hc2, hrow⟩ := HT.out.full elN
  rw [HU.out, ← HN.out] at e1 hc1 hrow
  injection e1 with x1 x2 x3
  subst x1
  subst x3
  have HLI := hidK x2
  rw [x2] at *
  clear x2
  have HROW := hidK hrow
  have i1 : (n : Int) + 1 ≤ (ci : Int) := by omega
  have i2 : IntKind.i64.wrap ((n : Int) + 1) = (n : Int) + 1 := by rw [IntKind.wrap_i64]; omega
  have hc3 : ci ≤ 9223372036854775807 := by unfold maxLen at hc2; omega
  clear hrow H1 H2 H3 H4 HA2 HA3
  go_upto_region 6 with (go_at_call 7; refine HA4.out.mono ?_; rintro e w4 ⟨rfl, hb⟩; have HB4 := hidK hb; clear hb; have HB14 : Hid (Below w1.heap.size w1 w4) := HB13.out.trans (HB4.out.mono HB13.out.size); obtain ⟨bx, ox, cx, ex, f0, _, _⟩ := (HROW.out.on HB14.out).no (k := n) (x := mkN) (by rw [List.getElem?_append_right (by rw [HU.out, HN.out]; exact Nat.le_refl _), HU.out, ← HN.out, Nat.sub_self]; rfl); injection ex with ex exb exc; injection ex with ex; injection ex with ex1 ex2; subst ex1; subst ex2; rw [Nat.zero_add] at f0; have f1 : w4.cell? ⟨g, n * 3, none⟩ = some (.string ⟨#[47]⟩) := f0; clear exb exc f0)
  have HL5 : Hid (RowEd w4 (.slice al ll cl) (edgesP Ns Ns.length) ∧ RowEd w4 (.slice am lm cm) (edgesP Ns Ns.length)) := ⟨((OwnF.row elE HO2.out).on HB3.out).on HB4.out, (OwnF.row elE HO3.out).on HB4.out⟩
  have HA5 := hidK (H5.out w4 _ _ HL5.out.1 HL5.out.2)
  clear f1 HA4 H5
  go_wp2_with (go_at_call 8; refine HA5.out.mono ?_; rintro e w5 ⟨rfl, hb⟩; have HB5 := hidK hb; clear hb)
  go_ret
  have h4 := HBW3.out.trans (HB4.out.mono HBW3.out.size)
  exact ⟨rfl, h4.trans (HB5.out.mono h4.size)⟩
end Go.Proofs.Ytiedimmbcmpfbaa
