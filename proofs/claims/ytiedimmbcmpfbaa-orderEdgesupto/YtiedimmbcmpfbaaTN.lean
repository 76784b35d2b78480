
-- Twins of nodes.
import Derived.Test.YtiedimmbcmpfbaaSN
import Derived.Deep.RegionHeldLaw
namespace Go.Proofs.Ytiedimmbcmpfbaa
open Go.ChangeShapes Go.WideShapes Go.ChangeAt Go.RowKit Go.MapKept
set_option linter.unusedVariables false
set_option maxRecDepth 100000
def mkN : Nv := ⟨slT, (none, 0, 0), (none, 0, 0)⟩
/-- each node is a twin -/
def NdTw (B : Nat) (w : World) (vs : List Nv) (Ns : List No) : Prop :=
  ∀ (i : Nat) (x : Nv) (N : No), vs[i]? = some x → Ns[i]? = some N → x.nm = N.nm ∧ Tw txL 1 9 B w (slV x.d) N.df slT ∧ Tw txL 1 9 B w (slV x.n) N.nd slT
theorem NdTw.on {B : Nat} {w w' : World} {vs : List Nv} {Ns : List No} (h : NdTw B w vs Ns) (hb : Below w.heap.size w w') : NdTw B w' vs Ns :=
  fun i x N h1 h2 => ⟨(h i x N h1 h2).1, (h i x N h1 h2).2.1.on hb, (h i x N h1 h2).2.2.on hb⟩
theorem NdTw.keep {B : Nat} {w w' : World} {vs : List Nv} {Ns : List No} (h : NdTw B w vs Ns) (hk : ∀ k cs, w.heap[k]? = some (.cells cs 9 (0, 0)) → B ≤ k → w'.heap[k]? = w.heap[k]?) : NdTw B w' vs Ns :=
  fun i x N h1 h2 => ⟨(h i x N h1 h2).1, (h i x N h1 h2).2.1.keep hk, (h i x N h1 h2).2.2.keep hk⟩
theorem NdTw.snoc {B : Nat} {w : World} {vs : List Nv} {Ns : List No} {x : Nv} {N : No} (h : NdTw B w vs Ns) (hN : Ns[vs.length]? = some N) (h1 : x.nm = N.nm) (h2 : Tw txL 1 9 B w (slV x.d) N.df slT) (h3 : Tw txL 1 9 B w (slV x.n) N.nd slT) : NdTw B w (vs ++ [x]) Ns := by
  intro i y M hy hM
  rw [List.getElem?_append] at hy
  by_cases hi : i < vs.length
  · rw [if_pos hi] at hy
    exact h i y M hy hM
  · rw [if_neg hi] at hy
    have : i - vs.length = 0 := by
      have := (List.getElem?_eq_some_iff.1 hy).1
      simp at this
      omega
    rw [this] at hy
    simp at hy
    subst hy
    have e : i = vs.length := by omega
    subst e
    rw [hN] at hM
    injection hM with hM
    subst hM
    exact ⟨h1, h2, h3⟩
set_option maxHeartbeats 16000000 in
theorem nodes_c (v : Value) (vs : List Nv) (Ns : List No) (w : World) (h : NodesAt (fun b => w.heap.size ≤ b) w v vs Ns) (hn : Ns.length ≤ 1048576) (hd : ∀ N ∈ Ns, N.df.length ≤ 4398046511104 ∧ N.nd.length ≤ 4398046511104) :
    Calls Try.prog 4 #[v] w fun e w' => ∃ a l c us, e = .returned (.slice a l c) ∧ Tw noL 3 29 w.heap.size w' (.slice a l c) us mkN ∧ us.length = Ns.length ∧ NdTw w.heap.size w' us Ns ∧ Below w.heap.size w w' := by
  obtain ⟨a1, c1, q1, _, _⟩ := h.row.row.form
  obtain ⟨n, hnn⟩ : ∃ n, n = vs.length := ⟨_, rfl⟩
  have HN := hidK hnn
  have HNN : Hid (n = Ns.length) := hnn.trans h.len
  have HV := hidK h
  have HD := hidK hd
  rw [← hnn] at q1
  rw [← HNN.out] at hn ⊢
  subst q1
  clear h hnn hd
  go_enter Try.func4, Try.ntmps4
  go_wp2
  go_loopw [3, 4] (fun o i wx => ∃ (k : Nat) (us : List Nv), i = .int .i64 k ∧ k ≤ n ∧ us.length = k ∧ (∃ a l c, o = .slice a l c) ∧ OwnF (fun b => w.heap.size ≤ b) noL 3 29 wx o us ∧ NdTw w.heap.size wx us Ns ∧ Below w.heap.size w wx) (fun _ i _ => n - (intOf i).toNat)
  case atStart => exact ⟨0, [], rfl, Nat.zero_le _, rfl, ⟨_, _, _, rfl⟩, OwnF.nil, fun i x N h1 h2 => by simp at h1, Below.refl _ _⟩
  case round =>
    obtain ⟨k, us, rfl, hkn, hul, ⟨ao, lo, co, rfl⟩, ho, ht, hB⟩ := hrel
    have HO := hidK ho
    have HT := hidK ht
    have HB0 := hidK hB
    have HUL := hidK hul
    by_cases hk : k < n
    · have kI : (k : Int) < (n : Int) := by omega
      have k0 : (0 : Int) ≤ (k : Int) := by omega
      have kw : IntKind.i64.wrap ((k : Int) + 1) = (k : Int) + 1 := by rw [IntKind.wrap_i64]; omega
      obtain ⟨x, hx⟩ : ∃ x, vs[k]? = some x := ⟨_, List.getElem?_eq_getElem (by have := HN.out; omega)⟩
      obtain ⟨N, hN⟩ : ∃ x, Ns[k]? = some x := ⟨_, List.getElem?_eq_getElem (by have := HNN.out; omega)⟩
      have hV := HV.out.below hB
      obtain ⟨b1, o1, p1, e1, d0, d1, d2⟩ := hV.row.row.no hx
      obtain ⟨hnm, hdf, hnd⟩ := hV.at_ k x N hx hN
      obtain ⟨nm, ⟨da, dl, dc⟩, ⟨na, nl, nc⟩⟩ := x
      simp only [slV] at d0 d1 d2 hdf hnd hnm
      subst hnm
      have HX := hidK hN
      injection e1 with e1 e1b e1c
      subst e1
      have hDm := HD.out N (List.mem_of_getElem? hN)
      obtain ⟨v1, hv1e⟩ : ∃ v, v = Value.slice da dl dc := ⟨_, rfl⟩
      obtain ⟨v2, hv2e⟩ : ∃ v, v = Value.slice na nl nc := ⟨_, rfl⟩
      rw [← hv1e] at d1 hdf
      rw [← hv2e] at d2 hnd
      obtain ⟨G, hG⟩ : ∃ G : Nat → Prop, G = fun b => w.heap.size ≤ b := ⟨_, rfl⟩
      have hGb : ¬ G b1 := by
        obtain ⟨ao', cap', e', _, _, _, h4⟩ := hV.row
        obtain ⟨b', o', e2, hb', _⟩ := h4 (by have := HN.out; omega)
        rw [e2] at e'
        injection e' with e' _ _
        injection e' with e'
        injection e' with e3 _
        subst e3
        rw [hG]
        exact hb'
      have hv0 : ∀ W, Kp G wr W → W.cell? ⟨b1, o1 + k * 3, none⟩ = some (.string N.nm) := fun W hb => hb.cell d0 hGb
      have hv1 : ∀ W, Kp G wr W → W.cell? ⟨b1, o1 + k * 3 + 1, none⟩ = some v1 := fun W hb => hb.cell d1 hGb
      have hv2 : ∀ W, Kp G wr W → W.cell? ⟨b1, o1 + k * 3 + 2, none⟩ = some v2 := fun W hb => hb.cell d2 hGb
      have H1 : Hid (∀ W, Below wr.heap.size wr W → Calls Try.prog 9 #[v1] W fun e w' => ∃ a l c, e = .returned (.slice a l c) ∧ (Tw txL 1 9 w.heap.size w' (.slice a l c) N.df slT ∧ Below W.heap.size W w') ∧ Below wr.heap.size wr w') := fun W hb => (texts_c v1 N.df W (hdf.row.on hb) hDm.1).mono (by
        rintro e w' ⟨a, l, c, rfl, q1, q2⟩
        exact ⟨a, l, c, rfl, ⟨q1.le (by have := hb.size; have := hB.size; omega), q2⟩, bel3K hb q2⟩)
      have H2 : Hid (∀ W, Below wr.heap.size wr W → Calls Try.prog 9 #[v2] W fun e w' => ∃ a l c, e = .returned (.slice a l c) ∧ (Tw txL 1 9 w.heap.size w' (.slice a l c) N.nd slT ∧ Below W.heap.size W w') ∧ Below wr.heap.size wr w') := fun W hb => (texts_c v2 N.nd W (hnd.row.on hb) hDm.2).mono (by
        rintro e w' ⟨a, l, c, rfl, q1, q2⟩
        exact ⟨a, l, c, rfl, ⟨q1.le (by have := hb.size; have := hB.size; omega), q2⟩, bel3K hb q2⟩)
      have HK0 : Hid (∀ W, Below wr.heap.size wr W → Kp G wr W) := fun W hb => Kp.of_below hb
      have hb0 : Below wr.heap.size wr wr := Below.refl _ _
      have HU1 : Hid (us.length ≤ 1048576) := by show _ ≤ _; omega
      have HGN : Hid (∀ q, wr.heap.size ≤ q → G q) := fun q hq => by rw [hG]; have := hB.size; omega
      have HOG : Hid (∀ W, Below wr.heap.size wr W → OwnF G noL 3 29 W (.slice ao lo co) us) := fun W hb => by rw [hG]; exact ho.on hb
      have HOB : Hid (∀ k, (Value.slice ao lo co).ownBlock = some k → G k) := fun k hk => by rw [hG]; exact ho.2 k hk
      have HNEW : Hid (∀ (W : World) (a5 : Option Addr) (l5 c5 : Nat) (a6 : Option Addr) (l6 c6 : Nat), RowG noL (W.alloc (.cells #[.string N.nm, .slice a5 l5 c5, .slice a6 l6 c6] 29)) (.slice (some ⟨W.heap.size, 0, none⟩) 1 1) [⟨N.nm, (a5, l5, c5), (a6, l6, c6)⟩]) := fun W a5 l5 c5 a6 l6 c6 => rowG_new elN W ⟨N.nm, (a5, l5, c5), (a6, l6, c6)⟩ _ rfl
      have HGE := hidK hG
      clear hx hN e1b e1c hV hdf hnd ho hB hDm hul ht hG hGb d0 d1 d2 hv1e hv2e
      go_upto_region 5 with fail
      go_region_held3 (fun w' => Kp G wr w') (first | assumption | exact HK0.out _ hb0.drew | exact hSw.drew | exact HK0.out _ hS5 | exact HK0.out _ hS6 | exact HK0.out _ (bupK hS6 _) | exact hk7 | exact hk7.drew) (first
        | (go_at_call_of 9 v1; refine (H1.out _ (by first | exact hb0 | exact hb0.drew)).mono ?_; rintro e w5 ⟨a5, l5, c5, rfl, hq5, hS5⟩)
        | (go_at_call_of 9 v2; refine (H2.out _ (by first | exact hS5 | exact hS5.drew)).mono ?_; rintro e w6 ⟨a6, l6, c6, rfl, hq6, hS6⟩)
        | (refine stepG_all (F := G) elN rfl (.tmp 11) (.tmp 30) rfl (.slice ao lo co) us ⟨N.nm, (a5, l5, c5), (a6, l6, c6)⟩ w6.heap.size 1 (by simp [Act.eval]) (by simp [Act.eval]) (HOG.out _ (bupK hS6 _)) (HNEW.out w6 a5 l5 c5 a6 l6 c6) (noL_one _) (by have := HU1.out; omega) (fun b hb => HGN.out b (Nat.le_trans (bupK hS6 _).size hb)) ?_; intro v7 w7 o7 k7 l7; have hk7 : Kp G wr w7 := (HK0.out _ (bupK hS6 _)).trans (k7.weak HOB.out)))
      obtain ⟨a7, p7, e7, _⟩ := o7.form
      have HO7 := hidK o7
      have HB6 : Hid (Below w.heap.size w w7) := HB0.out.trans (hk7.below (fun b h => by rw [HGE.out] at h; exact h) HB0.out.size)
      have HT7 : Hid (NdTw w.heap.size w7 (us ++ [⟨N.nm, (a5, l5, c5), (a6, l6, c6)⟩]) Ns) := by
        have hb6 : Below wr.heap.size wr (w6.alloc (.cells #[.string N.nm, .slice a5 l5 c5, .slice a6 l6 c6] 29)) := bupK hS6 _
        have hb7 : Below w6.heap.size w6 (w6.alloc (.cells #[.string N.nm, .slice a5 l5 c5, .slice a6 l6 c6] 29)) := bupK (Below.refl _ _) _
        have q : NdTw w.heap.size (w6.alloc (.cells #[.string N.nm, .slice a5 l5 c5, .slice a6 l6 c6] 29)) (us ++ [⟨N.nm, (a5, l5, c5), (a6, l6, c6)⟩]) Ns :=
          (HT.out.on hb6).snoc (by rw [HUL.out]; exact HX.out) rfl ((hq5.1.on hq6.2).on hb7) (hq6.1.on hb7)
        refine q.keep fun k cs hc _ => k7.block k (Array.getElem?_eq_some_iff.1 hc).1 (fun e => ?_)
        obtain ⟨cs', hc'⟩ := (HOG.out _ hb6).typed e
        exact cells_typD hc hc' (by decide) rfl
      obtain ⟨m7, hm7⟩ : ∃ m, m = (us ++ [(⟨N.nm, (a5, l5, c5), (a6, l6, c6)⟩ : Nv)]).length := ⟨_, rfl⟩
      rw [← hm7] at e7
      subst e7
      clear hv0 hv1 hv2 H1 H2 HK0 hb0 hq5 hS5 hq6 hS6 o7 k7 l7 hk7 hm7 HOB HOG HNEW
      go_wp2
      go_roundw
      case rel => exact ⟨k + 1, _, by go_num, by omega, by rw [List.length_append, HUL.out]; rfl, ⟨_, _, _, rfl⟩, by rw [HGE.out] at HO7; exact HO7.out, HT7.out, HB6.out⟩
      case measure => simp [intOf]; omega
    · obtain rfl : k = n := by omega
      clear HV ho ht hB hul
      go_upto_region 7 with (refine wpG_one (F := fun b => w.heap.size ≤ b) elN rfl (.tmp 32) (.tmp 34) rfl (.slice ao lo co) us mkN #[.string ⟨#[47]⟩, .slice none 0 0, .slice none 0 0] rfl rfl rfl HO.out (noL_one _) (by have := HUL.out; omega) (fun b hb => Nat.le_trans HB0.out.size hb) ?_; intro v6 w6 o6 k6 l6; have HO6 := hidK o6; have HK6 := hidK k6; clear o6 k6 l6)
      obtain ⟨g, cap, e6, hc1, hc2, htw⟩ := Tw.of HO6.out
      have HB6 : Hid (Below w.heap.size w w6) := HB0.out.trans (HK6.out.below (fun b hb => HO.out.2 b hb) HB0.out.size)
      have HT6 : Hid (NdTw w.heap.size w6 us Ns) := HT.out.keep fun k cs hc _ => HK6.out.block k (Array.getElem?_eq_some_iff.1 hc).1 (fun e => by
        obtain ⟨cs', hc'⟩ := HO.out.typed e
        exact cells_typD hc hc' (by decide) rfl)
      rw [HUL.out] at e6 htw hc1
      subst e6
      have HTW := hidK htw
      clear htw HO6 HK6 HO
      have i1 : (k : Int) ≤ (cap : Int) := by omega
      have hc3 : cap ≤ 9223372036854775807 := by unfold maxLen at hc2; omega
      go_wp2
      go_ret
      exact ⟨_, _, _, us, rfl, HTW.out, HUL.out, HT6.out, HB6.out⟩
end Go.Proofs.Ytiedimmbcmpfbaa
