
-- reaches.
import Derived.Test.YtnnpdomfkedhpaaRL
namespace Go.Proofs.Ytnnpdomfkedhpaa
open Go.ChangeShapes Go.WideShapes Go.ChangeAt Go.RowKit Go.MapKept
set_option linter.unusedVariables false
set_option maxRecDepth 100000
/-- the numbers of those that are in, among the first k -/
def insK (fl : List Bool) (k : Nat) : List Nat := (List.range k).filter fun i => fl.getD i false
def defK (O : List Ob) (fl : List Bool) (k : Nat) : List ByteArray := (insK fl k).flatMap fun i => match O[i]? with
  | some o => o.df
  | none => []
theorem insK_yes {fl : List Bool} {k : Nat} (h : fl.getD k false = true) : insK fl (k + 1) = insK fl k ++ [k] := by
  unfold insK; rw [List.range_succ, List.filter_append, List.filter_cons_of_pos (by exact h), List.filter_nil]
theorem insK_no {fl : List Bool} {k : Nat} (h : fl.getD k false = false) : insK fl (k + 1) = insK fl k := by
  unfold insK; rw [List.range_succ, List.filter_append, List.filter_cons_of_neg (by rw [h]; decide), List.filter_nil, List.append_nil]
theorem defK_yes {O : List Ob} {fl : List Bool} {k : Nat} {o : Ob} (ho : O[k]? = some o) (h : fl.getD k false = true) : defK O fl (k + 1) = defK O fl k ++ o.df := by
  unfold defK; rw [insK_yes h, List.flatMap_append, List.flatMap_singleton, ho]
theorem defK_no {O : List Ob} {fl : List Bool} {k : Nat} (h : fl.getD k false = false) : defK O fl (k + 1) = defK O fl k := by
  unfold defK; rw [insK_no h]
theorem insK_le (fl : List Bool) (k : Nat) : (insK fl k).length ≤ k := by
  have := List.length_filter_le (fun i => fl.getD i false) (List.range k)
  rw [List.length_range] at this
  exact this
theorem defK_le {O : List Ob} (fl : List Bool) {M : Nat} (hM : ∀ o ∈ O, o.df.length ≤ M) (k : Nat) : (defK O fl k).length ≤ M * k := by
  induction k with
  | zero => simp [defK, insK]
  | succ k ih =>
    rw [Nat.mul_add, Nat.mul_one]
    cases h : fl.getD k false with
    | false => rw [defK_no h]; omega
    | true =>
      cases ho : O[k]? with
      | none =>
        have : defK O fl (k + 1) = defK O fl k := by unfold defK; rw [insK_yes h, List.flatMap_append, List.flatMap_singleton, ho]; exact List.append_nil _
        rw [this]; omega
      | some o => rw [defK_yes ho h, List.length_append]; have := hM o (List.mem_of_getElem? ho); omega
structure Rch (O : List Ob) (kf : Nat → Int) (fl : List Bool) (asked : List ByteArray) (x : Lk) : Prop where
  i : ∀ i, i < O.length → isIn x.p (plc kf i) = fl.getD i false
  n : x.p.length = (insK fl O.length).length
  dl : x.d.length = (defK O fl O.length).length
  d : ∀ n ∈ defK O fl O.length, n ∈ x.d
  o : ∀ n ∈ asked, isIn (defK O fl O.length) n ≠ isIn x.w n
  w : ∀ n ∈ x.w, n ∈ asked
theorem Reached.rch {O : List Ob} {kf : Nat → Int} {roots : List ByteArray} {x : Lk} (h : Reached O kf roots x) : Rch O kf (rall O roots).1 (rall O roots).2 x := ⟨h.i, h.n, h.dl, h.d, h.o, h.w⟩
set_option maxHeartbeats 16000000 in
theorem reaches_c (xd xw xp v va : Value) (g : Nat) (ovs : List Ov) (O : List Ob) (kf : Nat → Int) (fl : List Bool) (asked : List ByteArray) (x : Lk) (bk : Bool) (w : World) (hV : ObsAt (fun b => w.heap.size ≤ b) w v ovs O) (hd : RowT w xd x.d) (hw : RowT w xw x.w) (hp : RowP w xp x.p)
    (hg : w.heap[g]? = some (.cells (fl.flatMap boL).toArray 4 (0, 0))) (hfl : fl.length = O.length) (ha : RowT w va asked) (hk : ∀ i y, ovs[i]? = some y → 0 ≤ y.k ∧ y.k ≤ 2 ∧ kf i = if bk then 2 - y.k else y.k) (hn : O.length ≤ 1000) (hM : ∀ o ∈ O, o.df.length ≤ 1048576) (hxw : x.w.length ≤ 4398046511104) (hal : asked.length ≤ 4398046511104) (hR : Rch O kf fl asked x) :
    Calls Try.prog 8 #[.agg #[xd, xw, xp], v, .slice (some ⟨g, 0, none⟩) O.length O.length, va, .bool bk] w fun e w' => e = .returned (.bool true) ∧ Below w.heap.size w w' := by
  obtain ⟨a1, c1, q1, _, _⟩ := hV.row.row.form
  obtain ⟨n, hnn⟩ : ∃ n, n = O.length := ⟨_, rfl⟩
  have HN := hidK hnn
  have HL := hidK hV.len
  have HFL := hidK hfl
  rw [hV.len, ← hnn] at q1
  subst q1
  obtain ⟨ad, cd, ed, _, _⟩ := hd.form
  obtain ⟨ld, hld⟩ : ∃ l, l = x.d.length := ⟨_, rfl⟩
  rw [← hld] at ed
  subst ed
  obtain ⟨aw, cw, ew, _, _⟩ := hw.form
  obtain ⟨lw, hlw⟩ : ∃ l, l = x.w.length := ⟨_, rfl⟩
  rw [← hlw] at ew hxw
  subst ew
  obtain ⟨ap, cp, ep, _, _⟩ := hp.form
  obtain ⟨lp, hlp⟩ : ∃ l, l = x.p.length := ⟨_, rfl⟩
  rw [← hlp] at ep
  subst ep
  obtain ⟨aa, ca, ea, _, _⟩ := ha.form
  obtain ⟨la, hla⟩ : ∃ l, l = asked.length := ⟨_, rfl⟩
  rw [← hla] at ea hal
  subst ea
  obtain ⟨S, hS⟩ : ∃ S, S = Obj.cells #[.slice ad ld cd, .slice aw lw cw, .slice ap lp cp] 32 := ⟨_, rfl⟩
  obtain ⟨w1, hw1⟩ : ∃ w1, w1 = w.alloc S := ⟨_, rfl⟩
  have hb1 : Below w.heap.size w w1 := by rw [hw1]; exact (Below.refl _ w).alloc (Nat.le_refl _) S
  have hx0 : w1.heap[w.heap.size]? = some (.cells #[.slice ad ld cd, .slice aw lw cw, .slice ap lp cp] 32 (0, 0)) := by rw [hw1, heap_alloc_new, hS]
  have HBW : Hid (∀ W, Below w1.heap.size w1 W → Below w.heap.size w W) := fun W hb => bel3K hb1 hb
  have HOB : Hid (∀ W, Below w1.heap.size w1 W → ObsAt (fun b => W.heap.size ≤ b) W (.slice a1 n c1) ovs O) := fun W hb => (hV.kp (Kp.of_below (HBW.out W hb))).weak (fun b _ hh => Nat.le_trans (HBW.out W hb).size hh)
  have HRD : Hid (∀ W, Below w1.heap.size w1 W → RowT W (.slice ad ld cd) x.d) := fun W hb => hd.on (HBW.out W hb)
  have HRW : Hid (∀ W, Below w1.heap.size w1 W → RowT W (.slice aw lw cw) x.w) := fun W hb => hw.on (HBW.out W hb)
  have HRP : Hid (∀ W, Below w1.heap.size w1 W → RowP W (.slice ap lp cp) x.p) := fun W hb => hp.on (HBW.out W hb)
  have HRA : Hid (∀ W, Below w1.heap.size w1 W → RowT W (.slice aa la ca) asked) := fun W hb => ha.on (HBW.out W hb)
  have HGG : Hid (∀ W, Below w1.heap.size w1 W → W.heap[g]? = some (.cells (fl.flatMap boL).toArray 4 (0, 0))) := fun W hb => hkeepK (HBW.out W hb) hg
  have HBX : Hid (∀ W, Below w1.heap.size w1 W → W.heap[w.heap.size]? = some (.cells #[.slice ad ld cd, .slice aw lw cw, .slice ap lp cp] 32 (0, 0))) := fun W hb => hkeepK hb hx0
  have HDL := hidK (defK_le fl hM)
  have HM := hidK hM
  have HK := hidK hk
  have HR := hidK hR
  have HLP : Hid (lp = (insK fl n).length) := by show _ = _; rw [hlp, hR.n, hnn]
  have HLD : Hid (ld = (defK O fl n).length) := by show _ = _; rw [hld, hR.dl, hnn]
  have HLPx := hidK hlp
  have HLDx := hidK hld
  have HLW := hidK hlw
  have HLA := hidK hla
  rw [← hnn] at hn ⊢
  have hlpn : lp ≤ 1000 := by rw [HLP.out]; exact Nat.le_trans (insK_le fl n) hn
  have hldn : ld ≤ 1048576000 := by
    have h1 := HDL.out n
    have h2 : 1048576 * n ≤ 1048576 * 1000 := Nat.mul_le_mul_left _ hn
    rw [HLD.out]; omega
  clear hV hd hw hp ha hg hfl hk hM hR hlp hld hlw hla hnn hx0 hb1
  subst hS
  go_enter Try.func8, Try.ntmps8
  go_upto_region 1 with fail
  rw [← hw1]
  clear hw1
  go_wp2
  go_loopw [11, 12, 13] (fun c d i wx => ∃ k : Nat, i = .int .i64 k ∧ k ≤ n ∧ c = .int .i64 ((insK fl k).length : Nat) ∧ OwnF (fun b => w1.heap.size ≤ b) txL 1 9 wx d (defK O fl k) ∧ Below w1.heap.size w1 wx) (fun _ _ i _ => n - (intOf i).toNat)
  case atStart => exact ⟨0, rfl, Nat.zero_le _, rfl, OwnF.nil, Below.refl _ _⟩
  case round =>
    obtain ⟨k, rfl, hkn, rfl, ho, hB⟩ := hrel
    obtain ⟨x0, x1, x2⟩ := lk_cells (HBX.out wr hB)
    by_cases hk : k < n
    · have kI : (k : Int) < (n : Int) := by omega
      have k0 : (0 : Int) ≤ (k : Int) := by omega
      have kw : IntKind.i64.wrap ((k : Int) + 1) = (k : Int) + 1 := by rw [IntKind.wrap_i64]; omega
      have k2 : IntKind.i64.wrap (2 * (k : Int)) = 2 * (k : Int) := by rw [IntKind.wrap_i64]; omega
      have k8 : IntKind.i64.wrap (8 + 2 * (k : Int)) = 8 + 2 * (k : Int) := by rw [IntKind.wrap_i64]; omega
      obtain ⟨c, hc⟩ : ∃ c, c = (insK fl k).length := ⟨_, rfl⟩
      have HC := hidK hc
      have hck : c ≤ 1000 := by rw [hc]; have := insK_le fl k; omega
      have ciw : IntKind.i64.wrap ((c : Int) + 1) = (c : Int) + 1 := by rw [IntKind.wrap_i64]; omega
      rw [← hc]
      obtain ⟨o, hoj⟩ : ∃ o, O[k]? = some o := ⟨_, List.getElem?_eq_getElem (by have := HN.out; omega)⟩
      obtain ⟨⟨kk, xf, xg⟩, hx⟩ : ∃ y, ovs[k]? = some y := ⟨_, List.getElem?_eq_getElem (by have := HN.out; have := HL.out; omega)⟩
      have hobs := HOB.out wr hB
      obtain ⟨b1, o1, p1, e1, d0, d1, d2⟩ := hobs.row.row.ov hx
      simp only at d0 d1 d2
      obtain ⟨h1, h2⟩ := hobs.ea k _ o hx hoj
      simp only at h1 h2
      injection e1 with e1 e1b e1c
      subst e1
      obtain ⟨hk1, hk2, hkf⟩ := HK.out k _ hx
      simp only at hk1 hk2 hkf
      have kkw : IntKind.i64.wrap (2 - kk) = 2 - kk := by rw [IntKind.wrap_i64]; omega
      obtain ⟨af, cf, ef, _, _⟩ := h1.row.form
      obtain ⟨lf, hlf⟩ : ∃ l, l = o.df.length := ⟨_, rfl⟩
      rw [← hlf] at ef
      subst ef
      have hlf2 : lf ≤ 1048576 := by rw [hlf]; exact HM.out o (List.mem_of_getElem? hoj)
      have HFC : Hid (∀ W, Below w1.heap.size w1 W → W.cell? ⟨g, k, none⟩ = some (.bool (fl.getD k false))) := fun W hb => flag_cell (HGG.out W hb) (show k < fl.length by have := HFL.out; have := HN.out; omega)
      have HAM : Hid (Calls Try.prog 15 #[.slice ap lp cp, .agg #[.int .i64 (kf k), .int .i64 (8 + 2 * (k : Int))]] wr fun e w' => e = .returned (.bool (fl.getD k false)) ∧ Below wr.heap.size wr w') := by
        refine (among_c _ x.p (kf k) (8 + 2 * (k : Int)) wr (HRP.out wr hB) (by have := HLPx.out; omega)).mono ?_
        rintro e w' ⟨q1, q2⟩
        have := HR.out.i k (by have := HN.out; omega)
        unfold plc at this
        rw [this] at q1
        exact ⟨q1, q2⟩
      have HRF : Hid (RowT wr (.slice af lf cf) o.df) := h1.row
      have HSM : Hid (((defK O fl k).length + o.df.length) * (16 + 1) ≤ 140737488355328) := by
        show _ ≤ _
        have h3 := HDL.out k
        have h4 : 1048576 * k ≤ 1048576 * 1000 := Nat.mul_le_mul_left _ (by omega)
        omega
      have HO := hidK ho
      have HB := hidK hB
      have HOJ := hidK hoj
      have HD1 := hidK d1
      clear hobs hx e1b e1c h1 h2 hlf ho hB hoj hc
      cases hfk : fl.getD k false with
      | false =>
        cases bk with
        | false =>
          have HAM2 := hidK (HAM.out)
          rw [show kf k = kk from hkf] at HAM2
          rw [hfk] at HAM2 HFC
          have HFK := hidK hfk
          clear hfk hkf HAM
          go_upto_region 10 with (go_at_call 15; refine HAM2.out.mono ?_; rintro e w6 ⟨rfl, hS6⟩)
          have HB6 := hidK (bel3K HB.out hS6)
          have hfc := HFC.out w6 HB6.out
          have d1' := cell_onG HD1.out hS6
          have HO6 := hidK (HO.out.on hS6)
          have HRF6 := hidK (HRF.out.on hS6)
          clear x0 x1 x2 d0 d1 d2 hS6 HAM2 HFC HRF
          go_wp2
          go_roundw
          case rel => exact ⟨k + 1, by go_num, by omega, by rw [insK_no HFK.out, ← HC.out], by rw [defK_no HFK.out]; exact HO6.out, HB6.out⟩
          case measure => simp [intOf]; omega
        | true =>
          have HAM2 := hidK (HAM.out)
          rw [show kf k = 2 - kk from hkf] at HAM2
          rw [hfk] at HAM2 HFC
          have HFK := hidK hfk
          clear hfk hkf HAM
          go_upto_region 10 with (go_at_call 15; refine HAM2.out.mono ?_; rintro e w6 ⟨rfl, hS6⟩)
          have HB6 := hidK (bel3K HB.out hS6)
          have hfc := HFC.out w6 HB6.out
          have d1' := cell_onG HD1.out hS6
          have HO6 := hidK (HO.out.on hS6)
          have HRF6 := hidK (HRF.out.on hS6)
          clear x0 x1 x2 d0 d1 d2 hS6 HAM2 HFC HRF
          go_wp2
          go_roundw
          case rel => exact ⟨k + 1, by go_num, by omega, by rw [insK_no HFK.out, ← HC.out], by rw [defK_no HFK.out]; exact HO6.out, HB6.out⟩
          case measure => simp [intOf]; omega
      | true =>
        cases bk with
        | false =>
          have HAM2 := hidK (HAM.out)
          rw [show kf k = kk from hkf] at HAM2
          rw [hfk] at HAM2 HFC
          have HFK := hidK hfk
          clear hfk hkf HAM
          go_upto_region 10 with (go_at_call 15; refine HAM2.out.mono ?_; rintro e w6 ⟨rfl, hS6⟩)
          have HB6 := hidK (bel3K HB.out hS6)
          have hfc := HFC.out w6 HB6.out
          have d1' := cell_onG HD1.out hS6
          have HO6 := hidK (HO.out.on hS6)
          have HRF6 := hidK (HRF.out.on hS6)
          clear x0 x1 x2 d0 d1 d2 hS6 HAM2 HFC HRF
          go_wp2_with (refine wpG_all (F := fun b => w1.heap.size ≤ b) elT rfl (.tmp 57) (.tmp 62) rfl u12 (.slice af lf cf) (defK O fl k) o.df rfl rfl HO6.out HRF6.out (fun m _ => txL_one m) HSM.out (fun b hb => Nat.le_trans HB6.out.size hb) ?_; intro v9 w9 o9 k9 l9; have HO9 := hidK o9; have HK9 := hidK k9; clear o9 k9 l9)
          go_roundw
          case rel => exact ⟨k + 1, by go_num, by omega, by rw [insK_yes HFK.out, List.length_append, ← HC.out]; go_num, by rw [defK_yes HOJ.out HFK.out]; exact HO9.out, HB6.out.trans (HK9.out.below (fun b hb => HO6.out.2 b hb) HB6.out.size)⟩
          case measure => simp [intOf]; omega
        | true =>
          have HAM2 := hidK (HAM.out)
          rw [show kf k = 2 - kk from hkf] at HAM2
          rw [hfk] at HAM2 HFC
          have HFK := hidK hfk
          clear hfk hkf HAM
          go_upto_region 10 with (go_at_call 15; refine HAM2.out.mono ?_; rintro e w6 ⟨rfl, hS6⟩)
          have HB6 := hidK (bel3K HB.out hS6)
          have hfc := HFC.out w6 HB6.out
          have d1' := cell_onG HD1.out hS6
          have HO6 := hidK (HO.out.on hS6)
          have HRF6 := hidK (HRF.out.on hS6)
          clear x0 x1 x2 d0 d1 d2 hS6 HAM2 HFC HRF
          go_wp2_with (refine wpG_all (F := fun b => w1.heap.size ≤ b) elT rfl (.tmp 57) (.tmp 62) rfl u12 (.slice af lf cf) (defK O fl k) o.df rfl rfl HO6.out HRF6.out (fun m _ => txL_one m) HSM.out (fun b hb => Nat.le_trans HB6.out.size hb) ?_; intro v9 w9 o9 k9 l9; have HO9 := hidK o9; have HK9 := hidK k9; clear o9 k9 l9)
          go_roundw
          case rel => exact ⟨k + 1, by go_num, by omega, by rw [insK_yes HFK.out, List.length_append, ← HC.out]; go_num, by rw [defK_yes HOJ.out HFK.out]; exact HO9.out, HB6.out.trans (HK9.out.below (fun b hb => HO6.out.2 b hb) HB6.out.size)⟩
          case measure => simp [intOf]; omega
    · obtain rfl : k = n := by omega
      obtain ⟨wA, hwA⟩ : ∃ y, y = wr := ⟨_, rfl⟩
      subst hwA
      obtain ⟨a', c', e', _⟩ := ho.form
      rw [← HLD.out] at e'
      rw [← HLP.out]
      subst e'
      have HB := hidK hB
      have HAB : Hid (∀ W, Below wA.heap.size wA W → Below w1.heap.size w1 W) := fun W hb => bel3K HB.out hb
      have HDF : Hid (∀ W, Below wA.heap.size wA W → RowT W (.slice a' ld c') (defK O fl k)) := fun W hb => OwnF.row elT (ho.on hb)
      clear ho hB hk
      go_wp2
      go_loopw [16] (fun i wx => ∃ j : Nat, i = .int .i64 j ∧ j ≤ ld ∧ Below wA.heap.size wA wx) (fun i _ => ld - (intOf i).toNat)
      case atStart => exact ⟨0, rfl, Nat.zero_le _, Below.refl _ _⟩
      case round =>
        obtain ⟨j, rfl, hjn, hB⟩ := hrel
        clear x0 x1 x2
        by_cases hj : j < ld
        · have jI : (j : Int) < (ld : Int) := by omega
          have j0 : (0 : Int) ≤ (j : Int) := by omega
          have jw : IntKind.i64.wrap ((j : Int) + 1) = (j : Int) + 1 := by rw [IntKind.wrap_i64]; omega
          obtain ⟨y, hy⟩ : ∃ y, (defK O fl k)[j]? = some y := ⟨_, List.getElem?_eq_getElem (by have := HLD.out; omega)⟩
          obtain ⟨b1, o1, p1, e1, d0⟩ := (HDF.out wr hB).tx hy
          injection e1 with e1 e1b e1c
          subst e1
          have HD0 := hidK d0
          have HBr := hidK hB
          have HH : Hid (∀ W, Below wr.heap.size wr W → Calls Try.prog 9 #[.slice ad ld cd, .string y] W fun e w' => e = .returned (.bool true) ∧ Below wr.heap.size wr w') := fun W hb => by
            refine (has_c _ x.d y W (HRD.out W (HAB.out W (bel3K HBr.out hb))) (by have := HLDx.out; omega)).mono ?_
            rintro e w' ⟨q1, rfl⟩
            rw [isIn_iff.2 (HR.out.d y (by rw [← HN.out]; exact List.mem_of_getElem? hy))] at q1
            exact ⟨q1, hb⟩
          have hv0 : ∀ W, Below wr.heap.size wr W → W.cell? ⟨w.heap.size, 0, none⟩ = some (.slice ad ld cd) := fun W hb => (lk_cells (HBX.out W (HAB.out W (bel3K HBr.out hb)))).1
          have hv1 : ∀ W, Below wr.heap.size wr W → W.cell? ⟨b1, o1 + j, none⟩ = some (.string y) := fun W hb => cell_onG HD0.out hb
          have hb0 : Below wr.heap.size wr wr := Below.refl _ _
          clear hy e1b e1c d0 hB
          go_upto_region 20 with fail
          go_region_held3 (fun w' => Below wr.heap.size wr w') (first | assumption | exact hb0.drew | exact hSw.drew) (first
            | (go_at_call 9; refine (HH.out _ (by assumption)).mono ?_; rintro e w6 ⟨rfl, hS6⟩))
          have HB6 := hidK (bel3K HBr.out hS6)
          clear hv0 hv1 hb0 HH hS6
          go_wp2
          go_roundw
          case rel => exact ⟨j + 1, by go_num, by omega, HB6.out⟩
          case measure => simp [intOf]; omega
        · obtain rfl : j = ld := by omega
          obtain ⟨wB, hwB⟩ : ∃ y, y = wr := ⟨_, rfl⟩
          subst hwB
          have HB2 := hidK hB
          clear hB hj
          go_wp2
          go_loopw [18] (fun i wx => ∃ l : Nat, i = .int .i64 l ∧ l ≤ la ∧ Below wA.heap.size wA wx) (fun i _ => la - (intOf i).toNat)
          case atStart => exact ⟨0, rfl, Nat.zero_le _, HB2.out⟩
          case round =>
            obtain ⟨l, rfl, hln, hB⟩ := hrel
            by_cases hl : l < la
            · have jI : (l : Int) < (la : Int) := by omega
              have j0 : (0 : Int) ≤ (l : Int) := by omega
              have jw : IntKind.i64.wrap ((l : Int) + 1) = (l : Int) + 1 := by rw [IntKind.wrap_i64]; omega
              obtain ⟨y, hy⟩ : ∃ y, asked[l]? = some y := ⟨_, List.getElem?_eq_getElem (by have := HLA.out; omega)⟩
              obtain ⟨b1, o1, p1, e1, d0⟩ := (HRA.out wr (HAB.out wr hB)).tx hy
              injection e1 with e1 e1b e1c
              subst e1
              have HD0 := hidK d0
              have HBr := hidK hB
              have hne := HR.out.o y (List.mem_of_getElem? hy)
              rw [← HN.out] at hne
              have HH0 : Hid (Calls Try.prog 9 #[.slice a' j c', .string y] wr fun e w' => e = .returned (.bool (isIn (defK O fl k) y)) ∧ w' = wr) := has_c _ (defK O fl k) y wr (HDF.out wr hB) (by have := HLD.out; omega)
              have HH : Hid (∀ W, Below wr.heap.size wr W → Calls Try.prog 9 #[.slice aw lw cw, .string y] W fun e w' => e = .returned (.bool (isIn x.w y)) ∧ Below wr.heap.size wr w') := fun W hb => by
                refine (has_c _ x.w y W (HRW.out W (HAB.out W (bel3K HBr.out hb))) (by have := HLW.out; omega)).mono ?_
                rintro e w' ⟨q1, rfl⟩
                exact ⟨q1, hb⟩
              have HV0 : Hid (∀ W, Below wr.heap.size wr W → W.cell? ⟨w.heap.size, 1, none⟩ = some (.slice aw lw cw)) := fun W hb => (lk_cells (HBX.out W (HAB.out W (bel3K HBr.out hb)))).2.1
              have HV1 : Hid (∀ W, Below wr.heap.size wr W → W.cell? ⟨b1, o1 + l, none⟩ = some (.string y)) := fun W hb => cell_onG HD0.out hb
              clear hy e1b e1c hB
              cases hkn : isIn (defK O fl k) y with
              | false =>
                rw [hkn] at HH0 hne
                rw [show isIn x.w y = true by cases hh : isIn x.w y with | false => (rw [hh] at hne; exact absurd rfl hne) | true => rfl] at HH
                clear hkn hne
                go_upto_region 27 with (go_at_call 9; refine HH0.out.mono ?_; rintro e w6 ⟨rfl, hw6⟩; subst w6)
                have hv0 := HV0.out
                have hv1 := HV1.out
                have hb0 : Below wr.heap.size wr wr := Below.refl _ _
                clear d0
                go_region_held3 (fun w' => Below wr.heap.size wr w') (first | assumption | exact hb0.drew | exact hSw.drew) (first
                  | (go_at_call 9; refine (HH.out _ (by assumption)).mono ?_; rintro e w6 ⟨rfl, hS6⟩))
                have HB6 := hidK (bel3K HBr.out hS6)
                clear hv0 hv1 hb0 HH hS6
                go_wp2
                go_roundw
                case rel => exact ⟨l + 1, by go_num, by omega, HB6.out⟩
                case measure => simp [intOf]; omega
              | true =>
                rw [hkn] at HH0 hne
                rw [show isIn x.w y = false by cases hh : isIn x.w y with | true => (rw [hh] at hne; exact absurd rfl hne) | false => rfl] at HH
                clear hkn hne
                go_upto_region 27 with (go_at_call 9; refine HH0.out.mono ?_; rintro e w6 ⟨rfl, hw6⟩; subst w6)
                have hv0 := HV0.out
                have hv1 := HV1.out
                have hb0 : Below wr.heap.size wr wr := Below.refl _ _
                clear d0
                go_region_held3 (fun w' => Below wr.heap.size wr w') (first | assumption | exact hb0.drew | exact hSw.drew) (first
                  | (go_at_call 9; refine (HH.out _ (by assumption)).mono ?_; rintro e w6 ⟨rfl, hS6⟩))
                have HB6 := hidK (bel3K HBr.out hS6)
                clear hv0 hv1 hb0 HH hS6
                go_wp2
                go_roundw
                case rel => exact ⟨l + 1, by go_num, by omega, HB6.out⟩
                case measure => simp [intOf]; omega
            · obtain rfl : l = la := by omega
              have HB3 := hidK hB
              obtain ⟨wC, hwC⟩ : ∃ y, y = wr := ⟨_, rfl⟩
              subst hwC
              clear hB hl
              go_wp2
              go_loopw [21] (fun i wx => ∃ m : Nat, i = .int .i64 m ∧ m ≤ lw ∧ Below wA.heap.size wA wx) (fun i _ => lw - (intOf i).toNat)
              case atStart => exact ⟨0, rfl, Nat.zero_le _, HB3.out⟩
              case round =>
                obtain ⟨m, rfl, hmn, hB⟩ := hrel
                obtain ⟨x0, x1, x2⟩ := lk_cells (HBX.out wr (HAB.out wr hB))
                by_cases hm : m < lw
                · have jI : (m : Int) < (lw : Int) := by omega
                  have j0 : (0 : Int) ≤ (m : Int) := by omega
                  have jw : IntKind.i64.wrap ((m : Int) + 1) = (m : Int) + 1 := by rw [IntKind.wrap_i64]; omega
                  obtain ⟨y, hy⟩ : ∃ y, x.w[m]? = some y := ⟨_, List.getElem?_eq_getElem (by have := HLW.out; omega)⟩
                  obtain ⟨b1, o1, p1, e1, d0⟩ := (HRW.out wr (HAB.out wr hB)).tx hy
                  injection e1 with e1 e1b e1c
                  subst e1
                  have HH : Hid (Calls Try.prog 9 #[.slice aa l ca, .string y] wr fun e w' => e = .returned (.bool true) ∧ w' = wr) := by
                    refine (has_c _ asked y wr (HRA.out wr (HAB.out wr hB)) (by have := HLA.out; omega)).mono ?_
                    rintro e w' ⟨q1, q2⟩
                    rw [isIn_iff.2 (HR.out.w y (List.mem_of_getElem? hy))] at q1
                    exact ⟨q1, q2⟩
                  have HBr := hidK hB
                  clear hy e1b e1c hB
                  go_wp2_with (go_at_call 9; refine HH.out.mono ?_; rintro e w6 ⟨rfl, hw6⟩; subst w6)
                  go_roundw
                  case rel => exact ⟨m + 1, by go_num, by omega, HBr.out⟩
                  case measure => simp [intOf]; omega
                · have hmI : ¬ ((m : Int) < (lw : Int)) := by omega
                  have HBr := hidK (HBW.out wr (HAB.out wr hB))
                  clear hB
                  go_wp2
                  go_ret
                  exact ⟨rfl, HBr.out⟩
end Go.Proofs.Ytnnpdomfkedhpaa
